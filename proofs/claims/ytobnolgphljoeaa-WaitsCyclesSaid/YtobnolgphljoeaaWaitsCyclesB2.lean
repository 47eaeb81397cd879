/- Texts merged: Ru, WcD, WcE, ModeA, QuM, QuS, QuP, QuH, BkM, PoM, PoF, BkB, BdK, BdC -/
import Derived.Test.YtobnolgphljoeaaWaitsCyclesB1
import Derived.ProofKit
import Derived.OpenShut
import Derived.ShutString
import Derived.Deep.WholeRow
import Derived.Outline
import Derived.Maps.Range
import Derived.DeepKeys4
set_option linter.unusedVariables false
set_option maxRecDepth 100000
set_option maxHeartbeats 16000000
namespace Go.Proofs.Ytobnolgphljoeaa
open Go.RowKit _root_.Go.Proofs.Try
open Go.Shelf
section
variable {P:Program} {md:Region.Mode} {ops:Array Oper} {Q:Exit→Act→World→Prop} {S:World→Prop} {ts:List Nat}
def Z5(P:Program)(md:Region.Mode)(ops:Array Oper)(Q:Exit→Act→World→Prop)(S:World→Prop)(ts:List Nat):Nat→Array Bool→Act→World→Prop
 | 0,listed,a,w=>Region.ready md ops listed=[]∧Q .normal a w
 | fuel+1,listed,a,w =>
  (Region.ready md ops listed=[]→Q .normal a w) ∧
  ∀i∈Region.ready md ops listed,wpOp P ops Q i (fun a' w'=>(S w→i∈ts∨S w')∧Z5 P md ops Q S ts fuel (listed.setIfInBounds i true) a' w') a w
theorem Vj:∀(fuel:Nat) (listed:Array Bool) (a:Act) (w:World),Z5 P md ops Q S ts fuel listed a w→wpAny P md ops Q fuel listed a w
 | 0,_,_,_,h=>h
 | fuel+1,_,_,_,h=>⟨h.1,fun i hi=>wpOp_mono (fun a' w' h'=>Vj fuel _ a' w' h'.2) (h.2 i hi)⟩
theorem U9{i:Nat}{oi:Oper}{v:Value}(hi:ops[i]?=some oi)(ht:(ts.all fun j=>Vi md ops j i)=true)(hsel:∀(j:Nat) (o:Oper) cs b,ops[j]?=some o→o.op≠.select cs b)
  (hQ:∀c a w,Q (.panic c) (a.put oi.dst v) w→Q (.panic c) a w) :
  ∀(fuel:Nat) (listed:Array Bool) (a:Act) (w:World),
   (∀j oj,ops[j]?=some oj→j≠i→listed.getD j true=false→(∀e∈oj.after,Region.binds md e=true→e.on≠i)→oi.apart ops oj=true) →
   i∈Region.ready md ops listed→YieldsIf P ops S oi v a→S w →
   Z5 P md ops Q S ts fuel (listed.setIfInBounds i true) (a.put oi.dst v) w→Z5 P md ops Q S ts (fuel+1) listed a w:=by
 intro fuel
 induction fuel with
 | zero =>
  intro listed a w _ hr hy hS H
  refine⟨fun h=>(by rw[h] at hr;cases hr),fun j hj=>?_⟩
  by_cases hji:j=i
  ·subst hji;exact hy.wpOp hi hS ⟨.inr,H⟩
  ·have:=ready_mono hj hji
   rw[H.1] at this
   cases this
 | succ fuel ih =>
  intro listed a w hfree hr hy hS H
  refine⟨fun h=>(by rw[h] at hr;cases hr),fun j hj=>?_⟩
  by_cases hji:j=i
  ·subst hji;exact hy.wpOp hi hS ⟨.inr,H⟩
  ·have h1:=H.2 j (ready_mono hj hji)
   obtain⟨hjun,oj,hoj,hall⟩:=mem_ready.1 hj
   have hnot:∀e∈oj.after,Region.binds md e=true→e.on≠i:=fun e he hb heq=>by
    have h1:=hall e he hb
    have h0:=(mem_ready.1 hr).1
    rw[heq] at h1
    rcases Nat.lt_or_ge i listed.size with h' | h'
    ·simp[h'] at h0 h1;rw[h0] at h1;cases h1
    ·simp[Array.getElem?_eq_none h'] at h1
   have hjt:j∉ts:=fun hjt=>by
    have ht:=List.all_eq_true.1 ht j hjt
    unfold Vi at ht
    rw[hoj] at ht
    obtain⟨e,he,hb⟩:=Array.any_eq_true'.1 ht
    rw[Bool.and_eq_true,beq_iff_eq] at hb
    exact hnot e he hb.1 hb.2
   have h2:=wpOp_putIf hoj (hfree j oj hoj hji hjun hnot) (fun cs b=>hsel i oi cs b hi) (fun cs b=>hsel j oj cs b hoj) hQ hy h1
   have hfree':∀k ok,ops[k]?=some ok→k≠i→(listed.setIfInBounds j true).getD k true=false →
     (∀e∈ok.after,Region.binds md e=true→e.on≠i)→oi.apart ops ok=true:=fun k ok hk hki hun hno=>by
    refine hfree k ok hk hki ?_ hno
    by_cases hjk:j=k
    ·subst hjk;exact hjun
    ·rw[getD_set_ne true hjk] at hun;exact hun
   refine wpOp_mono (fun a' w' h3=>⟨h3.2.1,ih (listed.setIfInBounds j true) a' w' hfree' (ready_mono hr (Ne.symm hji)) h3.1 ((h3.2.1 hS).resolve_left hjt) ?_⟩) h2
   rw[Array.setIfInBounds_comm _ _ hji]
   exact h3.2.2
theorem Ua{i:Nat}{oi:Oper}{v:Value}(hi:ops[i]?=some oi)(hsel:∀(j:Nat) (o:Oper) cs b,ops[j]?=some o→o.op≠.select cs b)
  (hQ:∀c a w,Q (.panic c) (a.put oi.dst v) w→Q (.panic c) a w) :
  ∀(fuel:Nat) (listed:Array Bool) (a:Act) (w:World),
   (∀j oj,ops[j]?=some oj→j≠i→listed.getD j true=false→(∀e∈oj.after,Region.binds md e=true→e.on≠i)→oi.apart ops oj=true) →
   i∈Region.ready md ops listed→YieldsIf P ops (fun _=>True) oi v a →
   Z5 P md ops Q S ts fuel (listed.setIfInBounds i true) (a.put oi.dst v) w→Z5 P md ops Q S ts (fuel+1) listed a w:=by
 intro fuel
 induction fuel with
 | zero =>
  intro listed a w _ hr hy H
  refine⟨fun h=>(by rw[h] at hr;cases hr),fun j hj=>?_⟩
  by_cases hji:j=i
  ·subst hji;exact hy.wpOp hi trivial ⟨.inr,H⟩
  ·have:=ready_mono hj hji
   rw[H.1] at this
   cases this
 | succ fuel ih =>
  intro listed a w hfree hr hy H
  refine⟨fun h=>(by rw[h] at hr;cases hr),fun j hj=>?_⟩
  by_cases hji:j=i
  ·subst hji;exact hy.wpOp hi trivial ⟨.inr,H⟩
  ·have h1:=H.2 j (ready_mono hj hji)
   obtain⟨hjun,oj,hoj,hall⟩:=mem_ready.1 hj
   have hnot:∀e∈oj.after,Region.binds md e=true→e.on≠i:=fun e he hb heq=>by
    have h1:=hall e he hb
    have h0:=(mem_ready.1 hr).1
    rw[heq] at h1
    rcases Nat.lt_or_ge i listed.size with h' | h'
    ·simp[h'] at h0 h1;rw[h0] at h1;cases h1
    ·simp[Array.getElem?_eq_none h'] at h1
   have h2:=wpOp_putIf hoj (hfree j oj hoj hji hjun hnot) (fun cs b=>hsel i oi cs b hi) (fun cs b=>hsel j oj cs b hoj) hQ hy h1
   have hfree':∀k ok,ops[k]?=some ok→k≠i→(listed.setIfInBounds j true).getD k true=false →
     (∀e∈ok.after,Region.binds md e=true→e.on≠i)→oi.apart ops ok=true:=fun k ok hk hki hun hno=>by
    refine hfree k ok hk hki ?_ hno
    by_cases hjk:j=k
    ·subst hjk;exact hjun
    ·rw[getD_set_ne true hjk] at hun;exact hun
   refine wpOp_mono (fun a' w' h3=>⟨h3.2.1,ih (listed.setIfInBounds j true) a' w' hfree' (ready_mono hr (Ne.symm hji)) h3.1 ?_⟩) h2
   rw[Array.setIfInBounds_comm _ _ hji]
   exact h3.2.2
theorem Z1(i:Nat){oi:Oper}{fuel:Nat}{listed:Array Bool}{a:Act}{w:World}(hi:ops[i]?=some oi)(ht:(ts.all fun j=>Vi md ops j i)=true)
  (hs:Region.noSelect ops=true) (hf:Region.free md ops listed i=true) (hr:(Region.ready md ops listed).contains i=true)
  (hQ:∀v c a w,Q (.panic c) (a.put oi.dst v) w→Q (.panic c) a w) (hS:S w)
  (h:∃v,YieldsIf P ops S oi v a∧Z5 P md ops Q S ts fuel (listed.setIfInBounds i true) (a.put oi.dst v) w):Z5 P md ops Q S ts (fuel+1) listed a w:=by
 obtain⟨v,hy,h⟩:=h
 exact U9 hi ht (Region.noSelect_spec hs) (hQ v) fuel listed a w (Region.free_spec hi hf) (by simpa using hr) hy hS h
theorem Z0(i:Nat){oi:Oper}{fuel:Nat}{listed:Array Bool}{a:Act}{w:World}(hi:ops[i]?=some oi)
  (hs:Region.noSelect ops=true) (hf:Region.free md ops listed i=true) (hr:(Region.ready md ops listed).contains i=true)
  (hQ:∀v c a w,Q (.panic c) (a.put oi.dst v) w→Q (.panic c) a w)
  (h:∃v,YieldsIf P ops (fun _=>True) oi v a∧Z5 P md ops Q S ts fuel (listed.setIfInBounds i true) (a.put oi.dst v) w):Z5 P md ops Q S ts (fuel+1) listed a w:=by
 obtain⟨v,hy,h⟩:=h
 exact Ua hi (Region.noSelect_spec hs) (hQ v) fuel listed a w (Region.free_spec hi hf) (by simpa using hr) hy h
theorem Z2{listed:Array Bool}{a:Act}{w:World}(hr:Region.ready md ops listed=[])(h:Q .normal a w) :
  ∀fuel,Z5 P md ops Q S ts fuel listed a w
 | 0=>⟨hr,h⟩
 | _+1=>⟨fun _=>h,by rw[hr];simp⟩
theorem Z3(i:Nat){o:Oper}{fuel:Nat}{listed:Array Bool}{a:Act}{w:World}(hr:Region.ready md ops listed=[i])(ho:ops[i]?=some o)
  (h:∀K':Act→World→Prop,(∀a w,i∈ts∨S w→Z5 P md ops Q S ts fuel (listed.setIfInBounds i true) a w→K' a w)→if Region.wanted o (yielded ops a.tmps)=true then Oper.wp P o a w K' Q else K' (a.put o.dst undef) w):Z5 P md ops Q S ts (fuel+1) listed a w :=
 ⟨fun h0=>absurd (hr▸h0) (by simp),fun j hj=>by
  rw[hr] at hj
  obtain rfl:j=i:=by simpa using hj
  exact opH ho (fun K' hK=>h K' (fun a w q1 q2=>hK a w ⟨fun _=>q1,q2⟩))⟩
theorem Z4{id:Nat}{l:List Oper}{a:Act}{w:World}(ts:List Nat)(S:World→Prop)(hm:P.follows .mixedOrders=true)
  (h:Z5 P .any l.toArray (NoPanic Q) S ts l.toArray.size (Array.replicate l.toArray.size false) a w.drew):(Code.region id l.toArray true).wp P Q a w :=
 wp_region_noPanic (wp_region_any hm (Vj _ _ _ _ h))
end
def Yw(k:Kn):List Value:=[.int .i64 k.f,.bool k.lp]
theorem Z35:Ub prog 75 115 2 16 Yw where
 und:=underlying75
 inf:=by
  have h:(prog.info? 115).map (fun i=>(i.zero,i.size,i.bytes))=some (some (.agg #[.int .i64 0,.bool false]),2,16):=by kernel_rfl
  cases e:prog.info? 115 with
  | none=>rw[e] at h;cases h
  | some i =>
   rw[e] at h
   simp only[Option.map_some,Option.some.injEq,Prod.mk.injEq] at h
   exact⟨i,_,rfl,h.1,h.2.1,h.2.2,rfl⟩
 pos:=by decide
 byt:=by decide
 len:=fun _=>rfl
 one:=fun a u hu=>by
  simp only[Yw,List.mem_cons,List.not_mem_nil,or_false] at hu
  rcases hu with rfl | rfl<;>rfl
abbrev Yh(w:World)(g0:Nat)(v:Value)(l:List Kn):Prop:=Yi 115 2 Yw w g0 v l
theorem Z0r{w:World}{g0 e size n m:Nat}{xs:List Value}{a:Option Addr}{c:Nat}(h:w.ownsRow g0 e size (.slice a n c) n xs)(hm:m≤n):w.ownsRow g0 e size (.slice a m c) m (xs.take (m*size)):=by
 obtain⟨hx,hr⟩:=h
 have hl:(xs.take (m*size)).length=m*size:=by
  rw[List.length_take,hx]
  exact Nat.min_eq_left (Nat.mul_le_mul_right _ hm)
 rcases hr with⟨h0,hn⟩ | ⟨g,cap,cur,h1,h2,h3,h4,h5,h6,h7⟩
 ·simp only[Value.slice.injEq] at h0
  obtain⟨rfl,_,rfl⟩:=h0
  obtain rfl:m=0:=by omega
  exact⟨hl,.inl ⟨rfl,rfl⟩⟩
 ·simp only[Value.slice.injEq] at h1
  obtain⟨rfl,_,rfl⟩:=h1
  refine⟨hl,.inr ⟨g,_,cur,rfl,h2,h3,Nat.le_trans hm h4,h5,h6,?_⟩⟩
  have:=congrArg (List.take (m*size)) h7
  rw[List.take_take,Nat.min_eq_left (Nat.mul_le_mul_right _ hm)] at this
  exact this
theorem IS.cut{w:World}{a:Option Addr}{c:Nat}{l:List Int}(h:IS w (.slice a l.length c) l){m:Nat}(hm:m≤l.length):IS w (.slice a m c) (l.take m):=by
 have:=Z0r h hm
 unfold IS
 rw[List.length_take,Nat.min_eq_left hm,List.map_take]
 simpa using this
theorem Vd{α:Type}{row:α→List Value}{sz:Nat}(hl:∀a,(row a).length=sz):∀(l:List α) (m:Nat),Z6 row (l.take m)=(Z6 row l).take (m*sz)
 | [],m=>by simp[Z6]
 | a::l,0=>by simp[Z6]
 | a::l,m+1=>by
  show row a++Z6 row (l.take m)=(row a++Z6 row l).take ((m+1)*sz)
  have e1:(row a).take ((m+1)*sz)=row a:=List.take_of_length_le (by rw[hl,Nat.add_mul];omega)
  rw[Vd hl l m,List.take_append,e1,hl,show(m+1)*sz-sz=m*sz by rw[Nat.add_mul];omega]
theorem Yh.cut{w:World}{g0:Nat}{a:Option Addr}{c:Nat}{l:List Kn}(h:Yh w g0 (.slice a l.length c) l){m:Nat}(hm:m≤l.length):Yh w g0 (.slice a m c) (l.take m):=by
 have:=Z0r h hm
 unfold Yh Yi
 rw[List.length_take,Nat.min_eq_left hm,Vd (sz:=2) (fun _=>rfl)]
 exact this
def fnx(s:Gb)(v:Int):Option Int:=(s.nx v).map Int.ofNat
structure Zp(W0 w:World)(o mb pb:Nat)(ev vp vo vk:Value)(E:List (Int × Int))(s:Gb)(N:Nat):Prop where
 obj:w.heap[o]?=some (.cells #[ev,.map (some mb),.map (some pb),vp,vo,vk,.bool s.fd,.int .i64 s.ls] 77 (0,0))
 ed:Yc W0 ev E
 nw:Nw W0 w
 mn:Za w mb (fnx s) N
 mp:Za w pb s.pl N
 pa:IS w vp s.path
 op:IS w vo s.op
 kn:Yh w W0.heap.size vk s.kn
 oW:W0.heap.size≤o
 mW:W0.heap.size≤mb
 pW:W0.heap.size≤pb
 mne:mb≠pb
 pg:∀g,vp.ownBlock=some g→W0.heap.size≤g
 og:∀g,vo.ownBlock=some g→W0.heap.size≤g
 ne:∀g,vp.ownBlock=some g→vo.ownBlock≠some g
 bd:s.path.length≤N∧s.op.length≤N∧s.kn.length≤N
def Wk(W0 w:World)(o:Nat)(ev:Value)(E:List (Int × Int))(s:Gb)(N:Nat):Prop:=∃mb pb vp vo vk,Zp W0 w o mb pb ev vp vo vk E s N
section
variable {W0 w w':World} {o mb pb N:Nat} {ev vp vo vk:Value} {E:List (Int × Int)} {s:Gb}
theorem Zp.nwr(h:Zp W0 w o mb pb ev vp vo vk E s N)(g:Nw w w'):Zp W0 w' o mb pb ev vp vo vk E s N :=
 ⟨g.at' h.obj,h.ed,h.nw.trans g,h.mn.nw g,h.mp.nw g,h.pa.nw g,h.op.nw g,onw h.kn g,h.oW,h.mW,h.pW,h.mne,h.pg,h.og,h.ne,h.bd⟩
theorem Zp.c(h:Zp W0 w o mb pb ev vp vo vk E s N):w.cell? ⟨o,0,none⟩=some ev∧w.cell? ⟨o,1,none⟩=some (.map (some mb))∧w.cell? ⟨o,2,none⟩=some (.map (some pb))∧w.cell? ⟨o,3,none⟩=some vp∧w.cell? ⟨o,4,none⟩=some vo∧w.cell? ⟨o,5,none⟩=some vk∧w.cell? ⟨o,6,none⟩=some (.bool s.fd)∧w.cell? ⟨o,7,none⟩=some (.int .i64 s.ls) :=
 ⟨Z7 h.obj,Z7 h.obj,Z7 h.obj,Z7 h.obj,Z7 h.obj,Z7 h.obj,Z7 h.obj,Z7 h.obj⟩
theorem Zp.fz(h:Zp W0 w o mb pb ev vp vo vk E s N)(j:Nat):w.frozen? ⟨o,j,none⟩=false:=hfz h.obj
theorem Zp.ol(h:Zp W0 w o mb pb ev vp vo vk E s N):o<w.heap.size:=hlt h.obj
theorem Zp.off(h:Zp W0 w o mb pb ev vp vo vk E s N):mb≠o∧pb≠o∧vp.ownBlock≠some o∧vo.ownBlock≠some o∧vk.ownBlock≠some o:=by
 refine⟨fun e=>?_,fun e=>?_,fun e=>?_,fun e=>?_,fun e=>?_⟩
 ·obtain⟨es,c,q⟩:=h.mn.obj
  rw[e,h.obj] at q;cases q
 ·obtain⟨es,c,q⟩:=h.mp.obj
  rw[e,h.obj] at q;cases q
 ·obtain⟨c,q⟩:=Zl h.pa e
  rw[h.obj] at q
  injection q with q
  injection q with _ q _
  exact absurd q (by decide)
 ·obtain⟨c,q⟩:=Zl h.op e
  rw[h.obj] at q
  injection q with q
  injection q with _ q _
  exact absurd q (by decide)
 ·obtain⟨c,q⟩:=Zl h.kn e
  rw[h.obj] at q
  injection q with q
  injection q with _ q _
  exact absurd q (by decide)
theorem Zp.apart(h:Zp W0 w o mb pb ev vp vo vk E s N):(∀g,vk.ownBlock=some g→vp.ownBlock≠some g∧vo.ownBlock≠some g)∧(vp.ownBlock≠some mb∧vo.ownBlock≠some mb∧vk.ownBlock≠some mb)∧(vp.ownBlock≠some pb∧vo.ownBlock≠some pb∧vk.ownBlock≠some pb):=by
 obtain⟨es1,c1,q1⟩:=h.mn.obj
 obtain⟨es2,c2,q2⟩:=h.mp.obj
 refine⟨fun g hg=>⟨fun e=>?_,fun e=>?_⟩,⟨fun e=>?_,fun e=>?_,fun e=>?_⟩,⟨fun e=>?_,fun e=>?_,fun e=>?_⟩⟩
 ·obtain⟨c,q⟩:=Zl h.kn hg
  obtain⟨c',q'⟩:=Zl h.pa e
  rw[q] at q'
  injection q' with q'
  injection q' with _ q' _
  exact absurd q' (by decide)
 ·obtain⟨c,q⟩:=Zl h.kn hg
  obtain⟨c',q'⟩:=Zl h.op e
  rw[q] at q'
  injection q' with q'
  injection q' with _ q' _
  exact absurd q' (by decide)
 ·obtain⟨c,q⟩:=Zl h.pa e
  rw[q1] at q;cases q
 ·obtain⟨c,q⟩:=Zl h.op e
  rw[q1] at q;cases q
 ·obtain⟨c,q⟩:=Zl h.kn e
  rw[q1] at q;cases q
 ·obtain⟨c,q⟩:=Zl h.pa e
  rw[q2] at q;cases q
 ·obtain⟨c,q⟩:=Zl h.op e
  rw[q2] at q;cases q
 ·obtain⟨c,q⟩:=Zl h.kn e
  rw[q2] at q;cases q
theorem Zp.box(h:Zp W0 w o mb pb ev vp vo vk E s N)(t:Zf (fun k=>k=o) w w'){s':Gb}{vp' vo' vk':Value}
  (hb:w'.heap[o]?=some (.cells #[ev,.map (some mb),.map (some pb),vp',vo',vk',.bool s'.fd,.int .i64 s'.ls] 77 (0,0)))
  (h1:s'.nx=s.nx) (h2:s'.pl=s.pl) (pa:IS w' vp' s'.path) (op:IS w' vo' s'.op) (kn:Yh w' W0.heap.size vk' s'.kn)
  (pg:∀g,vp'.ownBlock=some g→W0.heap.size≤g) (og:∀g,vo'.ownBlock=some g→W0.heap.size≤g) (ne:∀g,vp'.ownBlock=some g→vo'.ownBlock≠some g) (bd:s'.path.length≤N∧s'.op.length≤N∧s'.kn.length≤N):Zp W0 w' o mb pb ev vp' vo' vk' E s' N:=by
 obtain⟨o1,o2,_⟩:=h.off
 refine⟨hb,h.ed,Zh h.nw t (fun i e=>by subst e;exact h.oW),?_,?_,pa,op,kn,h.oW,h.mW,h.pW,h.mne,pg,og,ne,bd⟩
 ·have e:fnx s'=fnx s:=by funext v;unfold fnx;rw[h1]
  rw[e];exact h.mn.tch t o1
 ·rw[h2];exact h.mp.tch t o2
theorem IS.keep{v:Value}{l:List Int}{j:Nat}(h:IS w v l)(t:Zf (fun k=>k=j) w w')(hn:v.ownBlock≠some j):IS w' v l:=h.tch t (fun g hg e=>hn (by rw[hg,e]))
theorem Zm{g0 e size n:Nat}{v:Value}{xs:List Value}{j:Nat}(h:w.ownsRow g0 e size v n xs)(t:Zf (fun k=>k=j) w w')(hn:v.ownBlock≠some j):w'.ownsRow g0 e size v n xs:=by
 refine⟨h.1,?_⟩
 rcases h.2 with h0 | ⟨g,cap,cur,rfl,hb,hg,rest⟩
 ·exact .inl h0
 ·exact .inr ⟨g,cap,cur,rfl,hb,(t.block g (Array.getElem?_eq_some_iff.1 hg).1 (fun e=>hn (by rw[←e];rfl))).trans hg,rest⟩
end
theorem Uv{α:Type}{row:α→List Value}{sz:Nat}(hl:∀a,(row a).length=sz):∀(q:List α) (k:Nat) (hk:k<q.length) (j:Nat) (hj:j<sz) (u:Value) (x:α) (e:(row q[k]).set j u=row x),(Z6 row q).set (k*sz+j) u=Z6 row (q.set k x)
 | a::q,0,hk,j,hj,u,x,e=>by
  show(row a++Z6 row q).set (0*sz+j) u=row x++Z6 row q
  rw[Nat.zero_mul,Nat.zero_add,List.set_append_left _ _ (by rw[hl];exact hj)]
  exact congrArg (·++_) e
 | a::q,k+1,hk,j,hj,u,x,e=>by
  show(row a++Z6 row q).set ((k+1)*sz+j) u=row a++Z6 row (q.set k x)
  rw[List.set_append_right _ _ (by rw[hl,Nat.add_mul];omega),hl,show(k+1)*sz+j-sz=k*sz+j by rw[Nat.add_mul];omega,Uv hl q k (by simpa using hk) j hj u x e]
theorem Yh.cell{w:World}{g0 g cap n:Nat}{q:List Kn}(h:Yh w g0 (.slice (some ⟨g,0,none⟩) n cap) q)(hn:n=q.length)(k:Nat)(hk:k<q.length):w.cell? ⟨g,k*2,none⟩=some (.int .i64 q[k].f)∧w.cell? ⟨g,k*2+1,none⟩=some (.bool q[k].lp):=by
 subst hn
 refine⟨(World.ownsRow.cellAt h (k*2) (by omega)).trans ?_,(World.ownsRow.cellAt h (k*2+1) (by omega)).trans ?_⟩
 ·have:=Zy (row:=Yw) (sz:=2) (fun _=>rfl) q k 0 hk (by decide)
  rw[Nat.add_zero] at this
  rw[this];rfl
 ·rw[Zy (row:=Yw) (sz:=2) (fun _=>rfl) q k 1 hk (by decide)];rfl
section
variable {W0 w:World} {o N:Nat} {ev:Value} {E:List (Int × Int)} {s:Gb}
theorem Zp.note{mb pb:Nat}{vp vo vk:Value}(h:Zp W0 w o mb pb ev vp vo vk E s N)(m:Int):Zp W0 ((w.setCell ⟨o,6,none⟩ (.bool true)).setCell ⟨o,7,none⟩ (.int .i64 m)) o mb pb ev vp vo vk E { s with fd:=true,ls:=m } N:=by
 obtain⟨o1,o2,o3,o4,o5⟩:=h.off
 have t:Zf (fun k=>k=o) w ((w.setCell ⟨o,6,none⟩ (.bool true)).setCell ⟨o,7,none⟩ (.int .i64 m)):=((Zf.refl (fun k=>k=o) w).set (p:=⟨o,6,none⟩) (.inl rfl) _).set (p:=⟨o,7,none⟩) (.inl rfl) _
 exact h.box t (hset (.int .i64 m) (hset (.bool true) h.obj)) rfl rfl (h.pa.keep t o3) (h.op.keep t o4) (Zm h.kn t o5) h.pg h.og h.ne h.bd
theorem Z3c{mb pb:Nat}{vp vo vk:Value}(h:Zp W0 w o mb pb ev vp vo vk E s N)(m:Int):Calls prog 88 #[.pointer (some ⟨o,0,none⟩),.int .i64 m] w fun e w'=>e=.returned (.tuple #[])∧Zp W0 w' o mb pb ev vp vo vk E (Zb s true m) N∧Zf (fun k=>k=o) w w':=by
 obtain⟨_,_,_,_,_,_,c6,c7⟩:=h.c
 have hol:=h.ol
 have fz:=h.fz
 have HW:=hD0 h
 clear h
 obtain⟨fd,hfd⟩:∃b,s.fd=b:=⟨_,rfl⟩
 obtain⟨ls,hls⟩:∃x,s.ls=x:=⟨_,rfl⟩
 rw[hfd] at c6
 rw[hls] at c7
 cases fd with
 | false =>
  have HR:=hD0 (show Zb s true m={ s with fd:=true,ls:=m } from if_pos ⟨rfl,.inl hfd⟩)
  clear hfd hls
  go_enter func88,ntmps88
  go_wp2
  refine bodyPost_end (results_none rfl _ _ _) rfl ?_
  rw[HR.out]
  exact⟨rfl,HW.out.note m,((Zf.refl (fun k=>k=o) w).set (p:=⟨o,6,none⟩) (.inl rfl) _).set (p:=⟨o,7,none⟩) (.inl rfl) _⟩
 | true =>
  by_cases q:m<ls
  ·have HR:=hD0 (show Zb s true m={ s with fd:=true,ls:=m } from if_pos ⟨rfl,.inr (by rw[hls];exact q)⟩)
   have d:decide (m<ls)=true:=by simpa using q
   clear hfd hls q
   go_enter func88,ntmps88
   go_wp2
   refine bodyPost_end (results_none rfl _ _ _) rfl ?_
   rw[HR.out]
   exact⟨rfl,HW.out.note m,((Zf.refl (fun k=>k=o) w).set (p:=⟨o,6,none⟩) (.inl rfl) _).set (p:=⟨o,7,none⟩) (.inl rfl) _⟩
  ·have HR:=hD0 (show Zb s true m=s from if_neg (fun k=>by
    rcases k.2 with x | x
    ·rw[hfd] at x;cases x
    ·rw[hls] at x;exact q x))
   have d:decide (m<ls)=false:=by simpa using q
   clear hfd hls q
   go_enter func88,ntmps88
   go_wp2
   refine bodyPost_end (results_none rfl _ _ _) rfl ?_
   rw[HR.out]
   exact⟨rfl,HW.out,Zf.refl _ w⟩
theorem Zp.tie{mb pb gk cap n:Nat}{vp vo:Value}(h:Zp W0 w o mb pb ev vp vo (.slice (some ⟨gk,0,none⟩) n cap) E s N)(hn:n=s.kn.length){K K':List Kn}{k0:Kn}(hk:s.kn=K++k0::K') :
  Zp W0 ((w.setCell ⟨o,5,none⟩ (.slice (some ⟨gk,0,none⟩) (K.length+1) cap)).setCell ⟨gk,K.length*2+1,none⟩ (.bool true)) o mb pb ev vp vo (.slice (some ⟨gk,0,none⟩) (K.length+1) cap) E (Yy s K k0) N:=by
 subst hn
 obtain⟨o1,o2,o3,o4,o5⟩:=h.off
 obtain⟨a1,⟨a2,a3,a4⟩,a5,a6,a7⟩:=h.apart
 have hgo:gk≠o:=fun e=>o5 (by rw[e];rfl)
 have t1:Zf (fun k=>k=o) w (w.setCell ⟨o,5,none⟩ (.slice (some ⟨gk,0,none⟩) (K.length+1) cap)):=(Zf.refl (fun k=>k=o) w).set (p:=⟨o,5,none⟩) (.inl rfl) _
 have hlen:K.length+1≤s.kn.length:=by rw[hk];simp
 have hc:=h.kn.cut hlen
 have hbd:=h.bd
 have hw:=h.nw
 have htake:s.kn.take (K.length+1)=K++[k0]:=by
  rw[hk,show K++k0::K'=(K++[k0])++K' by simp]
  exact List.take_left' (by simp)
 rw[htake] at hc
 have h1:Zp W0 (w.setCell ⟨o,5,none⟩ (.slice (some ⟨gk,0,none⟩) (K.length+1) cap)) o mb pb ev vp vo (.slice (some ⟨gk,0,none⟩) (K.length+1) cap) E { s with kn:=K++[k0] } N :=
  h.box t1 (hset _ h.obj) rfl rfl (h.pa.keep t1 o3) (h.op.keep t1 o4) (Zm hc t1 (fun e=>hgo (Option.some.inj e))) h.pg h.og h.ne ⟨hbd.1,hbd.2.1,by show(K++[k0]).length≤N;simp;omega⟩
 obtain⟨w1,hw1⟩:∃w1,w.setCell ⟨o,5,none⟩ (.slice (some ⟨gk,0,none⟩) (K.length+1) cap)=w1:=⟨_,rfl⟩
 rw[hw1] at h1 ⊢
 have t2:Zf (fun k=>k=gk) w1 (w1.setCell ⟨gk,K.length*2+1,none⟩ (.bool true)):=(Zf.refl (fun k=>k=gk) w1).set (p:=⟨gk,K.length*2+1,none⟩) (.inl rfl) _
 have hkn:=h1.kn
 have hkl1:(K++[k0]).length=K.length+1:=by simp
 unfold Yh Yi at hkn
 simp only at hkn
 rw[hkl1] at hkn
 have hst:=(World.ownsRow.stored hkn (K.length*2+1) (.bool true)).1
 have hkl:K.length<(K++[k0]).length:=by simp
 rw[Uv (row:=Yw) (sz:=2) (fun _=>rfl) (K++[k0]) K.length hkl 1 (by decide) (.bool true) ⟨k0.f,true⟩ (by simp[Yw])] at hst
 have hset':(K++[k0]).set K.length (⟨k0.f,true⟩:Kn)=K++[⟨k0.f,true⟩]:=by simp
 rw[hset'] at hst
 obtain⟨b1,⟨b2,b3,b4⟩,b5,b6,b7⟩:=h1.apart
 obtain⟨b8,b9⟩:=b1 gk rfl
 refine⟨(t2.block o h1.ol (fun e=>hgo e.symm)).trans h1.obj,h1.ed,Zh h1.nw t2 (fun i e=>by subst e;exact oge h1.kn rfl),h1.mn.tch t2 (fun e=>b4 (by rw[e];rfl)),h1.mp.tch t2 (fun e=>b7 (by rw[e];rfl)),h1.pa.keep t2 b8,h1.op.keep t2 b9,?_,h1.oW,h1.mW,h1.pW,h1.mne,h1.pg,h1.og,h1.ne,?_⟩
 ·show Yi _ _ _ _ _ _ (K++[(⟨k0.f,true⟩:Kn)])
  unfold Yi
  have:(K++[(⟨k0.f,true⟩:Kn)]).length=K.length+1:=by simp
  rw[this]
  exact hst
 ·have:=h1.bd
  exact⟨this.1,this.2.1,by show(K++[(⟨k0.f,true⟩:Kn)]).length≤N;have:=this.2.2;simp at this ⊢;exact this⟩
theorem Z2v(h:Wk W0 w o ev E s N)(hN:N≤1000000)(p:Nat){K K':List Kn}{k0:Kn}(hk:s.kn=K++k0::K')(h0:k0.f≤p)(h1:∀k∈K',p<k.f) :
  Calls prog 87 #[.pointer (some ⟨o,0,none⟩),.int .i64 p] w fun e w'=>e=.returned (.tuple #[])∧Wk W0 w' o ev E (Yy s K k0) N:=by
 obtain⟨mb,pb,vp,vo,vk,h⟩:=h
 obtain⟨_,_,_,_,_,c5,_,_⟩:=h.c
 have hol:=h.ol
 have fz:=h.fz
 have hlen:s.kn.length=K.length+1+K'.length:=by rw[hk];simp;omega
 have hbd:=h.bd.2.2
 obtain⟨gk,cap,rfl⟩:∃g cap,vk=.slice (some ⟨g,0,none⟩) s.kn.length cap:=by
  rcases Va h.kn with⟨_,q⟩ | ⟨g,cap,q⟩
  ·omega
  ·exact⟨g,cap,q⟩
 have hcap:s.kn.length≤cap:=by
  rcases h.kn.2 with⟨q,_⟩ | ⟨g',cap',cur,q,_,_,q4,_⟩
  ·simp at q
  ·simp only[Value.slice.injEq] at q
   omega
 have hgl:=olt h.kn (g:=gk) rfl
 have hgz:=hfz (j:=K.length*2+1) (Zl h.kn (g:=gk) rfl).choose_spec
 have hne:¬gk=o:=fun e=>h.off.2.2.2.2 (by rw[e];rfl)
 have hne2:¬o=gk:=fun e=>hne e.symm
 have HM:=hD0 (h.tie rfl hk)
 have hce:∀t,t<s.kn.length→∃f:Nat,w.cell? ⟨gk,t*2,none⟩=some (.int .i64 f)∧(K.length<t→p<f)∧(t=K.length→f≤p):=fun t ht=>by
  refine⟨s.kn[t].f,(h.kn.cell rfl t ht).1,fun hlt=>?_,fun e=>?_⟩
  ·have:s.kn[t]∈K':=by
    have e:s.kn[t]?=some s.kn[t]:=List.getElem?_eq_getElem ht
    have e2:s.kn[t]?=K'[t-K.length-1]?:=by
     rw[hk,List.getElem?_append_right (by omega)]
     obtain⟨d,hd⟩:∃d,t-K.length=d+1:=⟨t-K.length-1,by omega⟩
     rw[hd,List.getElem?_cons_succ];rfl
    rw[e2] at e
    exact List.mem_of_getElem? e
   exact h1 _ this
  ·subst e
   have e:s.kn[K.length]?=some s.kn[K.length]:=List.getElem?_eq_getElem ht
   have e2:s.kn[K.length]?=some k0:=by rw[hk];simp
   rw[e2] at e
   rw[←Option.some.inj e];exact h0
 have hcl:∃b,w.cell? ⟨gk,K.length*2+1,none⟩=some (.bool b):=⟨_,(h.kn.cell rfl K.length (by omega)).2⟩
 obtain⟨n,hn⟩:∃n,s.kn.length=n:=⟨_,rfl⟩
 obtain⟨j,hj⟩:∃j,K.length=j:=⟨_,rfl⟩
 rw[hn] at c5 hlen hbd hcap hce
 rw[hj] at hlen hgz HM hce hcl
 have HK:=hD0 hce
 obtain⟨bl,hcl⟩:=hcl
 have hjn:j<n:=by omega
 obtain⟨n1,hn1,hjn1,hn1n⟩:=Z0s hjn
 obtain⟨j1,hj1⟩:∃j1,j1=j+1:=⟨_,rfl⟩
 have hd1:=Yd n n1 (by omega) hn1
 have hd2:=Y2 j j1 (by omega) hj1
 have hjc:j1≤cap:=by omega
 have hjc':(j1:Int)≤(cap:Int):=by omega
 have hj1n:0≤(j1:Int):=by omega
 have hjj:j<j1:=by omega
 have hjj':(j:Int)<(j1:Int):=by omega
 rw[←hj1] at HM
 have hn0:0<n:=by omega
 have HB:=hD0 (show n≤1000000 by omega)
 have HN1:=hD0 (aI0 hjn1 hn1n)
 clear hce h hk h1 hn hj hbd hlen h0 hn1 hj1 hjn1 hn1n
 go_enter func87,ntmps87
 go_wp2
 go_loopw [4] (fun v wr=>∃t:Nat,v=.int .i64 t∧j≤t∧t<n∧wr=w) (fun v _=>(intOf v).toNat)
 case atStart=>exact⟨n1,rfl,HN1.out.1,HN1.out.2,rfl⟩
 case round =>
  obtain⟨t,rfl,hjt,htn,rfl⟩:=hrel
  obtain⟨f,ct,hf1,hf2⟩:=HK.out t htn
  have htn':=Zo htn
  by_cases q:j<t
  ·obtain⟨d1,d2⟩:=Z2f (hf1 q)
   obtain⟨t1,e1,hjt1,ht1t⟩:=Z0s q
   have ht1:=Yd t t1 (Nat.le_trans (Nat.le_of_lt htn) HB.out) e1
   have HQ:=hD0 (aI0 hjt1 (aI0 (Nat.lt_trans ht1t htn) e1))
   clear hf1 hf2 hjt q e1 hjt1 ht1t
   go_wp2
   go_roundw
   case rel=>exact⟨t1,rfl,HQ.out.1,HQ.out.2.1,by first | rfl | trivial⟩
   case measure=>exact Z45 HQ.out.2.2
  ·obtain rfl:j=t:=Nat.le_antisymm hjt (Nat.le_of_not_lt q)
   obtain⟨d1,d2⟩:=Z1d (Nat.not_lt.2 (hf2 rfl))
   clear hf1 hf2 q
   go_wp2
   refine bodyPost_end (results_none rfl _ _ _) rfl ?_
   exact⟨rfl,mb,pb,vp,vo,_,HM.out⟩
end
section
open Go.ChangeShapes Go.WideShapes Go.ChangeAt Go.RowKit
def Z4c:List Int:=[0,1,2,3,4,5,6,1,1,2,3,4,5,6,2,2,2,4,4,6,6,3,3,4,3,4,5,6,4,4,4,4,4,6,6,5,5,6,5,6,5,6,6,6,6,6,6,6,6]
def Z4d(a b:Int):Int:=Z4c.getD (a.toNat*7+b.toNat) 0
def Z43:List Bool:=[true,true,true,true,true,true,true,true,true,true,true,true,true,false,true,true,true,false,false,false,false,true,true,false,true,false,true,false,true,true,false,false,false,false,false,true,true,false,true,false,false,false,true,false,false,false,false,false,false]
def Z44(a b:Int):Bool:=Z43.getD (a.toNat*7+b.toNat) false
end
structure Rq where
 id:Int
 txn:Int
 md:Int
 wt:Int
 sn:Int
def knI(m:Int):Bool:=decide (0≤m)&&decide (m<7)
def cpI(a b:Int):Bool:=(knI a&&knI b)&&Z44 a b
def cvI(a b:Int):Bool:=(knI a&&knI b)&&(Z4d a b==a)
structure Rt(W:Int)(r:Rq):Prop where
 id:0≤r.id
 md:knI r.md=true
 wt:knI r.wt=true
 s0:0≤r.sn
 sW:r.sn≤W
 w:0<r.sn→cvI r.md r.wt=false
 h:r.sn=0→r.md≠0∧r.wt=r.md
structure Pr(a b:Rq):Prop where
 id:a.id≠b.id
 txn:a.txn≠b.txn
 sn:0<a.sn→a.sn≠b.sn
 ord:a.md=0→b.md=0∧a.sn<b.sn
 cp:a.md≠0→b.md≠0→cpI a.md b.md=true
structure Ok(W:Int)(q:List Rq):Prop where
 w0:0≤W
 wB:W≤4611686018427387904
 rt:∀r∈q,Rt W r
 pr:q.Pairwise Pr
def blk(r o:Rq):Bool:=((o.md != 0)&&!cpI o.md r.wt) || ((o.md != 0)&&decide (0<o.sn)&&((r.md==0) || decide (o.sn<r.sn))) || ((r.md==0)&&(o.md==0)&&decide (o.sn<r.sn))
def Z3q(q:List Rq)(r:Rq):Bool:=decide (0<r.sn)&&q.all fun o=>(o.id==r.id) || !blk r o
def chg(f:Rq→Rq)(id:Int)(q:List Rq):List Rq:=q.map fun r=>if r.id=id then f r else r
def Z48(r:Rq):Rq:=⟨r.id,r.txn,r.wt,r.wt,0⟩
def fnd(q:List Rq)(id:Int):Option Rq:=q.find? fun r=>r.id==id
section
variable {W:Int} {q:List Rq}
end
section
variable {W:Int} {q:List Rq}
def Z40(q:List Rq):Prop:=∀r∈q,Z3q q r=false
inductive Steps (q0:List Rq):List Int→List Rq→Prop
 | refl:Steps q0 [] q0
 | snoc {ids:List Int} {q:List Rq} {r:Rq} (h:Steps q0 ids q) (hr:r∈q) (hc:Z3q q r=true):Steps q0 (ids++[r.id]) (chg Z48 r.id q)
end
structure Hq where
 t:Int
 r:Int
 W:Int
 q:List Rq
def noH:Hq:=⟨0,0,0,[]⟩
def hnR(h:Hq)(id txn:Int):Hq × Int:=match fnd h.q id with
 | none=>(noH,5)
 | some r=>if (h.q.any fun o=>!(o.id==id)&&o.txn==txn)=true then(noH,4)else if 0<r.sn then(noH,7) else(⟨h.t,h.r,h.W,chg (fun x=>⟨x.id,txn,x.md,x.wt,x.sn⟩) id h.q⟩,0)
structure Z41(h:Hq):Prop where
 ok:Ok h.W h.q
 done:Z40 h.q
def Z49(q:List Rq):List Int:=q.map fun r=>r.id
def Z4a(L:List Bool)(k:Nat):List Nat:=(List.range k).filter fun i=>L.getD i false
def lnt(L:List Bool):List Nat:=Z4a L L.length
def liv(L:List Bool):Nat:=L.countP id
def Z3r(l:List Nat):List Int:=l.map fun n:Nat=>(n:Int)
def nlt(a b:Int × Int):Prop:=a.1<b.1∨(a.1=b.1∧a.2<b.2)
instance (a b:Int × Int):Decidable (nlt a b):=by unfold nlt;infer_instance
theorem Z2k(a:Int × Int):¬nlt a a:=by unfold nlt;omega
theorem Z3a{a b c:Int × Int}(h:nlt a b)(k:nlt b c):nlt a c:=by unfold nlt at *;omega
def nmH(h:Hq):Int × Int:=(h.t,h.r)
abbrev Z42(hs:List Hq):Prop:=hs.Pairwise fun a b=>nlt (nmH a) (nmH b)
def Z47(hs:List Hq)(nm:Int × Int):Option Hq:=hs.find? fun h=>decide (nmH h=nm)
def Z33(hs:List Hq):List Int:=hs.flatMap fun h=>Z49 h.q
structure Z4f(most k:Nat)(hs:List Hq)(X:List Int)(L:List Bool):Prop where
 srt:Z42 hs
 len:hs.length≤most
 inv:∀h∈hs,Z41 h
 ne:∀h∈hs,h.q≠[]
 ids:(Z33 hs++X).Perm (Z3r (lnt L))
 wt:∀h∈hs,h.W≤k
 ql:∀h∈hs,h.q.length≤k
section
open Go.RowKit Go.Maps Go.ChangeMaps Go.WideShapes
abbrev wfI(a:Int):Prop:=(Lit.int .i64 a).wf=true
def wfN(a:Int × Int):Prop:=wfI a.1∧wfI a.2
def nmL(a:Int × Int):Lit:=.string (keyBytes [.int .i64 a.1,.int .i64 a.2])
structure Two(P:Program)(k i:TypeId):Prop where
 st : ∃ fs, P.underlying k = some (.struct fs) ∧ (∃ f g, fs.toList = [f, g] ∧ f.type = i ∧ g.type = i ∧ f.offset = 0 ∧ g.offset = 1) ∧ fs.all (·.name != "_") = true
 un:P.underlying i=some (.int .i64)
 ck:P.cellsOf k=2
 ci:P.cellsOf i=1
 sz:∃m,P.types.size=m+1
 kt:P.keyType k=true
end
section
open Go.RowKit Go.Maps Go.ChangeMaps Go.WideShapes
structure Hp where
 h:Hq
 p:Nat
 a:Option Addr
 c:Nat
def Z2n:Value→Option (DataW Unit × List MemPlace)
 | .pointer (some ⟨p,0,none⟩)=>some (.lit (.int .i64 (p:Int)),[])
 | .pointer none=>some (.nil,[])
 | _=>none
def Z46(x:Hp):Lit × DataW Unit:=(nmL (nmH x.h),.lit (.int .i64 (x.p:Int)))
structure Z4h(w:World)(mb:Nat)(l:List Hp):Prop where
 own:∃es,w.ownsMap prog 37 Z2n mb l.length (.map es)∧es.Perm (l.map Z46)
 wf:∀x∈l,wfN (nmH x.h)
 ne:l.Pairwise fun x y=>nmH x.h≠nmH y.h
variable {w w':World} {mb:Nat} {l:List Hp}
end
end Go.Proofs.Ytobnolgphljoeaa
