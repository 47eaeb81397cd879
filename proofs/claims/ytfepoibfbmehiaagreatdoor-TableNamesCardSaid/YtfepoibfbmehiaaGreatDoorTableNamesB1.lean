/- Texts merged: Nw, Tch, Rf, BdA, ModeA, QuM, QuS, QuP, QuH, BkM, PoM, PhM, PoF -/
import Derived.Test.YtfepoibfbmehiaaGreatDoorRows
import Derived.WalkKit
import Derived.Lib.Hide
import Derived.Deep.Draws
import Derived.LoopTactic
import Derived.WalkSpells
import Derived.Laws.OwnMore
import Derived.WalkSmall
import Derived.RangeFuncNested
import Derived.RangeFuncBound
import Derived.RangeFuncCalls
import Derived.RangeFuncLeaves
import Derived.Shelf.RegionOpen
import Derived.OwnWalkIn
import Derived.TacticsInMore
import Derived.LoopNIn
import Derived.LoopIn
import Derived.ProofKit
import Derived.OpenShut
import Derived.ShutString
import Derived.Deep.WholeRow
import Derived.Outline
set_option linter.unusedVariables false
set_option maxRecDepth 100000
set_option maxHeartbeats 16000000
namespace Go.Proofs.YtfepoibfbmehiaaGreatDoor
theorem dF0{p:Prop}[Decidable p](h:¬p):decide p=false:=decide_eq_false h
theorem dT0{p:Prop}[Decidable p](h:p):decide p=true:=decide_eq_true h
theorem aI0{p q:Prop}(h:p)(k:q):p∧q:=⟨h,k⟩
theorem lL0{a b c:Nat}(h:a<b)(k:b≤c):a<c:=Nat.lt_of_lt_of_le h k
theorem gM0{α:Type _}{l:List α}{n:Nat}(h:n<l.length):l[n]∈l:=List.getElem_mem h
theorem hD0{p:Prop}(h:p):RowKit.Hid p:=h
open Go.RowKit _root_.Go.Proofs.Tryz
section
def Nw(w w':World):Prop:=Below w.heap.size w w'
theorem Nw.refl(w:World):Nw w w:=Below.refl _ _
theorem Nw.trans{a b c:World}(h:Nw a b)(k:Nw b c):Nw a c:=Below.trans h (Below.mono k h.size)
theorem Nw.alloc{w w':World}(h:Nw w w')(o:Obj):Nw w (w'.alloc o):=Below.alloc h h.size o
theorem Nw.drewN{w w':World}(h:Nw w w')(n:Nat):Nw w (w'.drewN n):=⟨h.os,h.tape,h.output,h.size,h.block⟩
theorem Nw.sz{w w':World}(h:Nw w w'):w.heap.size≤w'.heap.size:=Below.size h
theorem Nw.cell{w w':World}(h:Nw w w'){b o:Nat}(hb:b<w.heap.size):w'.cell? ⟨b,o,none⟩=w.cell? ⟨b,o,none⟩:=Below.cell h hb
theorem Nw.below{B:Nat}{w w1 w2:World}(h:Below B w w1)(k:Nw w1 w2)(hB:B≤w1.heap.size):Below B w w2:=Below.trans h (Below.mono k hB)
theorem Nw.grownBy{w w':World}(h:Nw w w')(row:Option Nat):w.grownBy w' row:=⟨h.os,h.tape,h.output,h.size,fun k hk _=>h.block k hk⟩
variable {P:Program}
theorem Vc(w:World)(base:Nat)(t ty e:TypeId)(i:TypeInfo)(z:Value)(size bytes:Nat)(ht:P.underlying t=some (.slice e))(hi:P.info? e=some i)(hz:i.zero=some z)
  (hsize:i.size=size) (hby:i.bytes=bytes) (hzs:z.cells.size=size) (hsz:0<size)
  (v:Value) (n:Nat) (xs:List Value) (hown:w.ownsRow base e size v n xs)
  (a:Addr) (m c:Nat) (news:List Value) (hl:news.length=m*size) (hnews:∀j u,news[j]?=some u→w.cell? (a.add j)=some u) (h1:∀u∈news,u.oneCell'=true)
  (h63:n+m≤maxLen) (hbytes:(n+m)*bytes≤140737488355328) (hbase:base≤w.heap.size) :
  ∃v' w',(Builtin.append_ #[t,t] ty #[v,.slice (some a) m c]).run P w=.ok v' w'∧w'.ownsRow base e size v' (n+m) (xs++news)∧w.grownBy w' v.ownBlock ∧
   (v'.ownBlock=v.ownBlock∨v'.ownBlock=some w.heap.size):=by
 obtain⟨v',w',hr,g1,g2,g3⟩:=run_append_own (P:=P) w base t ty e i z size bytes ht hi hz hsize hby hzs hsz v n xs hown a m c news hl hnews h1 h63 hbytes hbase
 refine⟨v',w',hr,g1,g2,?_⟩
 have h63':((n+m:Nat):Int)≤9223372036854775807:=by unfold maxLen at h63;omega
 subst hsize
 subst hby
 rcases hown.2 with⟨rfl,rfl⟩ | ⟨g,cap,cur,rfl,hbg,hg,hnc,hcm,hcs,htake⟩
 ·by_cases hm:m=0
  ·have e1:=g3.2 ⟨rfl,hm⟩
   subst e1
   exact .inl rfl
  ·have hr2:=run_append_nil (P:=P) w t ty e i z ht hi hz a m c news hl hnews (by omega) (by omega) (by simp only[Nat.zero_add] at hbytes;omega)
   rw[hr2] at hr
   injection hr with e1 _
   subst e1
   exact .inr rfl
 ·by_cases hroom:n+m≤cap
  ·have hfit:n*i.size+news.length≤cur.size:=by rw[hl,hcs,←Nat.add_mul];exact Nat.mul_le_mul_right _ hroom
   have hr2:=run_append_room (P:=P) w t ty e i ht hi g n cap cur hg a m c news hl hnews h1 hroom hfit
   rw[hr2] at hr
   injection hr with e1 _
   subst e1
   exact .inl rfl
  ·have hr2:=run_append_grow (P:=P) w t ty e i z ht hi hz ⟨g,0,none⟩ n cap xs hown.1 (hown.cells (g:=g) rfl) a m c news hl hnews (by omega) h63' (growslice_fits (by omega) hbytes)
   rw[hr2] at hr
   injection hr with e1 _
   subst e1
   exact .inr rfl
end
structure Z3(S:Nat→Prop)(w w':World):Prop where
 os:w'.os=w.os
 tape:w'.tape=w.tape
 output:w'.output=w.output
 size:w.heap.size≤w'.heap.size
 block:∀k,k<w.heap.size→¬S k→w'.heap[k]?=w.heap[k]?
theorem Z3.refl(S:Nat→Prop)(w:World):Z3 S w w:=⟨rfl,rfl,rfl,Nat.le_refl _,fun _ _ _=>rfl⟩
theorem Z3.trans'{S S':Nat→Prop}{a b c:World}(h:Z3 S a b)(k:Z3 S' b c)(hS:∀i,i<a.heap.size→S' i→S i):Z3 S a c :=
 ⟨k.os.trans h.os,k.tape.trans h.tape,k.output.trans h.output,Nat.le_trans h.size k.size,fun i hi hn=>(k.block i (lL0 hi h.size) (fun e=>hn (hS i hi e))).trans (h.block i hi hn)⟩
theorem Z3.trans{S:Nat→Prop}{a b c:World}(h:Z3 S a b)(k:Z3 S b c):Z3 S a c:=h.trans' k fun _ _ e=>e
theorem Z3.mono{S S':Nat→Prop}{a b:World}(h:Z3 S a b)(hS:∀i,i<a.heap.size→S i→S' i):Z3 S' a b :=
 ⟨h.os,h.tape,h.output,h.size,fun i hi hn=>h.block i hi (fun e=>hn (hS i hi e))⟩
theorem Z3.nw{S:Nat→Prop}{a b:World}(h:Nw a b):Z3 S a b:=⟨h.os,h.tape,h.output,h.size,fun k hk _=>h.block k hk⟩
theorem Z3.toNw{a b:World}(h:Z3 (fun _=>False) a b):Nw a b:=⟨h.os,h.tape,h.output,h.size,fun k hk=>h.block k hk (fun e=>e)⟩
theorem Z3.alloc{S:Nat→Prop}{a b:World}(h:Z3 S a b)(o:Obj):Z3 S a (b.alloc o):=h.trans (.nw ((Nw.refl b).alloc o))
theorem Z3.set{S:Nat→Prop}{a b:World}(h:Z3 S a b){p:Addr}(hp:S p.block∨a.heap.size≤p.block)(v:Value):Z3 S a (b.setCell p v) :=
 h.trans' (S':=fun k=>k=p.block) ⟨rfl,rfl,rfl,by simp[World.setCell],fun k _ hk=>Below.heap_setCell _ _ _ _ hk⟩ (fun i hi e=>by subst e;exact hp.resolve_right (by omega))
theorem Z3.drewN{S:Nat→Prop}{a b:World}(h:Z3 S a b)(n:Nat):Z3 S a (b.drewN n):=⟨h.os,h.tape,h.output,h.size,h.block⟩
theorem Z3.drew{S:Nat→Prop}{a b:World}(h:Z3 S a b):Z3 S a b.drew:=⟨h.os,h.tape,h.output,h.size,h.block⟩
theorem Z3.grown{S:Nat→Prop}{a b c:World}{row:Option Nat}(h:Z3 S a b)(hg:b.grownBy c row)(hr:∀k,row=some k→S k∨a.heap.size≤k):Z3 S a c :=
 h.trans' (S':=fun k=>row=some k) ⟨hg.os,hg.tape,hg.output,hg.size,fun k hk hn=>hg.block k hk (fun e=>hn e.symm)⟩ (fun i hi e=>(hr i e).resolve_right (by omega))
theorem Z3.cell{S:Nat→Prop}{a b:World}(h:Z3 S a b){k o:Nat}(hk:k<a.heap.size)(hn:¬S k):b.cell? ⟨k,o,none⟩=a.cell? ⟨k,o,none⟩:=World.cell?_of_block (h.block k hk hn)
theorem Z3.froz{S:Nat→Prop}{a b:World}(h:Z3 S a b){k o:Nat}(hk:k<a.heap.size)(hn:¬S k):b.frozen? ⟨k,o,none⟩=a.frozen? ⟨k,o,none⟩:=World.frozen?_of_block (h.block k hk hn)
theorem Nw.froz{a b:World}(h:Nw a b){k o:Nat}(hk:k<a.heap.size):b.frozen? ⟨k,o,none⟩=a.frozen? ⟨k,o,none⟩:=(Z3.nw (S:=fun _=>False) h).froz hk (fun e=>e)
theorem Yu{w a b:World}{F:Nat→Prop}(h:Nw w a)(k:Z3 F a b)(hF:∀i,F i→w.heap.size≤i):Nw w b :=
 Z3.toNw ((Z3.nw (S:=fun _=>False) h).trans' k fun i hi e=>by have:=hF i e;omega)
theorem Zp(w:World)(p:Addr)(v:Value):Z3 (fun k=>k=p.block) w (w.setCell p v):=Z3.set (S:=fun k=>k=p.block) (Z3.refl _ w) (.inl rfl) v
open Go.Shelf
section
structure Vn(S:Nat→Prop)(A B:World):Prop where
 size:A.heap.size≤B.heap.size
 same:∀k,S k→B.heap[k]?=A.heap[k]?
theorem Vn.trans{S:Nat→Prop}{A B C:World}(h:Vn S A B)(k:Vn S B C):Vn S A C:=⟨Nat.le_trans h.size k.size,fun i hi=>(k.same i hi).trans (h.same i hi)⟩
theorem Vn.tch{S T:Nat→Prop}{A B:World}(h:Z3 T A B)(hs:∀k,S k→k<A.heap.size∧¬T k):Vn S A B:=⟨h.size,fun i hi=>h.block i (hs i hi).1 (hs i hi).2⟩
theorem Vn.put{S:Nat→Prop}{A:World}{l:Nat}(o:Obj)(hl:¬S l):Vn S A (A.putObj l o):=⟨by simp,fun i hi=>World.putObj_heap_other (fun e=>hl (e▸hi))⟩
structure Vj(n₀:Nat)(S:Nat→Prop)(A B:World):Prop where
 os:B.os=A.os
 tape:B.tape=A.tape
 output:B.output=A.output
 size:A.heap.size≤B.heap.size
 block:∀k,k<A.heap.size→¬S k→B.heap[k]?=A.heap[k]?∨((k=n₀∨k=n₀+1)∧∃o,A.heap[k]?=some o∧o.isCells=false)
theorem Vj.of_tch{n₀:Nat}{S:Nat→Prop}{A B:World}(h:Z3 S A B):Vj n₀ S A B:=⟨h.os,h.tape,h.output,h.size,fun k hk hn=>.inl (h.block k hk hn)⟩
theorem Vj.put{n₀:Nat}{S:Nat→Prop}{A:World}{l:Nat}{o:Obj}(o':Obj)(hn:l=n₀∨l=n₀+1)(h:A.heap[l]?=some o)(ho:o.isCells=false):Vj n₀ S A (A.putObj l o') :=
 ⟨rfl,rfl,rfl,by simp,fun k _ _=>by
  by_cases e:k=l
  ·subst e;exact .inr ⟨hn,o,h,ho⟩
  ·exact .inl (World.putObj_heap_other e)⟩
theorem Vj.cells{n₀:Nat}{S:Nat→Prop}{A B:World}{k:Nat}{c:Array Value}{t:TypeId}{f:Nat × Nat}(h:Vj n₀ S A B)(hk:A.heap[k]?=some (.cells c t f))(hn:¬S k):B.heap[k]?=some (.cells c t f):=by
 rcases h.block k (Array.getElem?_eq_some_iff.1 hk).1 hn with e | ⟨_,o,ho,hc⟩
 ·exact e.trans hk
 ·rw[hk] at ho;cases ho;cases hc
theorem Vj.row{n₀:Nat}{S:Nat→Prop}{A B:World}{v:Value}{n:Nat}{e:TypeId}{size:Nat}{xs:List Value}(h:Vj n₀ S A B)(hr:A.ownsRow 0 e size v n xs)(hn:∀k,v.ownBlock=some k→¬S k):B.ownsRow 0 e size v n xs:=by
 refine⟨hr.1,?_⟩
 rcases hr.2 with h0 | ⟨g,cap,cur,rfl,hb,hg,rest⟩
 ·exact .inl h0
 ·exact .inr ⟨g,cap,cur,rfl,hb,h.cells hg (hn g rfl),rest⟩
theorem Vj.tch{n₀:Nat}{S T:Nat→Prop}{w A B:World}(h:Vj n₀ S A B)(k:Z3 T w A)(hn:w.heap.size≤n₀)(hS:∀i,i<w.heap.size→S i→T i):Z3 T w B :=
 ⟨h.os.trans k.os,h.tape.trans k.tape,h.output.trans k.output,Nat.le_trans k.size h.size,fun i hi ht=>by
  rcases h.block i (lL0 hi k.size) (fun e=>ht (hS i hi e))with e | ⟨e,_⟩
  ·exact e.trans (k.block i hi ht)
  ·omega⟩
def KpD(n₀:Nat)(A B:World):Prop:=∀k,(k=n₀∨k=n₀+1)→B.heap[k]?=A.heap[k]?
def Zaz(F:Fence)(n:Nat)(P:Program)(g:Nat)(fa lb:Array Value)(xs:List Int)(S0:Nat→Prop)(End:World→Prop)(w:World):Prop :=
 ∀(l:Nat) (J Jx:(Nat→Prop)→List Int→World→Prop) (W:World),Nw w W →
  (∀S S' pre A B,J S pre A→Z3 S A B→(∀k,S k→S' k)→(∀k,S' k→S k∨A.heap.size≤k)→(∀k,S' k→k<B.heap.size)→J S' pre B) →
  (∀S S' pre A B,Jx S pre A→Z3 S A B→(∀k,S k→S' k)→(∀k,S' k→S k∨A.heap.size≤k)→(∀k,S' k→k<B.heap.size)→Jx S' pre B) →
  (∀S pre x A,J S pre A→(∀k,S0 k→S k)→(∀k,S k→k<A.heap.size)→(pre++[x]) <+: xs→YieldAt F (n-1) P l #[.int .i64 x] A fun e B =>
   (e=.returned (.bool true)∧J S (pre++[x]) B∧Vn S A B)∨(e=.returned (.bool false)∧Jx S (pre++[x]) B∧Vn S A B)) →
  J S0 [] W →
  CallsIn F n P g (fa++#[.func (.yield l) #[] #[]]++lb) W fun e W'=>(∃v,e=.returned v)∧((∃S,J S xs W'∧End W')∨(∃S pre,pre <+: xs∧Jx S pre W'))
def Zph(n₀:Nat)(S:Nat→Prop)(I:(Nat→Prop)→List Int→World→Prop)(Ix:Code→(Nat→Prop)→List Int→World→Prop)(pre:List Int)(A:World):Exit→Act→World→Prop
 | .normal,_,B=>KpD n₀ A B∧Vn S A B∧I S pre B
 | .ret,_,B=>KpD n₀ A B∧Vn S A B∧Ix .ret S pre B
 | .exit id,_,B=>KpD n₀ A B∧Vn S A B∧Ix (.exit id) S pre B
 | .goto t,_,B=>KpD n₀ A B∧Vn S A B∧Ix (.goto t) S pre B
 | .panic _,_,_=>False
 | .outgrown,_,_=>False
variable {F:Fence} {n:Nat} {P:Program}
theorem Zpi{g:Operand}{ps:Array Tmp}{assign body:Code}{Q:Exit→Act→World→Prop}{a:Act}{w:World}
  (hro:F.round=none) (h1:1≤n) {gf:Nat} {fa lb:Array Value} (hg:a.eval g=.func (.func gf) fa lb) (hFg:F.fn gf) (eg:∀args w,(callFunc gf args).run P w=.ok (.enter gf args) w)
  {xs:List Int} {S0:Nat→Prop} {End:World→Prop} (hS0:∀k,S0 k→k<w.heap.size) (hseq:Zaz F (n-1) P gf fa lb xs S0 End w) (hps:ps.size=1)
  (hEnd:∀(A:World) (l:Nat) (o o':Obj),w.heap.size≤l→A.heap[l]?=some o→o.isCells=false→End A→End (A.putObj l o'))
  (I:(Nat→Prop)→List Int→World→Prop) (Ix:Code→(Nat→Prop)→List Int→World→Prop)
  (hI:∀S S' pre A B,I S pre A→Vj w.heap.size S A B→(∀k,S k→S' k)→(∀k,S' k→S k∨A.heap.size≤k)→(∀k,S' k→k<B.heap.size)→I S' pre B)
  (hIx:∀c S S' pre A B,Ix c S pre A→Vj w.heap.size S A B→(∀k,S k→S' k)→(∀k,S' k→S k∨A.heap.size≤k)→(∀k,S' k→k<B.heap.size)→Ix c S' pre B)
  (h0:I S0 [] w) (a₁:Int→Act)
  (hassign:∀(l:Nat) (x:Int) (A:World) (K:Act→World→Prop),K (a₁ x) A →
   assign.wpIn (F.inRound l) (n-1-1) P (Exit.then K (fun _ _ _=>False)) { tmps:=(ps.zip #[.int .i64 x]).foldl (fun t (p,v)=>t.setIfInBounds p v) a.tmps,defers:=[] } A)
  (hbody:∀(l:Nat) (S:Nat→Prop) (pre:List Int) (x:Int) (A:World),I S pre A→(∀k,S0 k→S k)→(∀k,S k→k<A.heap.size)→(∀k,(k=w.heap.size∨k=w.heap.size+1)→¬S k∧∃o,A.heap[k]?=some o∧o.isCells=false) →
   (pre++[x]) <+: xs→body.wpIn (F.inRound l) (n-1-1) P (Zph w.heap.size S I Ix (pre++[x]) A) (a₁ x) A)
  (hdone:∀(D:Nat) (S:Nat→Prop) (W:World),D=w.heap.size→(∀k,S k→k<W.heap.size)→I S xs W→End W→W.heap[D]?=some (.deferred (some []))→Q .normal { a with defers:={ target:=.collected D,args:=#[] }::a.defers } W)
  (hstop:∀(D:Nat) (c:Code) (S:Nat→Prop) (pre:List Int) (W:World),D=w.heap.size→pre <+: xs→Ix c S pre W→W.heap[D]?=some (.deferred (some []))→c.wpIn F n P Q { a with defers:={ target:=.collected D,args:=#[] }::a.defers } W) :
  (Code.rangeFunc g ps assign body).wpIn F n P Q a w:=by
 refine wpIn_rangeFunc ?_
 intro fn hfn
 rw[hro]
 obtain⟨rec,hrec⟩:∃rec:LoopState→Option Code→Loop,rec=fun st pe=>{ state:=st,pending:=pe,fn,tmps:=a.tmps,params:=ps,assign,body,defers:=w.heap.size }:=⟨_,rfl⟩
 obtain⟨W1,hW1⟩:∃W1,(w.alloc (.deferred (some []))).alloc (.loop (rec .ready none))=W1:=⟨_,rfl⟩
 have hL1:W1.heap[w.heap.size+1]?=some (.loop (rec .ready none)):=by
  rw[←hW1];have:=World.alloc_heap_new (w.alloc (.deferred (some []))) (.loop (rec .ready none));rwa [World.size_alloc] at this
 have hK1:W1.heap[w.heap.size]?=some (.deferred (some [])):=by
  rw[←hW1];exact(Below.heap_alloc _ _ _ (by simp)).trans (World.alloc_heap_new w _)
 have hb1:Nw w W1:=by rw[←hW1];exact((Nw.refl w).alloc _).alloc _
 have hI1:I S0 [] W1:=hI S0 S0 [] w W1 h0 (Vj.of_tch (Z3.nw hb1)) (fun _ e=>e) (fun _ e=>.inl e) (fun k e=>lL0 (hS0 k e) hb1.sz)
 refine⟨w.heap.size+1,[{ target:=.collected w.heap.size,args:=#[] }],W1,{ target:=.fn (.func gf) lb,args:=fa++#[.func (.yield (w.heap.size+1)) #[] #[]] },W1,gf,
  fa++#[.func (.yield (w.heap.size+1)) #[] #[]]++lb,W1,?_,?_,?_,?_,fun _=>h1,?_⟩
 ·rw[←hW1,hrec];exact run_enterLoop_outer _ _ _ _ _
 ·simp only[resolve,hg]
  simp[go_sem]
 ·intro f' hf';simp[Target.leads] at hf';subst hf';exact hFg
 ·simp[invoke,go_sem,eg]
 ·have lt_of:∀ {A:World} {k:Nat} {o:Obj},A.heap[k]?=some o→k<A.heap.size:=fun h=>(Array.getElem?_eq_some_iff.1 h).1
  refine(hseq (w.heap.size+1)
   (fun S pre W=>I S pre W∧W.heap[w.heap.size+1]?=some (.loop (rec .ready none))∧W.heap[w.heap.size]?=some (.deferred (some []))∧¬S (w.heap.size+1)∧¬S w.heap.size∧(∀k,S k→k<W.heap.size))
   (fun S pre W=>∃c,Ix c S pre W∧W.heap[w.heap.size+1]?=some (.loop (rec .done (some c)))∧W.heap[w.heap.size]?=some (.deferred (some []))∧¬S (w.heap.size+1)∧¬S w.heap.size∧(∀k,S k→k<W.heap.size))
   W1 hb1 ?_ ?_ ?_ ⟨hI1,hL1,hK1,fun e=>by have:=hS0 _ e;omega,fun e=>by have:=hS0 _ e;omega,fun k e=>lL0 (hS0 k e) hb1.sz⟩).mono ?_
  ·rintro S S' pre A B ⟨hi,hl,hk,hn1,hn2,hbd⟩ ht hs1 hs2 hs3
   exact⟨hI S S' pre A B hi (Vj.of_tch ht) hs1 hs2 hs3,(ht.block _ (lt_of hl) hn1).trans hl,(ht.block _ (lt_of hk) hn2).trans hk,
    fun e=>(hs2 _ e).elim hn1 (fun h=>by have:=lt_of hl;omega),fun e=>(hs2 _ e).elim hn2 (fun h=>by have:=lt_of hk;omega),hs3⟩
  ·rintro S S' pre A B ⟨c,hi,hl,hk,hn1,hn2,hbd⟩ ht hs1 hs2 hs3
   exact⟨c,hIx c S S' pre A B hi (Vj.of_tch ht) hs1 hs2 hs3,(ht.block _ (lt_of hl) hn1).trans hl,(ht.block _ (lt_of hk) hn2).trans hk,
    fun e=>(hs2 _ e).elim hn1 (fun h=>by have:=lt_of hl;omega),fun e=>(hs2 _ e).elim hn2 (fun h=>by have:=lt_of hk;omega),hs3⟩
  ·
   rintro S pre x W ⟨hi,hl,hk,hn1,hn2,hbd⟩ hsub hex hpre
   have hy:=run_yield (P:=P) (args:=#[.int .i64 x]) hl (by rw[hrec];exact hps.symm)
   rw[hrec] at hy
   refine⟨fn,_,assign,body,hy,roundIn_of_wpIn hfn (hassign _ x W _ ?_)⟩
   clear hy
   have nw1:Nw W W:=Nw.refl W
   have hl1:W.heap[w.heap.size+1]?=some (.loop (rec .ready none)):=(nw1.block _ (lt_of hl)).trans hl
   have hk1:W.heap[w.heap.size]?=some (.deferred (some [])):=(nw1.block _ (lt_of hk)).trans hk
   have hlW:=lt_of hl
   have hi1:I S pre W:=hI S S pre W W hi (Vj.of_tch (Z3.nw nw1)) (fun _ e=>e) (fun _ e=>.inl e) (fun k e=>lL0 (hex k e) nw1.sz)
   refine⟨_,run_beginRound hl1 (by rw[hrec]),?_⟩
   obtain⟨A2,hA2⟩:∃A2,W.putObj (w.heap.size+1) (.loop { rec .ready none with state:=.busy })=A2:=⟨_,rfl⟩
   rw[hA2]
   have hl2:A2.heap[w.heap.size+1]?=some (.loop { rec .ready none with state:=.busy }):=by rw[←hA2];exact World.putObj_heap_same (lt_of hl1)
   have hk2:A2.heap[w.heap.size]?=some (.deferred (some [])):=by rw[←hA2];exact(World.putObj_heap_other (by omega)).trans hk1
   have hi2:I S pre A2:=by rw[←hA2];exact hI S S pre W _ hi1 (Vj.put _ (.inr rfl) hl1 rfl) (fun _ e=>e) (fun _ e=>.inl e) (fun k e=>by rw[World.putObj_size];exact lL0 (hex k e) nw1.sz)
   have hsz2:W.heap.size≤A2.heap.size:=by rw[←hA2];simp
   have kps:Vn S W A2:=by
    rw[←hA2]
    exact(Vn.tch (Z3.nw (S:=fun _=>False) nw1) (fun k e=>⟨hex k e,fun h=>h⟩)).trans (Vn.put _ hn1)
   refine wpIn_mono (hbody _ S pre x A2 hi2 hsub (fun k e=>lL0 (hex k e) hsz2) (fun k e=>by
    rcases e with rfl | rfl
    ·exact⟨hn2,_,hk2,rfl⟩
    ·exact⟨hn1,_,hl2,rfl⟩) hpre) ?_
   have fin:∀(jump:Option Code) (W3:World),KpD w.heap.size A2 W3 →
     (Instr.endRound (w.heap.size+1) jump).run P W3=.ok (.bool jump.isNone) (W3.putObj (w.heap.size+1) (.loop (rec (if jump.isNone then .ready else .done) jump))) ∧
     W3.heap[w.heap.size+1]?=some (.loop { rec .ready none with state:=.busy }) ∧
     (W3.putObj (w.heap.size+1) (.loop (rec (if jump.isNone then .ready else .done) jump))).heap[w.heap.size+1]?=some (.loop (rec (if jump.isNone then .ready else .done) jump)) ∧
     (W3.putObj (w.heap.size+1) (.loop (rec (if jump.isNone then .ready else .done) jump))).heap[w.heap.size]?=some (.deferred (some [])):=fun jump W3 hk3=>by
    have hl3:=(hk3 _ (.inr rfl)).trans hl2
    have:=run_endRound (P:=P) jump hl3
    rw[hrec] at this ⊢
    exact⟨this,by rw[hrec] at hl3;exact hl3,World.putObj_heap_same (lt_of hl3),(World.putObj_heap_other (by omega)).trans ((hk3 _ (.inl rfl)).trans hk2)⟩
   have b3:∀ {W3:World},Vn S A2 W3→∀ {jj:Obj} (k:Nat),S k→k<(W3.putObj (w.heap.size+1) jj).heap.size:=fun h3 _ k e=>by rw[World.putObj_size];exact lL0 (hex k e) (kps.trans h3).size
   rintro e a3 W3 hp
   cases e with
   | normal =>
    obtain⟨hk3,hkp3,hi3⟩:=hp
    obtain⟨hr,hl3,hl4,hk4⟩:=fin none W3 hk3
    exact⟨_,_,hr,.inl ⟨rfl,⟨hI S S _ W3 _ hi3 (Vj.put _ (.inr rfl) hl3 rfl) (fun _ e=>e) (fun _ e=>.inl e) (b3 hkp3),hl4,hk4,hn1,hn2,b3 hkp3⟩,(kps.trans hkp3).trans (Vn.put _ hn1)⟩⟩
   | ret =>
    obtain⟨hk3,hkp3,hi3⟩:=hp
    obtain⟨hr,hl3,hl4,hk4⟩:=fin (some .ret) W3 hk3
    exact⟨_,_,hr,.inr ⟨rfl,⟨.ret,hIx _ S S _ W3 _ hi3 (Vj.put _ (.inr rfl) hl3 rfl) (fun _ e=>e) (fun _ e=>.inl e) (b3 hkp3),hl4,hk4,hn1,hn2,b3 hkp3⟩,(kps.trans hkp3).trans (Vn.put _ hn1)⟩⟩
   | exit id =>
    obtain⟨hk3,hkp3,hi3⟩:=hp
    obtain⟨hr,hl3,hl4,hk4⟩:=fin (some (.exit id)) W3 hk3
    exact⟨_,_,hr,.inr ⟨rfl,⟨.exit id,hIx _ S S _ W3 _ hi3 (Vj.put _ (.inr rfl) hl3 rfl) (fun _ e=>e) (fun _ e=>.inl e) (b3 hkp3),hl4,hk4,hn1,hn2,b3 hkp3⟩,(kps.trans hkp3).trans (Vn.put _ hn1)⟩⟩
   | goto t =>
    obtain⟨hk3,hkp3,hi3⟩:=hp
    obtain⟨hr,hl3,hl4,hk4⟩:=fin (some (.goto t)) W3 hk3
    exact⟨_,_,hr,.inr ⟨rfl,⟨.goto t,hIx _ S S _ W3 _ hi3 (Vj.put _ (.inr rfl) hl3 rfl) (fun _ e=>e) (fun _ e=>.inl e) (b3 hkp3),hl4,hk4,hn1,hn2,b3 hkp3⟩,(kps.trans hkp3).trans (Vn.put _ hn1)⟩⟩
   | panic ch=>exact hp.elim
   | outgrown=>exact hp.elim
  ·
   rintro e W2 ⟨⟨v,rfl⟩,(⟨S,⟨hi,hl,hk,hn1,hn2,hbd⟩,hE⟩ | ⟨S,pre,hp,c,hi,hl,hk,hn1,hn2,hbd⟩)⟩
   ·exact⟨none,_,by have:=run_endLoop (P:=P) hl (by rw[hrec];simp);rw[hrec] at this;exact this,
     hdone _ S _ rfl (fun k e=>by rw[World.putObj_size];exact hbd k e) (hI S S _ W2 _ hi (Vj.put _ (.inr rfl) hl rfl) (fun _ e=>e) (fun _ e=>.inl e) (fun k e=>by rw[World.putObj_size];exact hbd k e)) (hEnd _ _ _ _ (by omega) hl rfl hE) ((World.putObj_heap_other (by omega)).trans hk)⟩
   ·exact⟨some c,_,by have:=run_endLoop (P:=P) hl (by rw[hrec];simp);rw[hrec] at this;exact this,
     hstop _ c S pre _ rfl hp (hIx c S S _ W2 _ hi (Vj.put _ (.inr rfl) hl rfl) (fun _ e=>e) (fun _ e=>.inl e) (fun k e=>by rw[World.putObj_size];exact hbd k e)) ((World.putObj_heap_other (by omega)).trans hk)⟩
end
section
def Z76{α:Type}(F:Fence)(n:Nat)(P:Program)(g:Nat)(fa lb:Array Value)(yv:α→Value)(Pre Fin:List α→Prop)(S0:Nat→Prop)(w:World):Prop :=
 ∀(l:Nat) (J Jx:(Nat→Prop)→List α→World→Prop) (W:World),Nw w W →
  (∀S S' pre A B,J S pre A→Z3 (fun k=>S k∧¬S0 k) A B→(∀k,S k→S' k)→(∀k,S' k→S k∨A.heap.size≤k)→(∀k,S' k→k<B.heap.size)→J S' pre B) →
  (∀S S' pre A B,Jx S pre A→Z3 (fun k=>S k∧¬S0 k) A B→(∀k,S k→S' k)→(∀k,S' k→S k∨A.heap.size≤k)→(∀k,S' k→k<B.heap.size)→Jx S' pre B) →
  (∀S pre x A,J S pre A→(∀k,S0 k→S k)→(∀k,S k→k<A.heap.size)→Pre (pre++[x])→YieldAt F (n-1) P l #[yv x] A fun e B =>
   (e=.returned (.bool true)∧J S (pre++[x]) B∧Vn S A B)∨(e=.returned (.bool false)∧Jx S (pre++[x]) B∧Vn S A B)) →
  J S0 [] W →
  CallsIn F n P g (fa++#[.func (.yield l) #[] #[]]++lb) W fun e W'=>(∃v,e=.returned v)∧((∃S xs,Fin xs∧J S xs W')∨(∃S pre,Pre pre∧Jx S pre W'))
theorem Z76.later{α:Type}{F:Fence}{n:Nat}{P:Program}{g:Nat}{fa lb:Array Value}{yv:α→Value}{Pre Fin:List α→Prop}{S0:Nat→Prop}{w w':World}(h:Z76 F n P g fa lb yv Pre Fin S0 w)(k:Nw w w'):Z76 F n P g fa lb yv Pre Fin S0 w' :=
 fun l J Jx W hW=>h l J Jx W (k.trans hW)
def Zpg{α:Type}(n₀:Nat)(S:Nat→Prop)(I:(Nat→Prop)→List α→World→Prop)(Ix:Code→(Nat→Prop)→List α→World→Prop)(pre:List α)(A:World):Exit→Act→World→Prop
 | .normal,_,B=>KpD n₀ A B∧Vn S A B∧I S pre B
 | .ret,_,B=>KpD n₀ A B∧Vn S A B∧Ix .ret S pre B
 | .exit id,_,B=>KpD n₀ A B∧Vn S A B∧Ix (.exit id) S pre B
 | .goto t,_,B=>KpD n₀ A B∧Vn S A B∧Ix (.goto t) S pre B
 | .panic _,_,_=>False
 | .outgrown,_,_=>False
def mkB(o:Option Obj)(A:World):World:=match o with | none=>A | some o=>A.alloc o
theorem Zp1(o:Option Obj)(A:World):Nw A (mkB o A):=by
 cases o with
 | none=>exact Nw.refl A
 | some o=>exact(Nw.refl A).alloc _
theorem Zp0(o:Obj)(A:World):(mkB (some o) A).heap[A.heap.size]?=some o:=World.alloc_heap_new _ _
variable {F:Fence} {n:Nat} {P:Program} {α:Type}
theorem Zbz{g:Operand}{ps:Array Tmp}{assign body:Code}{Q:Exit→Act→World→Prop}{a:Act}{w:World}
  (hro:F.round=none) (h1:1≤n) {gf:Nat} {fa lb:Array Value} (hg:a.eval g=.func (.func gf) fa lb) (hFg:F.fn gf) (eg:∀args w,(callFunc gf args).run P w=.ok (.enter gf args) w)
  {yv:α→Value} {Pre Fin:List α→Prop} {S0:Nat→Prop} (hS0:∀k,S0 k→k<w.heap.size) (hseq:Z76 F (n-1) P gf fa lb yv Pre Fin S0 w) (hps:ps.size=1)
  (I:(Nat→Prop)→List α→World→Prop) (Ix:Code→(Nat→Prop)→List α→World→Prop)
  (hI:∀S S' pre A B,I S pre A→Vj w.heap.size (fun k=>S k∧¬S0 k) A B→(∀k,S k→S' k)→(∀k,S' k→S k∨A.heap.size≤k)→(∀k,S' k→k<B.heap.size)→I S' pre B)
  (hIx:∀c S S' pre A B,Ix c S pre A→Vj w.heap.size (fun k=>S k∧¬S0 k) A B→(∀k,S k→S' k)→(∀k,S' k→S k∨A.heap.size≤k)→(∀k,S' k→k<B.heap.size)→Ix c S' pre B)
  (h0:I S0 [] w) (bxo:α→Option Obj) (a₁:α→Nat→Act)
  (hassign:∀(l:Nat) (x:α) (A:World) (K:Act→World→Prop),K (a₁ x A.heap.size) (mkB (bxo x) A) →
   assign.wpIn (F.inRound l) (n-1-1) P (Exit.then K (fun _ _ _=>False)) { tmps:=(ps.zip #[yv x]).foldl (fun t (p,v)=>t.setIfInBounds p v) a.tmps,defers:=[] } A)
  (hbody:∀(l:Nat) (S:Nat→Prop) (pre:List α) (x:α) (bx:Nat) (A:World),I S pre A→(∀k,S0 k→S k)→(∀k,S k→k<A.heap.size)→¬S bx→w.heap.size≤bx→(∀k,(k=w.heap.size∨k=w.heap.size+1)→¬S k∧∃o,A.heap[k]?=some o∧o.isCells=false)→(∀o,bxo x=some o→A.heap[bx]?=some o) →
   Pre (pre++[x])→body.wpIn (F.inRound l) (n-1-1) P (Zpg w.heap.size S I Ix (pre++[x]) A) (a₁ x bx) A)
  (hdone:∀(D:Nat) (S:Nat→Prop) (xs:List α) (W:World),D=w.heap.size→(∀k,S k→k<W.heap.size)→Fin xs→I S xs W→W.heap[D]?=some (.deferred (some []))→Q .normal { a with defers:={ target:=.collected D,args:=#[] }::a.defers } W)
  (hstop:∀(D:Nat) (c:Code) (S:Nat→Prop) (pre:List α) (W:World),D=w.heap.size→Pre pre→Ix c S pre W→W.heap[D]?=some (.deferred (some []))→c.wpIn F n P Q { a with defers:={ target:=.collected D,args:=#[] }::a.defers } W) :
  (Code.rangeFunc g ps assign body).wpIn F n P Q a w:=by
 refine wpIn_rangeFunc ?_
 intro fn hfn
 rw[hro]
 obtain⟨rec,hrec⟩:∃rec:LoopState→Option Code→Loop,rec=fun st pe=>{ state:=st,pending:=pe,fn,tmps:=a.tmps,params:=ps,assign,body,defers:=w.heap.size }:=⟨_,rfl⟩
 obtain⟨W1,hW1⟩:∃W1,(w.alloc (.deferred (some []))).alloc (.loop (rec .ready none))=W1:=⟨_,rfl⟩
 have hL1:W1.heap[w.heap.size+1]?=some (.loop (rec .ready none)):=by
  rw[←hW1];have:=World.alloc_heap_new (w.alloc (.deferred (some []))) (.loop (rec .ready none));rwa [World.size_alloc] at this
 have hK1:W1.heap[w.heap.size]?=some (.deferred (some [])):=by
  rw[←hW1];exact(Below.heap_alloc _ _ _ (by simp)).trans (World.alloc_heap_new w _)
 have hb1:Nw w W1:=by rw[←hW1];exact((Nw.refl w).alloc _).alloc _
 have hI1:I S0 [] W1:=hI S0 S0 [] w W1 h0 (Vj.of_tch (Z3.nw hb1)) (fun _ e=>e) (fun _ e=>.inl e) (fun k e=>lL0 (hS0 k e) hb1.sz)
 refine⟨w.heap.size+1,[{ target:=.collected w.heap.size,args:=#[] }],W1,{ target:=.fn (.func gf) lb,args:=fa++#[.func (.yield (w.heap.size+1)) #[] #[]] },W1,gf,
  fa++#[.func (.yield (w.heap.size+1)) #[] #[]]++lb,W1,?_,?_,?_,?_,fun _=>h1,?_⟩
 ·rw[←hW1,hrec];exact run_enterLoop_outer _ _ _ _ _
 ·simp only[resolve,hg]
  simp[go_sem]
 ·intro f' hf';simp[Target.leads] at hf';subst hf';exact hFg
 ·simp[invoke,go_sem,eg]
 ·have lt_of:∀ {A:World} {k:Nat} {o:Obj},A.heap[k]?=some o→k<A.heap.size:=fun h=>(Array.getElem?_eq_some_iff.1 h).1
  refine(hseq (w.heap.size+1)
   (fun S pre W=>I S pre W∧W.heap[w.heap.size+1]?=some (.loop (rec .ready none))∧W.heap[w.heap.size]?=some (.deferred (some []))∧¬S (w.heap.size+1)∧¬S w.heap.size∧(∀k,S k→k<W.heap.size))
   (fun S pre W=>∃c,Ix c S pre W∧W.heap[w.heap.size+1]?=some (.loop (rec .done (some c)))∧W.heap[w.heap.size]?=some (.deferred (some []))∧¬S (w.heap.size+1)∧¬S w.heap.size∧(∀k,S k→k<W.heap.size))
   W1 hb1 ?_ ?_ ?_ ⟨hI1,hL1,hK1,fun e=>by have:=hS0 _ e;omega,fun e=>by have:=hS0 _ e;omega,fun k e=>lL0 (hS0 k e) hb1.sz⟩).mono ?_
  ·rintro S S' pre A B ⟨hi,hl,hk,hn1,hn2,hbd⟩ ht hs1 hs2 hs3
   exact⟨hI S S' pre A B hi (Vj.of_tch ht) hs1 hs2 hs3,(ht.block _ (lt_of hl) (fun e=>hn1 e.1)).trans hl,(ht.block _ (lt_of hk) (fun e=>hn2 e.1)).trans hk,
    fun e=>(hs2 _ e).elim hn1 (fun h=>by have:=lt_of hl;omega),fun e=>(hs2 _ e).elim hn2 (fun h=>by have:=lt_of hk;omega),hs3⟩
  ·rintro S S' pre A B ⟨c,hi,hl,hk,hn1,hn2,hbd⟩ ht hs1 hs2 hs3
   exact⟨c,hIx c S S' pre A B hi (Vj.of_tch ht) hs1 hs2 hs3,(ht.block _ (lt_of hl) (fun e=>hn1 e.1)).trans hl,(ht.block _ (lt_of hk) (fun e=>hn2 e.1)).trans hk,
    fun e=>(hs2 _ e).elim hn1 (fun h=>by have:=lt_of hl;omega),fun e=>(hs2 _ e).elim hn2 (fun h=>by have:=lt_of hk;omega),hs3⟩
  ·
   rintro S pre x W ⟨hi,hl,hk,hn1,hn2,hbd⟩ hsub hex hpre
   have hy:=run_yield (P:=P) (args:=#[yv x]) hl (by rw[hrec];exact hps.symm)
   rw[hrec] at hy
   refine⟨fn,_,assign,body,hy,roundIn_of_wpIn hfn (hassign _ x W _ ?_)⟩
   clear hy
   have hbx:∀o,bxo x=some o→(mkB (bxo x) W).heap[W.heap.size]?=some o:=fun o e=>by rw[e];exact Zp0 o W
   have nw1:=Zp1 (bxo x) W
   obtain⟨A1,hA1⟩:∃A1,mkB (bxo x) W=A1:=⟨_,rfl⟩
   rw[hA1] at nw1 hbx ⊢
   have hl1:A1.heap[w.heap.size+1]?=some (.loop (rec .ready none)):=(nw1.block _ (lt_of hl)).trans hl
   have hk1:A1.heap[w.heap.size]?=some (.deferred (some [])):=(nw1.block _ (lt_of hk)).trans hk
   have hlW:=lt_of hl
   have hi1:I S pre A1:=hI S S pre W A1 hi (Vj.of_tch (Z3.nw nw1)) (fun _ e=>e) (fun _ e=>.inl e) (fun k e=>lL0 (hex k e) nw1.sz)
   refine⟨_,run_beginRound hl1 (by rw[hrec]),?_⟩
   obtain⟨A2,hA2⟩:∃A2,A1.putObj (w.heap.size+1) (.loop { rec .ready none with state:=.busy })=A2:=⟨_,rfl⟩
   rw[hA2]
   have hl2:A2.heap[w.heap.size+1]?=some (.loop { rec .ready none with state:=.busy }):=by rw[←hA2];exact World.putObj_heap_same (lt_of hl1)
   have hk2:A2.heap[w.heap.size]?=some (.deferred (some [])):=by rw[←hA2];exact(World.putObj_heap_other (by omega)).trans hk1
   have hbx2:∀o,bxo x=some o→A2.heap[W.heap.size]?=some o:=fun o e=>by rw[←hA2];exact(World.putObj_heap_other (by omega)).trans (hbx o e)
   have hi2:I S pre A2:=by rw[←hA2];exact hI S S pre A1 _ hi1 (Vj.put _ (.inr rfl) hl1 rfl) (fun _ e=>e) (fun _ e=>.inl e) (fun k e=>by rw[World.putObj_size];exact lL0 (hex k e) nw1.sz)
   have hsz2:W.heap.size≤A2.heap.size:=by rw[←hA2];simp;exact nw1.sz
   have kps:Vn S W A2:=by
    rw[←hA2]
    exact(Vn.tch (Z3.nw (S:=fun _=>False) nw1) (fun k e=>⟨hex k e,fun h=>h⟩)).trans (Vn.put _ hn1)
   refine wpIn_mono (hbody _ S pre x W.heap.size A2 hi2 hsub (fun k e=>lL0 (hex k e) hsz2) (fun e=>by have:=hex _ e;omega) (by omega) (fun k e=>by
    rcases e with rfl | rfl
    ·exact⟨hn2,_,hk2,rfl⟩
    ·exact⟨hn1,_,hl2,rfl⟩) hbx2 hpre) ?_
   have fin:∀(jump:Option Code) (W3:World),KpD w.heap.size A2 W3 →
     (Instr.endRound (w.heap.size+1) jump).run P W3=.ok (.bool jump.isNone) (W3.putObj (w.heap.size+1) (.loop (rec (if jump.isNone then .ready else .done) jump))) ∧
     W3.heap[w.heap.size+1]?=some (.loop { rec .ready none with state:=.busy }) ∧
     (W3.putObj (w.heap.size+1) (.loop (rec (if jump.isNone then .ready else .done) jump))).heap[w.heap.size+1]?=some (.loop (rec (if jump.isNone then .ready else .done) jump)) ∧
     (W3.putObj (w.heap.size+1) (.loop (rec (if jump.isNone then .ready else .done) jump))).heap[w.heap.size]?=some (.deferred (some [])):=fun jump W3 hk3=>by
    have hl3:=(hk3 _ (.inr rfl)).trans hl2
    have:=run_endRound (P:=P) jump hl3
    rw[hrec] at this ⊢
    exact⟨this,by rw[hrec] at hl3;exact hl3,World.putObj_heap_same (lt_of hl3),(World.putObj_heap_other (by omega)).trans ((hk3 _ (.inl rfl)).trans hk2)⟩
   have b3:∀ {W3:World},Vn S A2 W3→∀ {jj:Obj} (k:Nat),S k→k<(W3.putObj (w.heap.size+1) jj).heap.size:=fun h3 _ k e=>by rw[World.putObj_size];exact lL0 (hex k e) (kps.trans h3).size
   rintro e a3 W3 hp
   cases e with
   | normal =>
    obtain⟨hk3,hkp3,hi3⟩:=hp
    obtain⟨hr,hl3,hl4,hk4⟩:=fin none W3 hk3
    exact⟨_,_,hr,.inl ⟨rfl,⟨hI S S _ W3 _ hi3 (Vj.put _ (.inr rfl) hl3 rfl) (fun _ e=>e) (fun _ e=>.inl e) (b3 hkp3),hl4,hk4,hn1,hn2,b3 hkp3⟩,(kps.trans hkp3).trans (Vn.put _ hn1)⟩⟩
   | ret =>
    obtain⟨hk3,hkp3,hi3⟩:=hp
    obtain⟨hr,hl3,hl4,hk4⟩:=fin (some .ret) W3 hk3
    exact⟨_,_,hr,.inr ⟨rfl,⟨.ret,hIx _ S S _ W3 _ hi3 (Vj.put _ (.inr rfl) hl3 rfl) (fun _ e=>e) (fun _ e=>.inl e) (b3 hkp3),hl4,hk4,hn1,hn2,b3 hkp3⟩,(kps.trans hkp3).trans (Vn.put _ hn1)⟩⟩
   | exit id =>
    obtain⟨hk3,hkp3,hi3⟩:=hp
    obtain⟨hr,hl3,hl4,hk4⟩:=fin (some (.exit id)) W3 hk3
    exact⟨_,_,hr,.inr ⟨rfl,⟨.exit id,hIx _ S S _ W3 _ hi3 (Vj.put _ (.inr rfl) hl3 rfl) (fun _ e=>e) (fun _ e=>.inl e) (b3 hkp3),hl4,hk4,hn1,hn2,b3 hkp3⟩,(kps.trans hkp3).trans (Vn.put _ hn1)⟩⟩
   | goto t =>
    obtain⟨hk3,hkp3,hi3⟩:=hp
    obtain⟨hr,hl3,hl4,hk4⟩:=fin (some (.goto t)) W3 hk3
    exact⟨_,_,hr,.inr ⟨rfl,⟨.goto t,hIx _ S S _ W3 _ hi3 (Vj.put _ (.inr rfl) hl3 rfl) (fun _ e=>e) (fun _ e=>.inl e) (b3 hkp3),hl4,hk4,hn1,hn2,b3 hkp3⟩,(kps.trans hkp3).trans (Vn.put _ hn1)⟩⟩
   | panic ch=>exact hp.elim
   | outgrown=>exact hp.elim
  ·
   rintro e W2 ⟨⟨v,rfl⟩,(⟨S,xs,hf,hi,hl,hk,hn1,hn2,hbd⟩ | ⟨S,pre,hp,c,hi,hl,hk,hn1,hn2,hbd⟩)⟩
   ·exact⟨none,_,by have:=run_endLoop (P:=P) hl (by rw[hrec];simp);rw[hrec] at this;exact this,
     hdone _ S xs _ rfl (fun k e=>by rw[World.putObj_size];exact hbd k e) hf (hI S S _ W2 _ hi (Vj.put _ (.inr rfl) hl rfl) (fun _ e=>e) (fun _ e=>.inl e) (fun k e=>by rw[World.putObj_size];exact hbd k e)) ((World.putObj_heap_other (by omega)).trans hk)⟩
   ·exact⟨some c,_,by have:=run_endLoop (P:=P) hl (by rw[hrec];simp);rw[hrec] at this;exact this,
     hstop _ c S pre _ rfl hp (hIx c S S _ W2 _ hi (Vj.put _ (.inr rfl) hl rfl) (fun _ e=>e) (fun _ e=>.inl e) (fun k e=>by rw[World.putObj_size];exact hbd k e)) ((World.putObj_heap_other (by omega)).trans hk)⟩
end
section
open Go.ChangeShapes Go.WideShapes Go.ChangeAt Go.RowKit
theorem Z18(m:Int)(w:World)(h0:0≤m)(h1:m<7) :
  Calls prog 108 #[.int .i64 m] w fun e w'=>e=.returned (.bool true)∧w=w':=by
 go_enter func108,ntmps108
 go_wp2
 go_ret
 exact⟨rfl,rfl⟩
theorem Z9p(m:Int)(w:World)(h:m<0∨7≤m) :
  Calls prog 108 #[.int .i64 m] w fun e w'=>e=.returned (.bool false)∧w=w':=by
 rcases h with h | h
 ·go_enter func108,ntmps108
  go_wp2
  go_ret
  exact⟨rfl,rfl⟩
 ·have h0:0≤m:=by omega
  have hd:decide (m<7)=false:=by simp;omega
  go_enter func108,ntmps108
  go_wp2
  go_ret
  exact⟨rfl,rfl⟩
def Zpp:List Int:=[0,1,2,3,4,5,6,1,1,2,3,4,5,6,2,2,2,4,4,6,6,3,3,4,3,4,5,6,4,4,4,4,4,6,6,5,5,6,5,6,5,6,6,6,6,6,6,6,6]
def Z8e:Array Value:=(Zpp.map (Value.int .i64)).toArray
def Y0(a b:Int):Int:=Zpp.getD (a.toNat*7+b.toNat) 0
theorem Zf6(a b:Int)(ha:0≤a)(ha':a<7)(hb:0≤b)(hb':b<7):Z8e[a.toNat*7+b.toNat]?=some (.int .i64 (Y0 a b)):=by
 have h:a.toNat*7+b.toNat<Zpp.length:=by show _<49;omega
 unfold Z8e Y0
 simp[List.getElem?_eq_getElem h,List.getD]
theorem Zmd:(prog.info? 173).map (·.size)=some 49:=by kernel_rfl
theorem Zpq:Z8e.all (·.oneCell')=true:=by kernel_rfl
def Znu:List Bool:=[true,true,true,true,true,true,true,true,true,true,true,true,true,false,true,true,true,false,false,false,false,true,true,false,true,false,true,false,true,true,false,false,false,false,false,true,true,false,true,false,false,false,true,false,false,false,false,false,false]
def Z7k:Array Value:=(Znu.map Value.bool).toArray
def Z1s(a b:Int):Bool:=Znu.getD (a.toNat*7+b.toNat) false
theorem Ze2(a b:Int)(ha:0≤a)(ha':a<7)(hb:0≤b)(hb':b<7):Z7k[a.toNat*7+b.toNat]?=some (.bool (Z1s a b)):=by
 have h:a.toNat*7+b.toNat<Znu.length:=by show _<49;omega
 unfold Z7k Z1s
 simp[List.getElem?_eq_getElem h,List.getD]
theorem Zkd:(prog.info? 206).map (·.size)=some 49:=by kernel_rfl
theorem Znv:Z7k.all (·.oneCell')=true:=by kernel_rfl
theorem Zps(a b:Int)(w:World)(ha:0≤a)(ha':a<7)(hb:0≤b)(hb':b<7) :
  Calls prog 87 #[.int .i64 a,.int .i64 b] w fun e w'=>e=.returned (.int .i64 (Y0 a b))∧Nw w w':=by
 have hT:=Zf6 a b ha ha' hb hb'
 go_enter func87,ntmps87
 go_wp2_with (first | (go_at_call 108;refine(Z18 _ _ (by omega) (by omega)).mono ?_;rintro e w' ⟨rfl,rfl⟩) | (refine wpList_store_row rfl 173 _ _ rfl _ Z8e rfl rfl 173 _ (heap_alloc_last _ _) Zmd rfl Zpq ?_;rw[World.setRow_alloc_new]))
 go_ret
 exact⟨rfl,(Nw.refl _).alloc _⟩
theorem Znw(a b:Int)(w:World)(ha:0≤a)(ha':a<7)(hb:0≤b)(hb':b<7) :
  Calls prog 139 #[.int .i64 a,.int .i64 b] w fun e w'=>e=.returned (.bool (Z1s a b))∧Nw w w':=by
 have hT:=Ze2 a b ha ha' hb hb'
 go_enter func139,ntmps139
 go_wp2_with (first | (go_at_call 108;refine(Z18 _ _ (by omega) (by omega)).mono ?_;rintro e w' ⟨rfl,rfl⟩) | (refine wpList_store_row rfl 206 _ _ rfl _ Z7k rfl rfl 206 _ (heap_alloc_last _ _) Zkd rfl Znv ?_;rw[World.setRow_alloc_new]))
 go_ret
 exact⟨rfl,(Nw.refl _).alloc _⟩
end
structure Rq where
 id:Int
 txn:Int
 md:Int
 wt:Int
 sn:Int
def Zq(m:Int):Bool:=decide (0≤m)&&decide (m<7)
def Ui(a b:Int):Bool:=(Zq a&&Zq b)&&Z1s a b
def cvI(a b:Int):Bool:=(Zq a&&Zq b)&&(Y0 a b==a)
theorem V2(m:Int):Zq m=true↔0≤m∧m<7:=by simp[Zq]
theorem Z1z{p:Int→Int→Bool}(h:∀i<7,∀j<7,p (Int.ofNat i) (Int.ofNat j)=true)(a b:Int)(ha:Zq a=true)(hb:Zq b=true):p a b=true:=by
 rw[V2] at ha hb
 obtain⟨i,rfl⟩:=Int.eq_ofNat_of_zero_le ha.1
 obtain⟨j,rfl⟩:=Int.eq_ofNat_of_zero_le hb.1
 exact h i (by omega) j (by omega)
theorem Z7l:∀i<7,∀j<7,(Z1s (Int.ofNat i) (Int.ofNat j)==Z1s (Int.ofNat j) (Int.ofNat i))=true:=by decide +kernel
theorem Zg5(a b:Int)(ha:Zq a=true)(hb:Zq b=true):Z1s a b=Z1s b a:=by
 have:=Z1z (p:=fun a b=>Z1s a b==Z1s b a) Z7l a b ha hb
 simpa using this
theorem Zc6:∀i<7,∀j<7,Zq (Y0 (Int.ofNat i) (Int.ofNat j))=true:=by decide +kernel
theorem Zj6(a b:Int)(ha:Zq a=true)(hb:Zq b=true):Zq (Y0 a b)=true:=Z1z (p:=fun a b=>Zq (Y0 a b)) Zc6 a b ha hb
theorem Z3f:∀i<7,∀j<7,(cvI (Int.ofNat i) 0&&(cvI 0 (Int.ofNat j)==(Int.ofNat j==0)))=true:=by decide +kernel
theorem Zke(a:Int)(ha:Zq a=true):cvI a 0=true:=by
 have:=Z1z (p:=fun a b=>cvI a 0&&(cvI 0 b==(b==0))) Z3f a a ha ha
 simp at this
 exact this.1
theorem Zms(a:Int)(ha:Zq a=true)(h:a≠0):cvI 0 a=false:=by
 have:=Z1z (p:=fun a b=>cvI a 0&&(cvI 0 b==(b==0))) Z3f a a ha ha
 simp at this
 rw[this.2]
 simpa using h
theorem Z5o:∀i<7,∀j<7,((Y0 (Int.ofNat i) (Int.ofNat j)==Int.ofNat i)==cvI (Int.ofNat i) (Y0 (Int.ofNat i) (Int.ofNat j))&&(Int.ofNat i==0 || Y0 (Int.ofNat i) (Int.ofNat j) != 0))=true:=by decide +kernel
theorem Zpr(a b:Int)(ha:Zq a=true)(hb:Zq b=true)(h:Y0 a b≠a):cvI a (Y0 a b)=false:=by
 have:=Z1z (p:=fun a b=>(Y0 a b==a)==cvI a (Y0 a b)&&(a==0 || Y0 a b != 0)) Z5o a b ha hb
 simp only[Bool.and_eq_true,beq_iff_eq] at this
 rw[←this.1]
 simpa using h
theorem Zj7(a b:Int)(ha:Zq a=true)(hb:Zq b=true)(h:a≠0):Y0 a b≠0:=by
 have:=Z1z (p:=fun a b=>(Y0 a b==a)==cvI a (Y0 a b)&&(a==0 || Y0 a b != 0)) Z5o a b ha hb
 simp only[Bool.and_eq_true,beq_iff_eq,Bool.or_eq_true,bne_iff_ne] at this
 exact this.2.resolve_left h
theorem Zn3(a b:Int)(ha:Zq a=true)(hb:Zq b=true):Ui a b=Z1s a b:=by simp[Ui,ha,hb]
theorem Zcl(a b:Int):Ui a b=Ui b a:=by
 unfold Ui
 by_cases ha:Zq a=true
 ·by_cases hb:Zq b=true
  ·rw[ha,hb,Zg5 a b ha hb]
  ·simp[hb]
 ·simp[ha]
structure Rt(W:Int)(r:Rq):Prop where
 id:0≤r.id
 md:Zq r.md=true
 wt:Zq r.wt=true
 s0:0≤r.sn
 sW:r.sn≤W
 w:0<r.sn→cvI r.md r.wt=false
 h:r.sn=0→r.md≠0∧r.wt=r.md
structure Pr(a b:Rq):Prop where
 id:a.id≠b.id
 txn:a.txn≠b.txn
 sn:0<a.sn→a.sn≠b.sn
 ord:a.md=0→b.md=0∧a.sn<b.sn
 cp:a.md≠0→b.md≠0→Ui a.md b.md=true
structure Ok(W:Int)(q:List Rq):Prop where
 w0:0≤W
 wB:W≤4611686018427387904
 rt:∀r∈q,Rt W r
 pr:q.Pairwise Pr
theorem Rt.w'{W:Int}{r:Rq}(h:Rt W r)(z:r.md=0):0<r.sn:=by
 have:=h.h
 have h0:=h.s0
 rcases Int.lt_or_eq_of_le h0 with q | q
 ·exact q
 ·exact absurd z (this q.symm).1
theorem Rt.wne{W:Int}{r:Rq}(h:Rt W r):r.wt≠0:=by
 intro z
 rcases Int.lt_or_eq_of_le h.s0 with q | q
 ·have:=h.w q
  rw[z,Zke _ h.md] at this
  cases this
 ·have:=h.h q.symm
  exact this.1 (this.2.symm.trans z)
theorem Rt.mono{W W':Int}{r:Rq}(h:Rt W r)(hW:W≤W'):Rt W' r:=⟨h.id,h.md,h.wt,h.s0,Int.le_trans h.sW hW,h.w,h.h⟩
def blk(r o:Rq):Bool:=((o.md != 0)&&!Ui o.md r.wt) || ((o.md != 0)&&decide (0<o.sn)&&((r.md==0) || decide (o.sn<r.sn))) || ((r.md==0)&&(o.md==0)&&decide (o.sn<r.sn))
def Y7(q:List Rq)(r:Rq):Bool:=decide (0<r.sn)&&q.all fun o=>(o.id==r.id) || !blk r o
def Um(f:Rq→Rq)(id:Int)(q:List Rq):List Rq:=q.map fun r=>if r.id=id then f r else r
def U9(r:Rq):Rq:=⟨r.id,r.txn,r.wt,r.wt,0⟩
def lvQ(id:Int)(q:List Rq):List Rq:=q.filter fun r=>!(r.id==id)
def abR(r:Rq):Rq:=⟨r.id,r.txn,r.md,r.md,0⟩
def Va(q:List Rq)(id:Int):Option Rq:=q.find? fun r=>r.id==id
def abQ(r:Rq)(q:List Rq):List Rq:=if r.md=0 then lvQ r.id q else Um abR r.id q
def Z09(q:List Rq)(id txn m:Int):Int:=if id<0∨m=0∨Zq m=false then 2 else if (q.any fun r=>r.id==id || r.txn==txn)=true then 4 else 0
def free(q:List Rq)(m:Int):Bool:=q.all fun r=>r.sn==0&&Ui r.md m
def Ye(W:Int)(q:List Rq)(id txn m:Int):Int × List Rq × Bool:=if free q m=true then(W,q++[⟨id,txn,m,m,0⟩],true) else(W+1,q++[⟨id,txn,0,m,W+1⟩],false)
def upF(q:List Rq)(r:Rq)(want:Int):Bool:=q.all fun o=>(o.id==r.id) || (!(decide (0<o.sn)&&(o.md != 0))&&((o.md==0) || Ui o.md want))
def upQ(W:Int)(q:List Rq)(r:Rq)(m:Int):Int × List Rq × Bool :=
 if Y0 r.md m=r.md then(W,q,true)
 else if upF q r (Y0 r.md m)=true then(W,Um (fun x=>⟨x.id,x.txn,Y0 r.md m,Y0 r.md m,0⟩) r.id q,true)
 else(W+1,Um (fun x=>⟨x.id,x.txn,x.md,Y0 r.md m,W+1⟩) r.id q,false)
section
variable {W:Int} {q:List Rq}
theorem Ok.inj(h:Ok W q):∀a∈q,∀b∈q,a.id=b.id→a=b:=by
 have hp:=h.pr
 clear h
 induction hp with
 | nil=>intro a ha;cases ha
 | cons hx _ ih =>
  intro a ha b hb e
  rcases List.mem_cons.1 ha with rfl | ha'
  ·rcases List.mem_cons.1 hb with rfl | hb'
   ·rfl
   ·exact absurd e (hx b hb').id
  ·rcases List.mem_cons.1 hb with rfl | hb'
   ·exact absurd e.symm (hx a ha').id
   ·exact ih a ha' b hb' e
theorem Ok.injT(h:Ok W q):∀a∈q,∀b∈q,a.txn=b.txn→a=b:=by
 have hp:=h.pr
 clear h
 induction hp with
 | nil=>intro a ha;cases ha
 | cons hx _ ih =>
  intro a ha b hb e
  rcases List.mem_cons.1 ha with rfl | ha'
  ·rcases List.mem_cons.1 hb with rfl | hb'
   ·rfl
   ·exact absurd e (hx b hb').txn
  ·rcases List.mem_cons.1 hb with rfl | hb'
   ·exact absurd e.symm (hx a ha').txn
   ·exact ih a ha' b hb' e
theorem Ok.injS(h:Ok W q):∀a∈q,∀b∈q,0<a.sn→a.sn=b.sn→a=b:=by
 have hp:=h.pr
 clear h
 induction hp with
 | nil=>intro a ha;cases ha
 | cons hx _ ih =>
  intro a ha b hb h0 e
  rcases List.mem_cons.1 ha with rfl | ha'
  ·rcases List.mem_cons.1 hb with rfl | hb'
   ·rfl
   ·exact absurd e ((hx b hb').sn h0)
  ·rcases List.mem_cons.1 hb with rfl | hb'
   ·exact absurd e.symm ((hx a ha').sn (e▸h0))
   ·exact ih a ha' b hb' h0 e
theorem Z5e(h:Ok W q){W':Int}(hW:W≤W')(hB:W'≤4611686018427387904)(f:Rq→Rq)(r:Rq)(hr:r∈q)(hrt:Rt W' (f r))
  (h1:∀a∈q,a.id≠r.id→Pr a r→Pr a (f r)) (h2:∀b∈q,b.id≠r.id→Pr r b→Pr (f r) b):Ok W' (Um f r.id q):=by
 have hw:=h.w0
 refine⟨by omega,hB,fun x hx=>?_,?_⟩
 ·obtain⟨y,hy,rfl⟩:=List.mem_map.1 hx
  by_cases e:y.id=r.id
  ·rw[if_pos e,h.inj y hy r hr e];exact hrt
  ·rw[if_neg e];exact(h.rt y hy).mono hW
 ·unfold Um
  rw[List.pairwise_map]
  refine h.pr.imp_of_mem fun {a b} ha hb hp=>?_
  by_cases e1:a.id=r.id
  ·obtain rfl:=h.inj a ha r hr e1
   rw[if_pos rfl,if_neg (fun e=>hp.id e.symm)]
   exact h2 b hb (fun e=>hp.id e.symm) hp
  ·by_cases e2:b.id=r.id
   ·obtain rfl:=h.inj b hb r hr e2
    rw[if_neg e1,if_pos rfl]
    exact h1 a ha e1 hp
   ·rw[if_neg e1,if_neg e2]
    exact hp
theorem Zig(h:Ok W q)(id:Int):Ok W (lvQ id q):=⟨h.w0,h.wB,fun r hr=>h.rt r (List.mem_filter.1 hr).1,h.pr.filter _⟩
theorem Zif(h:Ok W q)(r:Rq)(hr:r∈q):Ok W (abQ r q):=by
 unfold abQ
 by_cases z:r.md=0
 ·rw[if_pos z];exact Zig h _
 ·rw[if_neg z]
  have t:=h.rt r hr
  refine Z5e h (Int.le_refl _) h.wB abR r hr ⟨t.id,t.md,t.md,Int.le_refl _,h.w0,fun e=>absurd e (Int.lt_irrefl _),fun _=>⟨z,rfl⟩⟩ (fun a ha ne p=>?_) (fun b hb ne p=>?_)
  ·exact⟨p.id,p.txn,fun e=>by show a.sn≠0;omega,fun e=>absurd (p.ord e).1 z,p.cp⟩
  ·exact⟨p.id,p.txn,fun e=>absurd e (Int.lt_irrefl _),fun e=>absurd e z,p.cp⟩
theorem Zbx(h:Ok W q)(id txn m:Int)(he:Z09 q id txn m=0)(hB:W+1≤4611686018427387904):Ok (Ye W q id txn m).1 (Ye W q id txn m).2.1:=by
 unfold Z09 at he
 split at he
 ·cases he
 split at he
 ·cases he
 rename_i h1 h2
 have hi:0≤id:=Int.not_lt.1 fun e=>h1 (.inl e)
 have hm0:m≠0:=fun e=>h1 (.inr (.inl e))
 have hmk:Zq m=true:=by
  cases e:Zq m with
  | true=>rfl
  | false=>exact absurd (.inr (.inr e)) h1
 have hn:∀a∈q,a.id≠id∧a.txn≠txn:=by
  intro a ha
  have:=fun e=>h2 (List.any_eq_true.2 ⟨a,ha,e⟩)
  simpa using this
 have hw:=h.w0
 unfold Ye
 by_cases hf:free q m=true
 ·rw[if_pos hf]
  have hf':∀a∈q,a.sn=0∧Ui a.md m=true:=by
   intro a ha
   have:=List.all_eq_true.1 hf a ha
   simpa using this
  refine⟨hw,h.wB,fun r hr=>?_,?_⟩
  ·rcases List.mem_append.1 hr with hr | hr
   ·exact h.rt r hr
   ·rw[List.mem_singleton] at hr;subst hr
    exact⟨hi,hmk,hmk,Int.le_refl _,hw,fun e=>absurd e (Int.lt_irrefl _),fun _=>⟨hm0,rfl⟩⟩
  ·rw[List.pairwise_append]
   refine⟨h.pr,List.pairwise_singleton _ _,fun a ha b hb=>?_⟩
   rw[List.mem_singleton] at hb;subst hb
   obtain⟨s0,c0⟩:=hf' a ha
   exact⟨(hn a ha).1,(hn a ha).2,fun e=>by omega,fun e=>absurd e ((h.rt a ha).h s0).1,fun _ _=>c0⟩
 ·rw[if_neg hf]
  refine⟨by show 0≤W+1;omega,hB,fun r hr=>?_,?_⟩
  ·rcases List.mem_append.1 hr with hr | hr
   ·exact(h.rt r hr).mono (by show W≤W+1;omega)
   ·rw[List.mem_singleton] at hr;subst hr
    exact⟨hi,rfl,hmk,by show 0≤W+1;omega,Int.le_refl _,fun _=>Zms m hmk hm0,fun e=>by simp only at e;omega⟩
  ·rw[List.pairwise_append]
   refine⟨h.pr,List.pairwise_singleton _ _,fun a ha b hb=>?_⟩
   rw[List.mem_singleton] at hb;subst hb
   have s:=(h.rt a ha).sW
   exact⟨(hn a ha).1,(hn a ha).2,fun e=>by show a.sn≠W+1;omega,fun e=>⟨rfl,by show a.sn<W+1;omega⟩,fun _ e=>absurd rfl e⟩
theorem Zng(h:Ok W q)(r:Rq)(hr:r∈q)(m:Int)(hs:r.sn=0)(hm:Zq m=true)(hB:W+1≤4611686018427387904):Ok (upQ W q r m).1 (upQ W q r m).2.1:=by
 have t:=h.rt r hr
 have z:=(t.h hs).1
 have hk:=Zj6 r.md m t.md hm
 have hw:=h.w0
 unfold upQ
 by_cases c:Y0 r.md m=r.md
 ·rw[if_pos c];exact h
 ·rw[if_neg c]
  have hne:=Zj7 r.md m t.md hm z
  by_cases f:upF q r (Y0 r.md m)=true
  ·rw[if_pos f]
   have f':∀o∈q,o.id≠r.id→o.md≠0→Ui o.md (Y0 r.md m)=true:=by
    intro o ho ne hz
    have:=List.all_eq_true.1 f o ho
    simp[ne,hz] at this
    exact this.2
   refine Z5e h (Int.le_refl _) h.wB _ r hr ⟨t.id,hk,hk,Int.le_refl _,hw,fun e=>absurd e (Int.lt_irrefl _),fun _=>⟨hne,rfl⟩⟩ (fun a ha ne p=>?_) (fun b hb ne p=>?_)
   ·exact⟨p.id,p.txn,fun e=>by show a.sn≠0;omega,fun e=>absurd (p.ord e).1 z,fun e _=>f' a ha ne e⟩
   ·exact⟨p.id,p.txn,fun e=>absurd e (Int.lt_irrefl _),fun e=>absurd e hne,fun _ e=>by rw[Zcl];exact f' b hb ne e⟩
  ·rw[if_neg f]
   refine Z5e h (by show W≤W+1;omega) hB _ r hr ⟨t.id,t.md,hk,by show 0≤W+1;omega,Int.le_refl _,fun _=>Zpr r.md m t.md hm c,fun e=>by simp only at e;omega⟩ (fun a ha ne p=>?_) (fun b hb ne p=>?_)
   ·have s:=(h.rt a ha).sW
    exact⟨p.id,p.txn,fun e=>by show a.sn≠W+1;omega,fun e=>absurd (p.ord e).1 z,p.cp⟩
   ·have s:=(h.rt b hb).sW
    exact⟨p.id,p.txn,fun e=>by show W+1≠b.sn;omega,fun e=>absurd e z,p.cp⟩
theorem Z36{r o:Rq}(hc:Y7 q r=true)(ho:o∈q)(ne:o.id≠r.id):blk r o=false:=by
 unfold Y7 at hc
 rw[Bool.and_eq_true] at hc
 have:=List.all_eq_true.1 hc.2 o ho
 simpa [ne] using this
theorem Z0b{r:Rq}(hc:Y7 q r=true):0<r.sn:=by
 unfold Y7 at hc
 rw[Bool.and_eq_true] at hc
 simpa using hc.1
theorem Z7f{r o:Rq}(h:blk r o=false):(o.md≠0→Ui o.md r.wt=true)∧(o.md≠0→0<o.sn→r.md≠0∧r.sn≤o.sn)∧(r.md=0→o.md=0→r.sn≤o.sn):=by
 unfold blk at h
 simp only[Bool.or_eq_false_iff,Bool.and_eq_false_iff,bne_eq_false_iff_eq,Bool.not_eq_false',decide_eq_false_iff_not,beq_eq_false_iff_ne,Int.not_lt] at h
 obtain⟨⟨h1,h2⟩,h3⟩:=h
 refine⟨fun z=>h1.resolve_left z,fun z s=>?_,fun z z'=>?_⟩
 ·rcases h2 with(h2 | h2) | h2
  ·exact absurd h2 z
  ·omega
  ·exact h2
 ·rcases h3 with(h3 | h3) | h3
  ·exact absurd z h3
  ·exact absurd z' h3
  ·exact h3
theorem Zpb(h:Ok W q)(r:Rq)(hr:r∈q)(hc:Y7 q r=true):Ok W (Um U9 r.id q):=by
 have t:=h.rt r hr
 refine Z5e h (Int.le_refl _) h.wB U9 r hr ⟨t.id,t.wt,t.wt,Int.le_refl _,h.w0,fun e=>absurd e (Int.lt_irrefl _),fun _=>⟨t.wne,rfl⟩⟩ (fun a ha ne p=>?_) (fun b hb ne p=>?_)
 ·obtain⟨b1,b2,b3⟩:=Z7f (Z36 hc ha ne)
  refine⟨p.id,p.txn,fun e=>by show a.sn≠0;omega,fun e=>?_,fun e _=>b1 e⟩
  obtain⟨z,s⟩:=p.ord e
  have:=b3 z e
  omega
 ·obtain⟨b1,b2,b3⟩:=Z7f (Z36 hc hb ne)
  exact⟨p.id,p.txn,fun e=>absurd e (Int.lt_irrefl _),fun e=>absurd e t.wne,fun _ e=>by rw[Zcl];exact b1 e⟩
theorem Zk9(h:Ok W q){r s:Rq}(hr:r∈q)(hs:s∈q)(h1:Y7 q r=true)(h2:Y7 q s=true):r=s:=by
 refine Classical.byContradiction fun ne=>?_
 have ni:s.id≠r.id:=fun e=>ne (h.inj r hr s hs e.symm)
 obtain⟨_,b2,b3⟩:=Z7f (Z36 h1 hs ni)
 obtain⟨_,c2,c3⟩:=Z7f (Z36 h2 hr (fun e=>ni e.symm))
 have p1:=Z0b h1
 have p2:=Z0b h2
 have hne:r.sn≠s.sn:=fun e=>ne (h.injS r hr s hs p1 e)
 by_cases z:r.md=0
 ·by_cases y:s.md=0
  ·have:=b3 z y;have:=c3 y z;omega
  ·exact(b2 y p2).1 z
 ·by_cases y:s.md=0
  ·exact(c2 z p1).1 y
  ·have:=(b2 y p2).2;have:=(c2 z p1).2;omega
end
section
variable {W:Int} {q:List Rq}
theorem Z4o(f:Rq→Rq)(id:Int):∀q:List Rq,(∀a∈q,a.id≠id)→Um f id q=q
 | [],_=>rfl
 | a::q,h=>by
  show(if a.id=id then f a else a)::Um f id q=_
  rw[if_neg (h a (by simp)),Z4o f id q (fun b hb=>h b (List.mem_cons_of_mem _ hb))]
theorem Zd8(id:Int)(q:List Rq)(h:∀a∈q,a.id≠id):lvQ id q=q:=by
 unfold lvQ
 rw[List.filter_eq_self]
 intro a ha
 simpa using h a ha
theorem Ok.part(h:Ok W q){r:Rq}(hr:r∈q):∃l m,q=l++r::m∧(∀a∈l,a.id≠r.id)∧(∀a∈m,a.id≠r.id):=by
 obtain⟨l,m,e⟩:=List.append_of_mem hr
 have hp:=h.pr
 rw[e,List.pairwise_append,List.pairwise_cons] at hp
 exact⟨l,m,e,fun a ha=>(hp.2.2 a ha r (by simp)).id,fun b hb q=>(hp.2.1.1 b hb).id q.symm⟩
theorem Zck(f:Rq→Rq){l m:List Rq}{r:Rq}(h1:∀a∈l,a.id≠r.id)(h2:∀a∈m,a.id≠r.id):Um f r.id (l++r::m)=l++f r::m:=by
 have e:Um f r.id (l++r::m)=Um f r.id l++(if r.id=r.id then f r else r)::Um f r.id m:=by simp[Um]
 rw[e,if_pos rfl,Z4o f _ l h1,Z4o f _ m h2]
theorem Zoz{l m:List Rq}{r:Rq}(h1:∀a∈l,a.id≠r.id)(h2:∀a∈m,a.id≠r.id):lvQ r.id (l++r::m)=l++m:=by
 have e:lvQ r.id (l++r::m)=lvQ r.id l++lvQ r.id m:=by simp[lvQ,List.filter_append]
 rw[e,Zd8 _ l h1,Zd8 _ m h2]
theorem Ok.nth(h:Ok W q)(k:Nat)(hk:k<q.length):q=q.take k++q[k]::q.drop (k+1)∧(∀a∈q.take k,a.id≠q[k].id)∧(∀a∈q.drop (k+1),a.id≠q[k].id):=by
 have e:q=q.take k++q[k]::q.drop (k+1):=by
  rw[←List.drop_eq_getElem_cons hk,List.take_append_drop]
 have hp:=h.pr
 rw[e,List.pairwise_append,List.pairwise_cons] at hp
 exact⟨e,fun a ha=>(hp.2.2 a ha _ (List.mem_cons_self)).id,fun b hb q=>(hp.2.1.1 b hb).id q.symm⟩
theorem Z8b{α:Type}(l m:List α)(r x:α)(k:Nat)(hl:l.length=k):(l++r::m).set k x=l++x::m:=by
 subst hl
 rw[List.set_append_right _ _ (Nat.le_refl _),Nat.sub_self,List.set_cons_zero]
theorem Z3z(h:Ok W q)(f:Rq→Rq)(k:Nat)(hk:k<q.length):Um f q[k].id q=q.set k (f q[k]):=by
 obtain⟨e,h1,h2⟩:=h.nth k hk
 have hl:(q.take k).length=k:=by simp;omega
 have c:=Zck f h1 h2
 rw[←e] at c
 rw[c,←Z8b (q.take k) (q.drop (k+1)) q[k] (f q[k]) k hl,←e]
def wtg(q:List Rq):Nat:=q.countP fun r=>decide (0<r.sn)
theorem Z8k(h:Ok W q){r:Rq}(hr:r∈q)(hs:0<r.sn):wtg (Um U9 r.id q)+1=wtg q:=by
 obtain⟨l,m,e,h1,h2⟩:=h.part hr
 rw[e,Zck U9 h1 h2]
 simp[wtg,List.countP_append,U9,hs]
 omega
def scn:Nat→List Rq→List Int × List Rq
 | 0,q=>([],q)
 | n+1,q=>match q.find? (Y7 q) with
  | none=>([],q)
  | some r=>(r.id::(scn n (Um U9 r.id q)).1,(scn n (Um U9 r.id q)).2)
def Zc(q:List Rq):List Int × List Rq:=scn (wtg q) q
theorem Z94{r:Rq}(h:q.find? (Y7 q)=some r):r∈q∧Y7 q r=true:=⟨List.mem_of_find?_eq_some h,List.find?_some h⟩
def Vp(q:List Rq):Prop:=∀r∈q,Y7 q r=false
theorem Ze6(h:Vp q):q.find? (Y7 q)=none:=by
 rw[List.find?_eq_none]
 intro r hr
 simp[h r hr]
theorem Z5i(h:Vp q):∀n,scn n q=([],q)
 | 0=>rfl
 | n+1=>by
  unfold scn
  rw[Ze6 h]
theorem Zfy(h:Ok W q){r:Rq}(hr:r∈q)(hc:Y7 q r=true):q.find? (Y7 q)=some r:=by
 cases e:q.find? (Y7 q) with
 | none =>
  rw[List.find?_eq_none] at e
  exact absurd hc (e r hr)
 | some s =>
  obtain⟨hs,hs'⟩:=Z94 e
  rw[Zk9 h hs hr hs' hc]
theorem Zad(h:Ok W q){r:Rq}(hr:r∈q)(hc:Y7 q r=true)(n:Nat):scn (n+1) q=(r.id::(scn n (Um U9 r.id q)).1,(scn n (Um U9 r.id q)).2):=by
 conv=>lhs;unfold scn
 rw[Zfy h hr hc]
inductive Steps (q0:List Rq):List Int→List Rq→Prop
 | refl:Steps q0 [] q0
 | snoc {ids:List Int} {q:List Rq} {r:Rq} (h:Steps q0 ids q) (hr:r∈q) (hc:Y7 q r=true):Steps q0 (ids++[r.id]) (Um U9 r.id q)
theorem Steps.ok{q0:List Rq}{ids:List Int}(h:Steps q0 ids q)(h0:Ok W q0):Ok W q:=by
 induction h with
 | refl=>exact h0
 | snoc _ hr hc ih=>exact Zpb ih _ hr hc
theorem Steps.scn{q0:List Rq}{ids:List Int}(h:Steps q0 ids q)(h0:Ok W q0):∀n,scn (ids.length+n) q0=(ids++(scn n q).1,(scn n q).2):=by
 induction h with
 | refl=>intro n;simp
 | snoc hs hr hc ih =>
  intro n
  have:=ih (n+1)
  rw[Zad (hs.ok h0) hr hc] at this
  rw[List.length_append,List.length_singleton,show ∀a:Nat,a+1+n=a+(n+1)by intro a;omega,this]
  simp
theorem Steps.wtg{q0:List Rq}{ids:List Int}(h:Steps q0 ids q)(h0:Ok W q0):wtg q+ids.length=wtg q0:=by
 induction h with
 | refl=>simp
 | snoc hs hr hc ih =>
  have:=Z8k (hs.ok h0) hr (Z0b hc)
  simp
  omega
theorem Steps.scan{q0:List Rq}{ids:List Int}(h:Steps q0 ids q)(h0:Ok W q0)(hd:Vp q):Zc q0=(ids,q):=by
 have hw:=h.wtg h0
 unfold Zc
 rw[←hw,Nat.add_comm,h.scn h0,Z5i hd]
 simp
theorem Zf1(h:Ok W q):∀n,wtg q≤n→Steps q (scn n q).1 (scn n q).2∧Vp (scn n q).2
 | n,hn=>by
  suffices H:∀n q0 ids q,Ok W q0→Steps q0 ids q→wtg q≤n→Steps q0 (ids++(scn n q).1) (scn n q).2∧Vp (scn n q).2 by
   have:=H n q [] q h .refl hn
   simpa using this
  clear hn n h
  intro n
  induction n with
  | zero =>
   intro q0 ids q h0 hs hn
   refine⟨by simpa [scn] using hs,fun r hr=>?_⟩
   have hr':r∈q:=hr
   cases e:Y7 q r with
   | false=>exact e
   | true =>
    have:=Z8k (hs.ok h0) hr' (Z0b e)
    omega
  | succ n ih =>
   intro q0 ids q h0 hs hn
   cases e:q.find? (Y7 q) with
   | none =>
    have hd:Vp q:=fun r hr=>by
     rw[List.find?_eq_none] at e
     simpa using e r hr
    rw[Z5i hd]
    exact⟨by simpa using hs,hd⟩
   | some r =>
    obtain⟨hr,hc⟩:=Z94 e
    have hw:=Z8k (hs.ok h0) hr (Z0b hc)
    have:=ih q0 (ids++[r.id]) _ h0 (hs.snoc hr hc) (by omega)
    rw[Zad (hs.ok h0) hr hc]
    simpa using this
theorem U7(h:Ok W q):Steps q (Zc q).1 (Zc q).2∧Vp (Zc q).2:=Zf1 h _ (Nat.le_refl _)
theorem Z39(h:Vp q):Zc q=([],q):=Z5i h _
theorem Zm4(h:Ok W q):Ok W (Zc q).2:=(U7 h).1.ok h
theorem Steps.form{q0:List Rq}{ids:List Int}(h:Steps q0 ids q)(h0:Ok W q0):q=q0.map (fun r=>if ids.contains r.id=true then U9 r else r)∧∀i∈ids,∃r∈q0,r.id=i∧0<r.sn:=by
 induction h with
 | refl=>exact⟨by simp,by simp⟩
 | @snoc ids q r hs hr hc ih =>
  obtain⟨e,hi⟩:=ih
  have hr':=hr
  rw[e] at hr'
  obtain⟨s,hs0,hsr⟩:=List.mem_map.1 hr'
  have hsn:=Z0b hc
  have hse:s=r:=by
   split at hsr
   ·rw[←hsr] at hsn;exact absurd hsn (Int.lt_irrefl _)
   ·exact hsr
  subst hse
  refine⟨?_,fun i h=>?_⟩
  ·conv=>lhs;rw[e]
   unfold Um
   rw[List.map_map]
   refine List.map_congr_left fun x hx=>?_
   simp only[Function.comp]
   by_cases q1:x.id=s.id
   ·obtain rfl:=h0.inj x hx s hs0 q1
    split at hsr
    ·rw[←hsr] at hsn;exact absurd hsn (Int.lt_irrefl _)
    ·rename_i hn
     rw[if_neg hn,if_pos rfl,if_pos (by simp)]
   ·by_cases q2:ids.contains x.id=true
    ·rw[if_pos q2,if_neg (by exact q1),if_pos (by simp at q2 ⊢;exact .inl q2)]
    ·rw[if_neg q2,if_neg q1,if_neg (by simp at q2 ⊢;exact⟨q2,q1⟩)]
  ·rcases List.mem_append.1 h with h | h
   ·exact hi i h
   ·rw[List.mem_singleton] at h;subst h
    exact⟨s,hs0,rfl,hsn⟩
end
structure Hq where
 t:Int
 r:Int
 W:Int
 q:List Rq
def noH:Hq:=⟨0,0,0,[]⟩
def Z0a(h:Hq)(id txn m:Int):Hq × Bool × Int:=if Z09 h.q id txn m=0 then(⟨h.t,h.r,(Ye h.W h.q id txn m).1,(Ye h.W h.q id txn m).2.1⟩,(Ye h.W h.q id txn m).2.2,0) else(noH,false,Z09 h.q id txn m)
def upR(h:Hq)(id m:Int):Hq × Bool × Int :=
 if m=0∨Zq m=false then(noH,false,2)
 else match Va h.q id with
 | none=>(noH,false,5)
 | some r=>if 0<r.sn then(noH,false,7) else(⟨h.t,h.r,(upQ h.W h.q r m).1,(upQ h.W h.q r m).2.1⟩,(upQ h.W h.q r m).2.2,0)
def lvR(h:Hq)(id:Int):Hq × Int:=match Va h.q id with
 | none=>(noH,5)
 | some _=>(⟨h.t,h.r,h.W,lvQ id h.q⟩,0)
def Z1k(h:Hq)(id:Int):Hq × Int:=match Va h.q id with
 | none=>(noH,5)
 | some r=>if 0<r.sn then(⟨h.t,h.r,h.W,abQ r h.q⟩,0) else(noH,7)
def hnR(h:Hq)(id txn:Int):Hq × Int:=match Va h.q id with
 | none=>(noH,5)
 | some r=>if (h.q.any fun o=>!(o.id==id)&&o.txn==txn)=true then(noH,4)else if 0<r.sn then(noH,7) else(⟨h.t,h.r,h.W,Um (fun x=>⟨x.id,txn,x.md,x.wt,x.sn⟩) id h.q⟩,0)
def mdQ(q:List Rq)(txn:Int):Int:=match q.find? fun r=>r.txn==txn with
 | none=>0
 | some r=>r.md
def Z61(n:Int):List Int→List Int
 | []=>[n]
 | a::r=>if a<n then a::Z61 n r else if a=n then a::r else n::a::r
theorem Z5f(n x:Int):∀l:List Int,x∈Z61 n l↔x=n∨x∈l
 | []=>by simp[Z61]
 | a::r=>by
  unfold Z61
  split
  ·simp only[List.mem_cons,Z5f n x r]
   constructor
   ·rintro(h | h | h)
    ·exact .inr (.inl h)
    ·exact .inl h
    ·exact .inr (.inr h)
   ·rintro(h | h | h)
    ·exact .inr (.inl h)
    ·exact .inl h
    ·exact .inr (.inr h)
  split
  ·rename_i e
   simp[←e]
  ·simp
theorem Z97(x:Int):∀(q:List Rq) (l:List Int),x∈q.foldl (fun l o=>Z61 o.txn l) l↔x∈l∨∃o∈q,o.txn=x
 | [],l=>by simp
 | a::q,l=>by
  rw[List.foldl_cons,Z97 x q,Z5f]
  simp only[List.mem_cons,exists_eq_or_imp]
  constructor
  ·rintro((h | h) | h)
   ·exact .inr (.inl h.symm)
   ·exact .inl h
   ·exact .inr (.inr h)
  ·rintro(h | h | h)
   ·exact .inl (.inr h)
   ·exact .inl (.inl h.symm)
   ·exact .inr h
theorem Z3n(n:Int):∀l:List Int,l.Pairwise (·<·)→(Z61 n l).Pairwise (·<·)
 | [],_=>by simp[Z61]
 | a::r,h=>by
  rw[List.pairwise_cons] at h
  unfold Z61
  split
  ·rename_i h1
   rw[List.pairwise_cons]
   refine⟨fun x hx=>?_,Z3n n r h.2⟩
   rcases(Z5f n x r).1 hx with rfl | hx
   ·exact h1
   ·exact h.1 x hx
  split
  ·rw[List.pairwise_cons];exact h
  ·rename_i h1 h2
   rw[List.pairwise_cons]
   refine⟨fun x hx=>?_,by rw[List.pairwise_cons];exact h⟩
   rcases List.mem_cons.1 hx with rfl | hx
   ·omega
   ·have:=h.1 x hx
    omega
theorem Z50{q:List Rq}{id:Int}{r:Rq}(h:Va q id=some r):r∈q∧r.id=id:=by
 have h1:=List.mem_of_find?_eq_some h
 have h2:=List.find?_some h
 exact⟨h1,by simpa using h2⟩
def scH(h:Hq):Hq:=⟨h.t,h.r,h.W,(Zc h.q).2⟩
theorem Zfp(W:Int)(q:List Rq)(id txn m:Int):W≤(Ye W q id txn m).1∧(Ye W q id txn m).1≤W+1∧(Ye W q id txn m).2.1.length=q.length+1:=by
 unfold Ye
 split
 ·exact⟨by simp,by show W≤W+1;omega,by simp⟩
 ·exact⟨by show W≤W+1;omega,by simp,by simp⟩
theorem Z26(f:Rq→Rq)(id:Int)(q:List Rq):(Um f id q).length=q.length:=by simp[Um]
theorem Zni(W:Int)(q:List Rq)(r:Rq)(m:Int):W≤(upQ W q r m).1∧(upQ W q r m).1≤W+1∧(upQ W q r m).2.1.length=q.length:=by
 unfold upQ
 split
 ·exact⟨by simp,by show W≤W+1;omega,rfl⟩
 split
 ·exact⟨by simp,by show W≤W+1;omega,Z26 _ _ _⟩
 ·exact⟨by show W≤W+1;omega,by simp,Z26 _ _ _⟩
theorem Z83(id:Int)(q:List Rq):(lvQ id q).length≤q.length:=List.length_filter_le _ _
theorem Zcd(r:Rq)(q:List Rq):(abQ r q).length≤q.length:=by
 unfold abQ
 split
 ·exact Z83 _ _
 ·rw[Z26];exact Nat.le_refl _
structure Z74(h:Hq):Prop where
 ok:Ok h.W h.q
 done:Vp h.q
theorem Zac{W:Int}{q:List Rq}(h:Ok W q):(Zc q).2.length=q.length:=by
 rw[((U7 h).1.form h).1]
 simp
theorem Zm3(h:Hq)(h0:Ok h.W h.q):Z74 (scH h):=⟨Zm4 h0,(U7 h0).2⟩
theorem Zd6(t r:Int):Z74 ⟨t,r,0,[]⟩:=⟨⟨Int.le_refl _,by show(0:Int)≤_;omega,by simp,.nil⟩,by intro r hr;cases hr⟩
theorem Z7m:∀i<7,∀j<7,(Z1s 0 (Int.ofNat j)&&Z1s (Int.ofNat i) 0)=true:=by decide +kernel
theorem Zcm(a:Int)(ha:Zq a=true):Ui 0 a=true:=by
 have:=Z1z (p:=fun a b=>Z1s 0 b&&Z1s a 0) Z7m a a ha ha
 rw[Zn3 0 a rfl ha]
 simp at this
 exact this.1
theorem Zb8:∀i<7,∀j<7,∀k<7,(!Ui (Y0 (Int.ofNat i) (Int.ofNat j)) (Int.ofNat k) || Ui (Int.ofNat i) (Int.ofNat k))=true:=by decide +kernel
theorem Znx(a b c:Int)(ha:Zq a=true)(hb:Zq b=true)(hc:Zq c=true)(h:Ui (Y0 a b) c=true):Ui a c=true:=by
 rw[V2] at ha hb hc
 obtain⟨i,rfl⟩:=Int.eq_ofNat_of_zero_le ha.1
 obtain⟨j,rfl⟩:=Int.eq_ofNat_of_zero_le hb.1
 obtain⟨k,rfl⟩:=Int.eq_ofNat_of_zero_le hc.1
 have:=Zb8 i (by omega) j (by omega) k (by omega)
 simp only[Int.ofNat_eq_natCast] at this
 rw[h] at this
 simpa using this
theorem Z7j{q:List Rq}{r:Rq}(h:Y7 q r=false)(hs:0<r.sn):∃o∈q,o.id≠r.id∧blk r o=true:=by
 refine Classical.byContradiction fun hn=>?_
 have:Y7 q r=true:=by
  unfold Y7
  rw[Bool.and_eq_true]
  refine⟨by simpa using hs,?_⟩
  rw[List.all_eq_true]
  intro o ho
  by_cases e:o.id=r.id
  ·simp[e]
  ·have:blk r o=false:=by
    cases hb:blk r o with
    | false=>rfl
    | true=>exact absurd ⟨o,ho,e,hb⟩ hn
   simp[this]
 rw[h] at this;cases this
theorem Z10{q:List Rq}{r o:Rq}(ho:o∈q)(ne:o.id≠r.id)(hb:blk r o=true):Y7 q r=false:=by
 cases h:Y7 q r with
 | false=>rfl
 | true=>have:=Z36 h ho ne;rw[hb] at this;cases this
theorem Z0g{q:List Rq}{r:Rq}(hs:¬0<r.sn):Y7 q r=false:=by unfold Y7;simp[hs]
theorem Zk6{r o:Rq}(h1:o.md≠0)(h2:Ui o.md r.wt=false):blk r o=true:=by unfold blk;simp[h1,h2]
theorem Zq8{r o:Rq}(h1:o.md≠0)(h2:0<o.sn)(h3:r.md=0∨o.sn<r.sn):blk r o=true:=by
 unfold blk
 rcases h3 with h3 | h3<;>simp[h1,h2,h3]
theorem Zr4{r o:Rq}(h1:r.md=0)(h2:o.md=0)(h3:o.sn<r.sn):blk r o=true:=by unfold blk;simp[h1,h2,h3]
theorem Z4v{W:Int}{q:List Rq}(h:Ok W q)(hd:Vp q)(id txn m:Int)(he:Z09 q id txn m=0):Vp (Ye W q id txn m).2.1:=by
 have hk:Zq m=true∧∀r∈q,r.id≠id:=by
  unfold Z09 at he
  split at he
  ·cases he
  ·rename_i hn
   split at he
   ·cases he
   ·rename_i h2
    refine⟨?_,fun r hr e=>h2 ?_⟩
    ·cases hm:Zq m with
     | true=>rfl
     | false=>exact absurd (.inr (.inr hm)) hn
    ·rw[List.any_eq_true]
     exact⟨r,hr,by simp[e]⟩
 unfold Ye
 by_cases hf:free q m=true
 ·rw[if_pos hf]
  have hz:∀r∈q,r.sn=0:=fun r hr=>by
   have:=List.all_eq_true.1 hf r hr
   simp only[Bool.and_eq_true,beq_iff_eq] at this
   exact this.1
  intro r hr
  rcases List.mem_append.1 hr with hr | hr
  ·exact Z0g (by rw[hz r hr];omega)
  ·simp at hr
   subst hr
   exact Z0g (by simp)
 ·rw[if_neg hf]
  intro r hr
  rcases List.mem_append.1 hr with hr | hr
  ·by_cases hs:0<r.sn
   ·obtain⟨o,ho,ne,hb⟩:=Z7j (hd r hr) hs
    exact Z10 (List.mem_append_left _ ho) ne hb
   ·exact Z0g hs
  ·simp at hr
   subst hr
   have:∃o∈q,¬(o.sn=0∧Ui o.md m=true):=by
    refine Classical.byContradiction fun hn=>hf ?_
    unfold free
    rw[List.all_eq_true]
    intro o ho
    have:o.sn=0∧Ui o.md m=true:=Classical.byContradiction fun h2=>hn ⟨o,ho,h2⟩
    simp[this.1,this.2]
   obtain⟨o,ho,hno⟩:=this
   have hrt:=h.rt o ho
   refine Z10 (List.mem_append_left _ ho) (hk.2 o ho) ?_
   by_cases hs:o.sn=0
   ·have hc:Ui o.md m=false:=by
     cases e:Ui o.md m with
     | false=>rfl
     | true=>exact absurd ⟨hs,e⟩ hno
    exact Zk6 (hrt.h hs).1 hc
   ·have h0:0<o.sn:=by have:=hrt.s0;omega
    have hW:=hrt.sW
    by_cases hm:o.md=0
    ·exact Zr4 rfl hm (by show o.sn<W+1;omega)
    ·exact Zq8 hm h0 (.inl rfl)
theorem V3{f:Rq→Rq}{id:Int}{q:List Rq}{x:Rq}:x∈Um f id q↔∃r∈q,x=if r.id=id then f r else r:=by
 unfold Um
 rw[List.mem_map]
 constructor
 ·rintro⟨r,hr,e⟩;exact⟨r,hr,e.symm⟩
 ·rintro⟨r,hr,e⟩;exact⟨r,hr,e.symm⟩
theorem Z8x{W:Int}{q:List Rq}(h:Ok W q)(hd:Vp q)(r:Rq)(hr:r∈q)(m:Int)(hs:r.sn=0)(hm:Zq m=true):Vp (upQ W q r m).2.1:=by
 have hrt:=h.rt r hr
 unfold upQ
 by_cases h1:Y0 r.md m=r.md
 ·rw[if_pos h1];exact hd
 ·rw[if_neg h1]
  have inj:=h.inj
  by_cases h2:upF q r (Y0 r.md m)=true
  ·rw[if_pos h2]
   intro x hx
   obtain⟨s,hsq,rfl⟩:=V3.1 hx
   by_cases e:s.id=r.id
   ·rw[if_pos e];exact Z0g (by simp)
   ·rw[if_neg e]
    by_cases hsn:0<s.sn
    ·obtain⟨o,ho,ne,hb⟩:=Z7j (hd s hsq) hsn
     by_cases eo:o.id=r.id
     ·obtain rfl:=inj o ho r hr eo
      refine Z10 (o:=⟨o.id,o.txn,Y0 o.md m,Y0 o.md m,0⟩) (V3.2 ⟨o,ho,by rw[if_pos rfl]⟩) ne ?_
      have hmd:=(hrt.h hs).1
      refine Zk6 (Zj7 _ _ hrt.md hm hmd) ?_
      unfold blk at hb
      simp only[hs,Int.lt_irrefl,decide_false,Bool.and_false,Bool.false_and,Bool.or_false] at hb
      have hb':Ui o.md s.wt=false:=by
       have hne:(o.md==0)=false:=by simpa using hmd
       simp[hne,hmd] at hb
       exact hb
      cases e2:Ui (Y0 o.md m) s.wt with
      | false=>rfl
      | true=>rw[Znx _ _ _ hrt.md hm (h.rt s hsq).wt e2] at hb';cases hb'
     ·exact Z10 (V3.2 ⟨o,ho,by rw[if_neg eo]⟩) ne hb
    ·exact Z0g hsn
  ·rw[if_neg h2]
   intro x hx
   obtain⟨s,hsq,rfl⟩:=V3.1 hx
   by_cases e:s.id=r.id
   ·rw[if_pos e]
    obtain rfl:=inj s hsq r hr e
    have:∃o∈q,o.id≠s.id∧((0<o.sn∧o.md≠0)∨(o.md≠0∧Ui o.md (Y0 s.md m)=false)):=by
     refine Classical.byContradiction fun hn=>h2 ?_
     unfold upF
     rw[List.all_eq_true]
     intro o ho
     by_cases e1:o.id=s.id
     ·simp[e1]
     ·have hno:¬((0<o.sn∧o.md≠0)∨(o.md≠0∧Ui o.md (Y0 s.md m)=false)):=fun h3=>hn ⟨o,ho,e1,h3⟩
      by_cases e2:o.md=0
      ·simp[e2]
      ·have e3:¬0<o.sn:=fun h4=>hno (.inl ⟨h4,e2⟩)
       have e4:Ui o.md (Y0 s.md m)=true:=by
        cases h5:Ui o.md (Y0 s.md m) with
        | true=>rfl
        | false=>exact absurd (.inr ⟨e2,h5⟩) hno
       simp[e3,e4]
    obtain⟨o,ho,ne,hc⟩:=this
    refine Z10 (V3.2 ⟨o,ho,by rw[if_neg ne]⟩) ne ?_
    rcases hc with⟨c1,c2⟩ | ⟨c1,c2⟩
    ·refine Zq8 c2 c1 (.inr ?_)
     have:=(h.rt o ho).sW
     show o.sn<W+1
     omega
    ·exact Zk6 c1 c2
   ·rw[if_neg e]
    by_cases hsn:0<s.sn
    ·obtain⟨o,ho,ne,hb⟩:=Z7j (hd s hsq) hsn
     by_cases eo:o.id=r.id
     ·obtain rfl:=inj o ho r hr eo
      refine Z10 (o:=⟨o.id,o.txn,o.md,Y0 o.md m,W+1⟩) (V3.2 ⟨o,ho,by rw[if_pos rfl]⟩) ne ?_
      have hmd:=(hrt.h hs).1
      refine Zk6 hmd ?_
      unfold blk at hb
      simp only[hs,Int.lt_irrefl,decide_false,Bool.and_false,Bool.false_and,Bool.or_false] at hb
      have hne:(o.md==0)=false:=by simpa using hmd
      simp[hne,hmd] at hb
      exact hb
     ·exact Z10 (V3.2 ⟨o,ho,by rw[if_neg eo]⟩) ne hb
    ·exact Z0g hsn
abbrev hnF(txn:Int)(x:Rq):Rq:=⟨x.id,txn,x.md,x.wt,x.sn⟩
theorem Znf{W:Int}{q:List Rq}(h:Ok W q)(r:Rq)(hr:r∈q)(txn:Int)(hno:∀o∈q,o.id≠r.id→o.txn≠txn):Ok W (Um (hnF txn) r.id q):=by
 have hrt:=h.rt r hr
 refine Z5e h (Int.le_refl _) h.wB (hnF txn) r hr ⟨hrt.id,hrt.md,hrt.wt,hrt.s0,hrt.sW,hrt.w,hrt.h⟩ ?_ ?_
 ·intro a ha ne p
  exact⟨p.id,hno a ha ne,p.sn,p.ord,p.cp⟩
 ·intro b hb ne p
  exact⟨p.id,fun e=>hno b hb ne e.symm,p.sn,p.ord,p.cp⟩
theorem Zcp{q:List Rq}(hd:Vp q)(id txn:Int):Vp (Um (hnF txn) id q):=by
 intro x hx
 obtain⟨s,hs,rfl⟩:=V3.1 hx
 have key:∀r:Rq,(if r.id=id then hnF txn r else r).id=r.id∧(if r.id=id then hnF txn r else r).sn=r.sn∧(if r.id=id then hnF txn r else r).md=r.md∧(if r.id=id then hnF txn r else r).wt=r.wt:=fun r=>by split<;>exact⟨rfl,rfl,rfl,rfl⟩
 obtain⟨k1,k2,k3,k4⟩:=key s
 by_cases h0:0<s.sn
 ·obtain⟨o,ho,ne,hb⟩:=Z7j (hd s hs) h0
  obtain⟨j1,j2,j3,j4⟩:=key o
  refine Z10 (V3.2 ⟨o,ho,rfl⟩) (by rw[j1,k1];exact ne) ?_
  unfold blk at hb ⊢
  rw[j2,j3,k2,k3,k4]
  exact hb
 ·exact Z0g (by rw[k2];exact h0)
def Y8(q:List Rq):List Int:=q.map fun r=>r.id
theorem Z45(f:Rq→Rq)(id:Int)(q:List Rq)(hf:∀r,(f r).id=r.id):Y8 (Um f id q)=Y8 q:=by
 unfold Y8 Um
 rw[List.map_map]
 apply List.map_congr_left
 intro r _
 show(if r.id=id then f r else r).id=r.id
 split
 ·exact hf r
 ·rfl
theorem Zlb(W:Int)(q:List Rq)(id txn m:Int):Y8 (Ye W q id txn m).2.1=Y8 q++[id]:=by
 unfold Ye Y8
 split<;>simp
theorem Zop(W:Int)(q:List Rq)(r:Rq)(m:Int):Y8 (upQ W q r m).2.1=Y8 q:=by
 unfold upQ
 split
 ·rfl
 ·split
  ·exact Z45 _ _ _ fun _=>rfl
  ·exact Z45 _ _ _ fun _=>rfl
theorem Zhj{W:Int}{q:List Rq}(h:Ok W q):Y8 (Zc q).2=Y8 q:=by
 rw[((U7 h).1.form h).1]
 unfold Y8
 rw[List.map_map]
 apply List.map_congr_left
 intro r _
 show(if _ then U9 r else r).id=r.id
 split<;>rfl
theorem Zhi{W:Int}{q:List Rq}(h:Ok W q){r:Rq}(hr:r∈q):(r.id::Y8 (lvQ r.id q)).Perm (Y8 q):=by
 obtain⟨l,m,e,h1,h2⟩:=h.part hr
 subst e
 rw[Zoz h1 h2]
 unfold Y8
 simp only[List.map_append,List.map_cons]
 exact List.perm_middle.symm
theorem Zoo{W:Int}{q:List Rq}(h:Ok W q){r:Rq}(hr:r∈q):(r.md=0→(r.id::Y8 (abQ r q)).Perm (Y8 q))∧(r.md≠0→Y8 (abQ r q)=Y8 q):=by
 unfold abQ
 refine⟨fun z=>?_,fun z=>?_⟩
 ·rw[if_pos z];exact Zhi h hr
 ·rw[if_neg z];exact Z45 _ _ _ fun _=>rfl
theorem Zbf{q:List Rq}{id:Int}{r:Rq}(h:Va q id=some r):r∈q∧r.id=id:=by
 unfold Va at h
 exact⟨List.mem_of_find?_eq_some h,by simpa using List.find?_some h⟩
theorem Z95{q:List Rq}{id:Int}:(∃r,Va q id=some r)↔id∈Y8 q:=by
 unfold Y8
 rw[List.mem_map]
 constructor
 ·rintro⟨r,h⟩
  exact⟨r,(Zbf h).1,(Zbf h).2⟩
 ·rintro⟨r,hr,e⟩
  unfold Va
  cases hf:q.find? (fun r=>r.id==id) with
  | some x=>exact⟨x,rfl⟩
  | none=>have:=List.find?_eq_none.1 hf r hr;simp[e] at this
def Zm:List Bool→Nat
 | []=>0
 | true::r=>Zm r+1
 | false::_=>0
theorem Z51:∀L:List Bool,Zm L≤L.length
 | []=>Nat.le_refl _
 | true::r=>by have:=Z51 r;simp[Zm];omega
 | false::r=>by simp[Zm]
theorem Ur:∀(L:List Bool) (h:Zm L<L.length),L[Zm L]=false
 | true::r,h=>by
  simp only[Zm,List.getElem_cons_succ]
  exact Ur r (by simp[Zm] at h;omega)
 | false::r,h=>rfl
theorem Z17:∀(L:List Bool) (k:Nat) (h:k<L.length),k<Zm L→L[k]=true
 | true::r,0,_,_=>rfl
 | true::r,k+1,h,hk=>by
  simp only[List.getElem_cons_succ]
  exact Z17 r k (by simpa using h) (by simpa [Zm] using hk)
 | false::r,k,h,hk=>by simp[Zm] at hk
theorem Zoa{L:List Bool}{n:Nat}(hn:n≤L.length)(h1:∀k (h:k<L.length),k<n→L[k]=true)(h2:∀h:n<L.length,L[n]=false):Zm L=n:=by
 rcases Nat.lt_trichotomy (Zm L) n with g | g | g
 ·have:=h1 (Zm L) (by omega) g
  rw[Ur L (by omega)] at this;cases this
 ·exact g
 ·have hl:n<L.length:=lL0 g (Z51 L)
  have:=Z17 L n hl g
  rw[h2 hl] at this;cases this
theorem Z9a{L:List Bool}:Zm L=L.length↔∀k (h:k<L.length),L[k]=true:=by
 constructor
 ·intro e k h;exact Z17 L k h (by omega)
 ·intro h;exact Zoa (Nat.le_refl _) (fun k hk _=>h k hk) (fun h=>absurd h (Nat.lt_irrefl _))
def Z9t(L:List Bool)(k:Nat):List Nat:=(List.range k).filter fun i=>L.getD i false
def lnt(L:List Bool):List Nat:=Z9t L L.length
def liv(L:List Bool):Nat:=L.countP id
theorem Zep(L:List Bool)(k:Nat):Z9t L (k+1)=Z9t L k++(if L.getD k false=true then[k] else[]):=by
 unfold Z9t
 rw[List.range_succ,List.filter_append]
 congr 1
 by_cases h:L.getD k false=true
 ·rw[if_pos h];simp only[List.filter_cons,h,if_true,List.filter_nil]
 ·rw[if_neg h];simp only[List.filter_cons,h,List.filter_nil];rfl
theorem Z9s(L:List Bool):∀k,k≤L.length→(Z9t L k).length=(L.take k).countP id
 | 0,_=>by simp[Z9t]
 | k+1,h=>by
  rw[Zep,List.length_append,Z9s L k (by omega),List.take_add_one,List.getElem?_eq_getElem (by omega),List.countP_append]
  congr 1
  simp only[List.getD_eq_getElem?_getD,List.getElem?_eq_getElem (show k<L.length by omega),Option.getD_some]
  cases L[k]'(by omega)<;>rfl
theorem Z82(L:List Bool):(lnt L).length=liv L:=by
 unfold lnt liv
 rw[Z9s L _ (Nat.le_refl _),List.take_length]
theorem Vr(L:List Bool)(i:Nat):i∈lnt L↔∃h:i<L.length,L[i]=true:=by
 unfold lnt Z9t
 rw[List.mem_filter,List.mem_range]
 constructor
 ·rintro⟨h,e⟩
  refine⟨h,?_⟩
  simpa [List.getD_eq_getElem?_getD,List.getElem?_eq_getElem h] using e
 ·rintro⟨h,e⟩
  refine⟨h,?_⟩
  simpa [List.getD_eq_getElem?_getD,List.getElem?_eq_getElem h] using e
theorem Z47(L:List Bool):(lnt L).Pairwise (·<·):=List.Pairwise.filter _ List.pairwise_lt_range
theorem Zox(L:List Bool):liv L≤L.length:=List.countP_le_length
theorem Zcv:∀L:List Bool,Zm L≤liv L
 | []=>Nat.le_refl _
 | true::r=>by have:=Zcv r;simp[Zm,liv] at this ⊢;omega
 | false::r=>by simp[Zm]
theorem Zi3{L:List Bool}:liv L=L.length↔Zm L=L.length:=by
 rw[Z9a]
 unfold liv
 rw[List.countP_eq_length]
 constructor
 ·intro h k hk;exact h _ (gM0 hk)
 ·intro h x hx
  obtain⟨k,hk,rfl⟩:=List.getElem_of_mem hx
  exact h k hk
def tkL(L:List Bool):List Bool:=if Zm L<L.length then L.set (Zm L) true else L
def gvL(L:List Bool)(n:Int):List Bool:=if 0≤n∧L.getD n.toNat false=true then L.set n.toNat false else L
def hsL(L:List Bool)(n:Int):Bool:=decide (0≤n)&&L.getD n.toNat false
theorem Vi(L:List Bool):(tkL L).length=L.length:=by unfold tkL;split<;>simp
theorem Zcy(L:List Bool)(n:Int):(gvL L n).length=L.length:=by unfold gvL;split<;>simp
theorem Z7q{L:List Bool}{k:Nat}(h:L.getD k false=true):∃hk:k<L.length,L[k]=true:=by
 by_cases hk:k<L.length
 ·exact⟨hk,by simpa [List.getD_eq_getElem?_getD,List.getElem?_eq_getElem hk] using h⟩
 ·rw[List.getD_eq_getElem?_getD,List.getElem?_eq_none (by omega)] at h;cases h
theorem Yc{L:List Bool}{k:Nat}(hk:k<L.length):L.getD k false=L[k]:=by
 simp[List.getD_eq_getElem?_getD,List.getElem?_eq_getElem hk]
theorem Z42(L:List Bool)(p:Nat)(h:L.getD p false=true):gvL L (p:Int)=L.set p false:=by
 unfold gvL
 rw[Int.toNat_natCast,if_pos ⟨by omega,h⟩]
def frl(L:List Bool):List Nat:=(List.range L.length).filter fun i=>!L.getD i false
theorem Z0c(L:List Bool)(i:Nat):i∈frl L↔∃h:i<L.length,L[i]=false:=by
 unfold frl
 rw[List.mem_filter,List.mem_range]
 constructor
 ·rintro⟨h,e⟩
  refine⟨h,?_⟩
  rw[Yc h] at e
  simpa using e
 ·rintro⟨h,e⟩
  refine⟨h,?_⟩
  rw[Yc h,e];rfl
theorem Z29(L:List Bool):(frl L).Pairwise (·<·):=List.Pairwise.filter _ List.pairwise_lt_range
theorem Zku(L:List Bool):(frl L).length+liv L=L.length:=by
 have h1:=Z82 L
 have h2:∀l:List Nat,(l.filter fun i=>!L.getD i false).length+(l.filter fun i=>L.getD i false).length=l.length:=by
  intro l
  induction l with
  | nil=>rfl
  | cons a l ih =>
   simp only[List.filter_cons]
   cases L.getD a false<;>simp at ih ⊢<;>omega
 have h3:=h2 (List.range L.length)
 rw[List.length_range] at h3
 unfold lnt Z9t at h1
 unfold frl
 omega
theorem Zfo:∀ {l m:List Nat},l.Pairwise (·<·)→m.Pairwise (·<·)→(∀x,x∈l↔x∈m)→l=m
 | [],[],_,_,_=>rfl
 | [],b::m,_,_,h=>absurd ((h b).2 (by simp)) (by simp)
 | a::l,[],_,_,h=>absurd ((h a).1 (by simp)) (by simp)
 | a::l,b::m,h1,h2,h=>by
  rw[List.pairwise_cons] at h1 h2
  have e:a=b:=by
   rcases List.mem_cons.1 ((h a).1 (by simp))with q | q
   ·exact q
   ·rcases List.mem_cons.1 ((h b).2 (by simp))with q' | q'
    ·exact q'.symm
    ·have:=h2.1 a q;have:=h1.1 b q';omega
  subst e
  refine congrArg _ (Zfo h1.2 h2.2 fun x=>⟨fun hx=>?_,fun hx=>?_⟩)
  ·rcases List.mem_cons.1 ((h x).1 (List.mem_cons_of_mem _ hx))with q | q
   ·subst q;have:=h1.1 _ hx;omega
   ·exact q
  ·rcases List.mem_cons.1 ((h x).2 (List.mem_cons_of_mem _ hx))with q | q
   ·subst q;have:=h2.1 _ hx;omega
   ·exact q
theorem Zh3{L:List Bool}(h:Zm L=L.length):frl L=[]:=by
 rw[List.eq_nil_iff_forall_not_mem]
 intro i hi
 obtain⟨h1,h2⟩:=(Z0c L i).1 hi
 rw[Z9a.1 h i h1] at h2;cases h2
theorem Zh4{L:List Bool}(h:Zm L<L.length):frl L=Zm L::frl (tkL L):=by
 have hs:tkL L=L.set (Zm L) true:=by unfold tkL;rw[if_pos h]
 refine Zfo (Z29 L) (List.pairwise_cons.2 ⟨fun x hx=>?_,Z29 _⟩) fun x=>?_
 ·obtain⟨h1,h2⟩:=(Z0c _ x).1 hx
  have hx1:x<L.length:=by rw[Vi] at h1;exact h1
  refine Nat.lt_of_not_le fun g=>?_
  by_cases q:x=Zm L
  ·subst q
   simp[hs] at h2
  ·have:=Z17 L x hx1 (by omega)
   simp only[hs] at h2
   rw[List.getElem_set_ne (fun e=>q e.symm),this] at h2;cases h2
 ·rw[List.mem_cons,Z0c,Z0c]
  constructor
  ·rintro⟨h1,h2⟩
   by_cases q:x=Zm L
   ·exact .inl q
   ·refine .inr ⟨by rw[Vi];exact h1,?_⟩
    simp only[hs]
    rw[List.getElem_set_ne (fun e=>q e.symm)];exact h2
  ·rintro(rfl | ⟨h1,h2⟩)
   ·exact⟨h,Ur L h⟩
   ·have hx1:x<L.length:=by rw[Vi] at h1;exact h1
    refine⟨hx1,?_⟩
    simp only[hs] at h2
    by_cases q:Zm L=x
    ·subst q;simp at h2
    ·rw[List.getElem_set_ne q] at h2;exact h2
theorem Zh2{L:List Bool}{p:Nat}(h:p<L.length)(e:L[p]=true):p∉frl L∧∀x,x∈frl (L.set p false)↔x=p∨x∈frl L:=by
 constructor
 ·intro hp
  obtain⟨_,h2⟩:=(Z0c L p).1 hp
  rw[e] at h2;cases h2
 ·intro x
  rw[Z0c,Z0c]
  constructor
  ·rintro⟨h1,h2⟩
   by_cases q:p=x
   ·exact .inl q.symm
   ·rw[List.getElem_set_ne q] at h2
    exact .inr ⟨by simpa using h1,h2⟩
  ·rintro(rfl | ⟨h1,h2⟩)
   ·exact⟨by simpa using h,by simp⟩
   ·refine⟨by simpa using h1,?_⟩
    by_cases q:p=x
    ·subst q;simp
    ·rw[List.getElem_set_ne q];exact h2
theorem Zkv(n:Nat):frl (List.replicate n false)=List.range n:=by
 unfold frl
 rw[List.length_replicate,List.filter_eq_self]
 intro i hi
 rw[List.mem_range] at hi
 rw[Yc (by simpa using hi)]
 simp
def Z1f(a b:Int):Bool:=decide (a<b)
def Vo(a b:Int):Prop:=Z1f b a=false
theorem Zhv(a b:Int):Z1f a b=true↔a<b:=by unfold Z1f;exact decide_eq_true_iff
theorem Z0z(a b:Int):Vo a b↔¬b<a:=by unfold Vo Z1f;exact decide_eq_false_iff_not
theorem Vb(a:Int):Vo a a:=by rw[Z0z];omega
theorem Yt{a b c:Int}(h:Vo a b)(k:Vo b c):Vo a c:=by rw[Z0z] at *;omega
theorem Z0f{a b:Int}(h:Z1f a b=true):Vo a b:=by rw[Z0z];rw[Zhv] at h;omega
theorem Z1o{a b:Int}(h:Vo a b)(k:Vo b a):a=b:=by rw[Z0z] at *;omega
def IHp(f:Nat→Int)(n:Nat):Prop:=∀k,0<k→k<n→Vo (f ((k-1)/2)) (f k)
def IEx(f:Nat→Int)(n j:Nat):Prop:=∀k,0<k→k<n→k≠j→(k-1)/2≠j→Vo (f ((k-1)/2)) (f k)
def IGr(f:Nat→Int)(n j:Nat):Prop:=0<j→∀k,0<k→k<n→(k-1)/2=j→Vo (f ((j-1)/2)) (f k)
def ICh(f:Nat→Int)(n j:Nat):Prop:=∀k,0<k→k<n→(k-1)/2=j→Vo (f j) (f k)
def IPa(f:Nat→Int)(j:Nat):Prop:=0<j→Vo (f ((j-1)/2)) (f j)
def isw(f:Nat→Int)(i j:Nat):Nat→Int:=fun k=>if k=i then f j else if k=j then f i else f k
theorem Z9m(f:Nat→Int)(i j:Nat):isw f i j i=f j:=if_pos rfl
theorem Z9n(f:Nat→Int)(i j:Nat):isw f i j j=f i:=by unfold isw;split<;>simp_all
theorem Uc(f:Nat→Int){i j k:Nat}(h:k≠i)(h':k≠j):isw f i j k=f k:=by unfold isw;rw[if_neg h,if_neg h']
theorem IHp.of{f:Nat→Int}{n j:Nat}(he:IEx f n j)(hc:ICh f n j)(hp:IPa f j):IHp f n:=fun k h0 h1=>by
 by_cases e:k=j
 ·subst e;exact hp h0
 ·by_cases e':(k-1)/2=j
  ·rw[e'];exact hc k h0 h1 e'
  ·exact he k h0 h1 e e'
theorem IHp.min{f:Nat→Int}{n:Nat}(h:IHp f n):∀k,k<n→Vo (f 0) (f k):=by
 intro k
 induction k using Nat.strongRecOn with
 | ind k ih =>
  intro hk
  rcases Nat.eq_zero_or_pos k with rfl | h0
  ·exact Vb _
  ·exact Yt (ih ((k-1)/2) (by omega) (by omega)) (h k h0 hk)
theorem IHp.congr{f g:Nat→Int}{n:Nat}(h:IHp f n)(e:∀k,k<n→g k=f k):IHp g n:=fun k h0 h1=>by
 rw[e k h1,e _ (by omega)];exact h k h0 h1
theorem Zhw{f:Nat→Int}{n i j:Nat}(hi:(j-1)/2=i)(hj:0<j)(hn:j<n)(he:IEx f n j)(hg:IGr f n j)(hc:ICh f n j)(hl:Z1f (f j) (f i)=true) :
  IEx (isw f i j) n i∧IGr (isw f i j) n i∧ICh (isw f i j) n i:=by
 have Z1:=Z0f hl
 have hij:i≠j:=by omega
 refine⟨fun k h0 h1 h2 h3=>?_,fun hi0 k h0 h1 h2=>?_,fun k h0 h1 h2=>?_⟩
 ·have hkj:k≠j:=fun e=>h3 (by rw[e];exact hi)
  rw[Uc f h2 hkj]
  by_cases e:(k-1)/2=j
  ·rw[e,Z9n]
   have:=hg hj k h0 h1 e
   rwa [hi] at this
  ·rw[Uc f h3 e];exact he k h0 h1 hkj e
 ·have hpi:(i-1)/2≠i:=by omega
  have hpj:(i-1)/2≠j:=by omega
  rw[Uc f hpi hpj]
  have a:=he i hi0 (by omega) hij hpj
  by_cases e:k=j
  ·subst e;rw[Z9n];exact a
  ·rw[Uc f (by omega) e]
   have b:=he k h0 h1 e (by omega)
   rw[h2] at b
   exact Yt a b
 ·rw[Z9m]
  by_cases e:k=j
  ·subst e;rw[Z9n];exact Z1
  ·rw[Uc f (by omega) e]
   have b:=he k h0 h1 e (by omega)
   rw[h2] at b
   exact Yt Z1 b
theorem Zbn{f:Nat→Int}{n i m:Nat}(hm:(m-1)/2=i)(h0m:0<m)(he:IEx f n i)(hg:IGr f n i)(hmin:∀k,0<k→k<n→(k-1)/2=i→Vo (f m) (f k))(hmn:m<n)(hl:Z1f (f m) (f i)=true) :
  IEx (isw f i m) n m∧IGr (isw f i m) n m∧IPa (isw f i m) m:=by
 have Z1:=Z0f hl
 have him:i≠m:=by omega
 refine⟨fun k h0 h1 h2 h3=>?_,fun _ k h0 h1 h2=>?_,fun _=>?_⟩
 ·by_cases e:(k-1)/2=i
  ·rw[e,Z9m,Uc f (by omega) h2];exact hmin k h0 h1 e
  ·rw[Uc f e h3]
   by_cases e':k=i
   ·subst e';rw[Z9m];exact hg h0 m h0m hmn hm
   ·rw[Uc f e' h2];exact he k h0 h1 e' e
 ·rw[hm,Z9m,Uc f (by omega) (by omega)]
  have:=he k h0 h1 (by omega) (by omega)
  rwa [h2] at this
 ·rw[hm,Z9m,Z9n];exact Z1
def Y2(l:List Int)(k:Nat):Int:=l.getD k 0
theorem Z0y(l:List Int){k:Nat}(h:k<l.length):Y2 l k=l[k]:=by simp[Y2,List.getD,h]
def Z1e(l:List Int)(i j:Nat):List Int:=(l.set i (Y2 l j)).set j (Y2 l i)
theorem Yp(l:List Int)(i j:Nat):(Z1e l i j).length=l.length:=by simp[Z1e]
theorem Z44(l:List Int){i j:Nat}(hi:i<l.length)(hj:j<l.length):Y2 (Z1e l i j)=isw (Y2 l) i j:=by
 funext k
 unfold Z1e isw
 by_cases e:k=j
 ·subst e
  by_cases e':k=i
  ·subst e';rw[if_pos rfl,Z0y _ (by simpa using hj)];simp
  ·rw[if_neg e',if_pos rfl,Z0y _ (by simpa using hj)];simp
 ·by_cases e':k=i
  ·subst e';rw[if_pos rfl]
   rw[Z0y _ (by simpa using hi)]
   rw[List.getElem_set_ne (fun h=>e h.symm)];simp
  ·rw[if_neg e',if_neg e]
   simp[Y2,List.getD,Ne.symm e,Ne.symm e']
theorem Z34(l:List Int){i j:Nat}(hi:i<l.length)(hj:j<l.length):(Z1e l i j).Perm l:=by
 have h:=Array.swap_perm (xs:=l.toArray) (i:=i) (j:=j) (by simpa using hi) (by simpa using hj)
 have h2:=h.toList
 simp only[Array.toList_swap] at h2
 unfold Z1e
 rw[Z0y l hi,Z0y l hj]
 simpa using h2
theorem Z31(l m:List Int){k:Nat}(h:k<l.length):Y2 (l++m) k=Y2 l k:=by simp[Y2,List.getD,h,List.getElem?_append_left]
theorem Zld{l:List Int}(x:Int)(h:IHp (Y2 l) l.length):IEx (Y2 (l++[x])) (l.length+1) l.length∧IGr (Y2 (l++[x])) (l.length+1) l.length∧ICh (Y2 (l++[x])) (l.length+1) l.length:=by
 refine⟨fun k h0 h1 h2 h3=>?_,fun _ k h0 h1 h2=>?_,fun k h0 h1 h2=>?_⟩
 ·rw[Z31 l [x] (by omega),Z31 l [x] (by omega)]
  exact h k h0 (by omega)
 ·omega
 ·omega
def Z4f(s:List Int):Prop:=s.Pairwise Vo
def Z7w(x:Int):List Int→List Int
 | []=>[x]
 | a::s=>if Z1f a x=true then a::Z7w x s else x::a::s
theorem Ut(x:Int):∀s,(Z7w x s).Perm (x::s)
 | []=>.refl _
 | a::s=>by
  unfold Z7w
  split
  ·exact((Ut x s).cons a).trans (List.Perm.swap x a s)
  ·exact .refl _
theorem Z2d(x:Int):∀s,Z4f s→Z4f (Z7w x s)
 | [],_=>by simp[Z7w,Z4f]
 | a::s,h=>by
  have h2:=List.pairwise_cons.1 h
  unfold Z7w
  split
  ·rename_i hx
   refine List.pairwise_cons.2 ⟨fun b hb=>?_,Z2d x s h2.2⟩
   rcases List.mem_cons.1 ((Ut x s).mem_iff.1 hb)with rfl | hb
   ·exact Z0f hx
   ·exact h2.1 b hb
  ·rename_i hx
   have hx':Vo x a:=by unfold Vo;simpa using hx
   refine List.pairwise_cons.2 ⟨fun b hb=>?_,h⟩
   rcases List.mem_cons.1 hb with rfl | hb
   ·exact hx'
   ·exact Yt hx' (h2.1 b hb)
theorem Z33:∀ {s t:List Int},Z4f s→Z4f t→s.Perm t→s=t
 | [],t,_,_,h=>(List.nil_perm.1 h).symm
 | a::s,[],_,_,h=>by have:=h.length_eq;simp at this
 | a::s,b::t,hs,ht,h=>by
  have h1:=List.pairwise_cons.1 hs
  have h2:=List.pairwise_cons.1 ht
  have ha:Vo b a:=by
   rcases List.mem_cons.1 (h.mem_iff.1 (List.mem_cons_self ..))with rfl | hm
   ·exact Vb _
   ·exact h2.1 a hm
  have hb:Vo a b:=by
   rcases List.mem_cons.1 (h.mem_iff.2 (List.mem_cons_self ..))with rfl | hm
   ·exact Vb _
   ·exact h1.1 b hm
  obtain rfl:=Z1o hb ha
  rw[Z33 h1.2 h2.2 h.cons_inv]
def IHs(l s:List Int):Prop:=IHp (Y2 l) l.length∧l.Perm s∧Z4f s
theorem IHs.nil:IHs [] []:=⟨fun k _ h=>by simp at h,.refl _,by simp[Z4f]⟩
theorem IHs.len{l s:List Int}(h:IHs l s):l.length=s.length:=h.2.1.length_eq
theorem IHs.head{l s:List Int}{a:Int}(h:IHs l (a::s)):Y2 l 0=a:=by
 obtain⟨h1,h2,h3⟩:=h
 have hl:0<l.length:=by rw[h2.length_eq];simp
 have h4:=List.pairwise_cons.1 h3
 refine Z1o ?_ ?_
 ·obtain⟨k,hk,e⟩:=List.getElem_of_mem (h2.mem_iff.2 (List.mem_cons_self ..))
  have:=h1.min k hk
  rwa [Z0y l hk,e] at this
 ·have hm:Y2 l 0∈a::s:=h2.mem_iff.1 (by rw[Z0y l hl];exact gM0 hl)
  rcases List.mem_cons.1 hm with e | hm
  ·rw[e];exact Vb _
  ·exact h4.1 _ hm
theorem IHs.cut{l l' s s':List Int}{x:Int}{n:Nat}(hs:IHs l s)(hp:l'.Perm l)(hn:l'.length=n+1)(hx:Y2 l' n=x)(hh:IHp (Y2 l') n)(hs':s.Perm (x::s'))(h':Z4f s') :
  l'=l'.take n++[x]∧IHs (l'.take n) s':=by
 have e:l'=l'.take n++[x]:=by
  rw[←hx,Z0y l' (by omega)]
  have:=List.take_succ_eq_append_getElem (l:=l') (i:=n) (by omega)
  rw[←this,List.take_of_length_le (by omega)]
 have hl:(l'.take n).length=n:=by simp;omega
 refine⟨e,?_,?_,h'⟩
 ·rw[hl]
  refine hh.congr fun k hk=>?_
  have:=Z31 (l'.take n) [x] (k:=k) (by omega)
  rw[←e] at this
  exact this.symm
 ·have h1:(l'.take n++[x]).Perm (x::s'):=by rw[←e];exact(hp.trans hs.2.1).trans hs'
  exact(List.perm_append_comm.symm.trans h1).cons_inv
def Zj(l:List Nat):List Int:=l.map fun n:Nat=>(n:Int)
def frI(L:List Bool):List Int:=Zj (frl L)
theorem Z2w{l:List Nat}(h:l.Pairwise (·<·)):Z4f (Zj l):=by
 unfold Z4f Zj
 rw[List.pairwise_map]
 exact h.imp fun {a b} hab=>by rw[Z0z];omega
theorem Zct(L:List Bool):Z4f (frI L):=Z2w (Z29 L)
theorem Vt{l:List Nat}(h:l.Pairwise (·<·)):l.Nodup:=h.imp fun {a b} hab=>Nat.ne_of_lt hab
theorem Zcs(L:List Bool):(frI L).length+liv L=L.length:=by
 unfold frI Zj
 rw[List.length_map]
 exact Zku L
theorem Zh1{L:List Bool}{p:Nat}(h:p<L.length)(e:L[p]=true):Z7w (p:Int) (frI L)=frI (L.set p false):=by
 refine Z33 (Z2d _ _ (Zct L)) (Zct _) ((Ut _ _).trans ?_)
 obtain⟨h1,h2⟩:=Zh2 h e
 have hp:(p::frl L).Perm (frl (L.set p false)):=by
  refine(List.perm_ext_iff_of_nodup (List.nodup_cons.2 ⟨h1,Vt (Z29 L)⟩) (Vt (Z29 _))).2 fun x=>?_
  rw[List.mem_cons,h2 x]
 exact hp.map _
theorem Zkt(n:Nat):frI (List.replicate n false)=Zj (List.range n):=by unfold frI;rw[Zkv]
theorem Zex(k:Nat):Z7w (k:Int) (Zj (List.range k))=Zj (List.range (k+1)):=by
 refine Z33 (Z2d _ _ (Z2w List.pairwise_lt_range)) (Z2w List.pairwise_lt_range) ((Ut _ _).trans ?_)
 have hp:(k::List.range k).Perm (List.range (k+1)):=by
  rw[List.range_succ]
  exact(List.perm_append_comm (l₁:=List.range k) (l₂:=[k])).symm
 exact hp.map _
theorem Z99{L:List Bool}(h:Zm L<L.length):frI L=(Zm L:Int)::frI (tkL L):=by
 unfold frI
 rw[Zh4 h]
 rfl
theorem Z98{L:List Bool}(h:Zm L=L.length):frI L=[]:=by unfold frI;rw[Zh3 h];rfl
theorem Z3s(n:Nat):(Zj (List.range n)).length=n:=by simp[Zj]
end Go.Proofs.YtfepoibfbmehiaaGreatDoor
