/- Texts merged: NameA, NameB, NameC, NameD, QuK, QuL, QuN, QuQ, BkV, BkW, BkX, Sum, Shelf, NameE, Wrap, StripeA, TbJ, QvA -/
import Derived.Test.YtfepoibfbmehiaaGreatDoorTableNamesB5
import Derived.Lib.ConvBytes
import Derived.Shelf.Small.Bits
import Derived.Shelf.Small.Wraps
import Derived.Shelf.Strconv.Itoa0
import Derived.Shelf.Strconv.Itoa1
import Derived.Shelf.LaysM
import Derived.Shelf.Strconv.Itoa2
import Derived.Shelf.Strconv.Itoa3
import Derived.Ground.Names2Prog
import Derived.Shelf.Slices.SearchI
import Derived.Ground.SlsfProg
import Derived.Shelf.SlSortCmp.Insertion
import Derived.Shelf.SlSortCmp.Insertion1
import Derived.Test.YtfepoibfbmehiaaGreatDoorProg
import Derived.Handed
import Derived.LaidMore
import Derived.Lib.SmallJoins
set_option linter.unusedVariables false
set_option maxRecDepth 100000
set_option maxHeartbeats 16000000
namespace Go.Proofs.YtfepoibfbmehiaaGreatDoor
open Go.RowKit _root_.Go.Proofs.Tryz
section
open Go.ChangeShapes Go.WideShapes Go.ChangeAt Go.RowKit
def nm(t r:Int):Value:=.agg #[.int .i64 t,.int .i64 r]
theorem Yh(w:World) :
  Calls prog 131 #[] w fun e w'=>e=.returned (.agg #[.int .i64 (-1),.int .i64 (-1)])∧Nw w w':=by
 go_enter func131,ntmps131
 go_wp2
 exact bodyPost_ret (v:=.agg #[.int .i64 (-1),.int .i64 (-1)]) (by simp[results,results131,go_sem]) rfl ⟨rfl,(Nw.refl _).alloc _⟩
theorem Yj(i:Int)(w:World)(h0:0≤i)(h1:i<100) :
  Calls prog 132 #[.int .i64 i] w fun e w'=>e=.returned (.bool true)∧w=w':=by
 go_enter func132,ntmps132
 go_wp2
 go_ret
 exact⟨rfl,rfl⟩
theorem Yx(i:Int)(w:World)(h:i<0∨100≤i) :
  Calls prog 132 #[.int .i64 i] w fun e w'=>e=.returned (.bool false)∧w=w':=by
 rcases h with h | h
 ·go_enter func132,ntmps132
  go_wp2
  go_ret
  exact⟨rfl,rfl⟩
 ·have h0:0≤i:=by omega
  have hd:decide (i<100)=false:=by simp;omega
  go_enter func132,ntmps132
  go_wp2
  go_ret
  exact⟨rfl,rfl⟩
theorem Vu(w:World)(t r:Int)(ty:TypeId) :
  (w.alloc (.cells #[.int .i64 t,.int .i64 r] ty)).drew.cell? ⟨w.heap.size,0,none⟩=some (.int .i64 t)∧(w.alloc (.cells #[.int .i64 t,.int .i64 r] ty)).drew.cell? ⟨w.heap.size,1,none⟩=some (.int .i64 r)∧(w.heap.size<(w.alloc (.cells #[.int .i64 t,.int .i64 r] ty)).drew.heap.size∧Nw w (w.alloc (.cells #[.int .i64 t,.int .i64 r] ty)).drew) :=
 ⟨cell_of_row _ _ 0 _ ty (0,0) (heap_alloc_last w _),cell_of_row _ _ 1 _ ty (0,0) (heap_alloc_last w _),by show _<(w.heap.push _).size;simp,((Nw.refl w).alloc _).drewN 1⟩
theorem Vk{w a b:World}{t r:Int}(g:Nw a b)
  (h:a.cell? ⟨w.heap.size,0,none⟩=some (.int .i64 t)∧a.cell? ⟨w.heap.size,1,none⟩=some (.int .i64 r)∧(w.heap.size<a.heap.size∧Nw w a)) :
  b.cell? ⟨w.heap.size,0,none⟩=some (.int .i64 t)∧b.cell? ⟨w.heap.size,1,none⟩=some (.int .i64 r)∧(w.heap.size<b.heap.size∧Nw w b) :=
 ⟨(g.cell h.2.2.1).trans h.1,(g.cell h.2.2.1).trans h.2.1,lL0 h.2.2.1 g.sz,h.2.2.2.trans g⟩
theorem Z9r(w:World) :
  Calls prog 95 #[.agg #[.int .i64 (-1),.int .i64 (-1)]] w fun e w'=>e=.returned (.int .i64 0)∧Nw w w':=by
 go_enter func95,ntmps95
 go_wp2
 go_region_held3 (fun w'=>w'.cell? ⟨w.heap.size,0,none⟩=some (.int .i64 (-1))∧w'.cell? ⟨w.heap.size,1,none⟩=some (.int .i64 (-1))∧(w.heap.size<w'.heap.size∧Nw w w')) (first | exact Vu _ _ _ _ | exact Vk (by assumption) (by assumption))
  (first | (go_at_call 131;refine(Yh _).mono ?_;rintro e w' ⟨rfl,hg⟩))
 all_goals
  rename_i hS
  obtain⟨hc0,hc1,_,hG⟩:=hS
  clear hg
  go_wp2_with (first | (go_at_call 132;refine(Yj _ _ (by omega) (by omega)).mono ?_;rintro e w' ⟨rfl,rfl⟩) | (go_at_call 132;refine(Yx _ _ (by omega)).mono ?_;rintro e w' ⟨rfl,rfl⟩))
  go_ret
  exact⟨rfl,hG⟩
theorem Z6p(t:Int)(w:World)(h0:0≤t)(h1:t<100) :
  Calls prog 95 #[.agg #[.int .i64 t,.int .i64 (-1)]] w fun e w'=>e=.returned (.int .i64 1)∧Nw w w':=by
 have e0:(t==-1)=false:=by simp;omega
 go_enter func95,ntmps95
 go_wp2
 go_region_held3 (fun w'=>w'.cell? ⟨w.heap.size,0,none⟩=some (.int .i64 (t))∧w'.cell? ⟨w.heap.size,1,none⟩=some (.int .i64 (-1))∧(w.heap.size<w'.heap.size∧Nw w w')) (first | exact Vu _ _ _ _ | exact Vk (by assumption) (by assumption))
  (first | (go_at_call 131;refine(Yh _).mono ?_;rintro e w' ⟨rfl,hg⟩))
 all_goals
  rename_i hS
  obtain⟨hc0,hc1,_,hG⟩:=hS
  clear hg
  go_wp2_with (first | (go_at_call 132;refine(Yj _ _ (by omega) (by omega)).mono ?_;rintro e w' ⟨rfl,rfl⟩) | (go_at_call 132;refine(Yx _ _ (by omega)).mono ?_;rintro e w' ⟨rfl,rfl⟩))
  go_ret
  exact⟨rfl,hG⟩
theorem Z6o(t r:Int)(w:World)(h0:0≤t)(h1:t<100)(h2:0≤r)(h3:r<100) :
  Calls prog 95 #[.agg #[.int .i64 t,.int .i64 r]] w fun e w'=>e=.returned (.int .i64 2)∧Nw w w':=by
 have e0:(t==-1)=false:=by simp;omega
 have e1:(r==-1)=false:=by simp;omega
 go_enter func95,ntmps95
 go_wp2
 go_region_held3 (fun w'=>w'.cell? ⟨w.heap.size,0,none⟩=some (.int .i64 (t))∧w'.cell? ⟨w.heap.size,1,none⟩=some (.int .i64 (r))∧(w.heap.size<w'.heap.size∧Nw w w')) (first | exact Vu _ _ _ _ | exact Vk (by assumption) (by assumption))
  (first | (go_at_call 131;refine(Yh _).mono ?_;rintro e w' ⟨rfl,hg⟩))
 all_goals
  rename_i hS
  obtain⟨hc0,hc1,_,hG⟩:=hS
  clear hg
  go_wp2_with (first | (go_at_call 132;refine(Yj _ _ (by omega) (by omega)).mono ?_;rintro e w' ⟨rfl,rfl⟩) | (go_at_call 132;refine(Yx _ _ (by omega)).mono ?_;rintro e w' ⟨rfl,rfl⟩))
  go_ret
  exact⟨rfl,hG⟩
theorem Zbq(r:Int)(w:World)(h:r < -1∨-1<r) :
  Calls prog 95 #[.agg #[.int .i64 (-1),.int .i64 r]] w fun e w'=>e=.returned (.int .i64 (-1))∧Nw w w':=by
 have e1:(r==-1)=false:=by simp;omega
 go_enter func95,ntmps95
 go_wp2
 go_region_held3 (fun w'=>w'.cell? ⟨w.heap.size,0,none⟩=some (.int .i64 (-1))∧w'.cell? ⟨w.heap.size,1,none⟩=some (.int .i64 (r))∧(w.heap.size<w'.heap.size∧Nw w w')) (first | exact Vu _ _ _ _ | exact Vk (by assumption) (by assumption))
  (first | (go_at_call 131;refine(Yh _).mono ?_;rintro e w' ⟨rfl,hg⟩))
 all_goals
  rename_i hS
  obtain⟨hc0,hc1,_,hG⟩:=hS
  clear hg
  go_wp2_with (first | (go_at_call 132;refine(Yj _ _ (by omega) (by omega)).mono ?_;rintro e w' ⟨rfl,rfl⟩) | (go_at_call 132;refine(Yx _ _ (by omega)).mono ?_;rintro e w' ⟨rfl,rfl⟩))
  go_ret
  exact⟨rfl,hG⟩
theorem Zbr(t r:Int)(w:World)(h:t < -1∨100≤t) :
  Calls prog 95 #[.agg #[.int .i64 t,.int .i64 r]] w fun e w'=>e=.returned (.int .i64 (-1))∧Nw w w':=by
 have e0:(t==-1)=false:=by simp;omega
 go_enter func95,ntmps95
 go_wp2
 go_region_held3 (fun w'=>w'.cell? ⟨w.heap.size,0,none⟩=some (.int .i64 (t))∧w'.cell? ⟨w.heap.size,1,none⟩=some (.int .i64 (r))∧(w.heap.size<w'.heap.size∧Nw w w')) (first | exact Vu _ _ _ _ | exact Vk (by assumption) (by assumption))
  (first | (go_at_call 131;refine(Yh _).mono ?_;rintro e w' ⟨rfl,hg⟩))
 all_goals
  rename_i hS
  obtain⟨hc0,hc1,_,hG⟩:=hS
  clear hg
  go_wp2_with (first | (go_at_call 132;refine(Yj _ _ (by omega) (by omega)).mono ?_;rintro e w' ⟨rfl,rfl⟩) | (go_at_call 132;refine(Yx _ _ (by omega)).mono ?_;rintro e w' ⟨rfl,rfl⟩))
  go_ret
  exact⟨rfl,hG⟩
theorem Zbs(t r:Int)(w:World)(h0:0≤t)(h1:t<100)(h:r < -1∨100≤r) :
  Calls prog 95 #[.agg #[.int .i64 t,.int .i64 r]] w fun e w'=>e=.returned (.int .i64 (-1))∧Nw w w':=by
 have e0:(t==-1)=false:=by simp;omega
 have e1:(r==-1)=false:=by simp;omega
 go_enter func95,ntmps95
 go_wp2
 go_region_held3 (fun w'=>w'.cell? ⟨w.heap.size,0,none⟩=some (.int .i64 (t))∧w'.cell? ⟨w.heap.size,1,none⟩=some (.int .i64 (r))∧(w.heap.size<w'.heap.size∧Nw w w')) (first | exact Vu _ _ _ _ | exact Vk (by assumption) (by assumption))
  (first | (go_at_call 131;refine(Yh _).mono ?_;rintro e w' ⟨rfl,hg⟩))
 all_goals
  rename_i hS
  obtain⟨hc0,hc1,_,hG⟩:=hS
  clear hg
  go_wp2_with (first | (go_at_call 132;refine(Yj _ _ (by omega) (by omega)).mono ?_;rintro e w' ⟨rfl,rfl⟩) | (go_at_call 132;refine(Yx _ _ (by omega)).mono ?_;rintro e w' ⟨rfl,rfl⟩))
  go_ret
  exact⟨rfl,hG⟩
end
section
open Go.ChangeShapes Go.WideShapes Go.ChangeAt Go.RowKit
def lvl(t r:Int):Int:=if t = -1∧r = -1 then 0 else if 0≤t∧t<100 then(if r = -1 then 1 else if 0≤r∧r<100 then 2 else -1)else -1
theorem Z85(t:Int)(h0:0≤t)(h1:t<100):lvl t (-1)=1:=by unfold lvl;split<;>omega
theorem Z84(t r:Int)(h0:0≤t)(h1:t<100)(h2:0≤r)(h3:r<100):lvl t r=2:=by unfold lvl;(repeat' split);all_goals omega
theorem Znd(t r:Int):(t = -1∧r = -1)∨(0≤t∧t<100∧r = -1)∨(0≤t∧t<100∧0≤r∧r<100)∨lvl t r = -1:=by
 by_cases h1:t = -1∧r = -1
 ·exact .inl h1
 ·by_cases h2:0≤t∧t<100
  ·by_cases h3:r = -1
   ·exact .inr (.inl ⟨h2.1,h2.2,h3⟩)
   ·by_cases h4:0≤r∧r<100
    ·exact .inr (.inr (.inl ⟨h2.1,h2.2,h4⟩))
    ·refine .inr (.inr (.inr ?_));unfold lvl;rw[if_neg h1,if_pos h2,if_neg h3,if_neg h4]
  ·refine .inr (.inr (.inr ?_));unfold lvl;rw[if_neg h1,if_neg h2]
theorem Nw.rules{a b:World}(h:Nw a b):(∀k o,k<a.heap.size→b.cell? ⟨k,o,none⟩=a.cell? ⟨k,o,none⟩)∧(∀k o,k<a.heap.size→b.frozen? ⟨k,o,none⟩=a.frozen? ⟨k,o,none⟩) :=
 ⟨fun k o hk=>Below.cell (p:=⟨k,o,none⟩) h hk,fun k o hk=>Below.frozen (p:=⟨k,o,none⟩) h hk⟩
theorem Z6n(t r:Int)(w:World) :
  Calls prog 95 #[.agg #[.int .i64 t,.int .i64 r]] w fun e w'=>e=.returned (.int .i64 (lvl t r))∧Nw w w':=by
 by_cases h1:t = -1
 ·subst h1
  by_cases h2:r = -1
  ·subst h2;exact Z9r w
  ·have e:lvl (-1) r = -1:=by unfold lvl;(repeat' split);all_goals omega
   rw[e];exact Zbq r w (by omega)
 ·by_cases h3:0≤t∧t<100
  ·obtain⟨h3,h4⟩:=h3
   by_cases h2:r = -1
   ·subst h2;rw[Z85 t h3 h4];exact Z6p t w h3 h4
   ·by_cases h5:0≤r∧r<100
    ·rw[Z84 t r h3 h4 h5.1 h5.2];exact Z6o t r w h3 h4 h5.1 h5.2
    ·have e:lvl t r = -1:=by unfold lvl;(repeat' split);all_goals omega
     rw[e];exact Zbs t r w h3 h4 (by omega)
  ·have e:lvl t r = -1:=by unfold lvl;(repeat' split);all_goals omega
   rw[e];exact Zbr t r w (by omega)
theorem Z6q(t r L:Int)(w:World)(h:lvl t r=L) :
  Calls prog 95 #[.agg #[.int .i64 t,.int .i64 r]] w fun e w'=>e=.returned (.int .i64 L)∧Nw w w':=by
 subst h;exact Z6n t r w
theorem Zg2(t r:Int)(w:World)(h:lvl t r≠-1) :
  Calls prog 71 #[.agg #[.int .i64 t,.int .i64 r]] w fun e w'=>e=.returned (.int .i64 0)∧Nw w w':=by
 have hL:(lvl t r==-1)=false:=by simpa using h
 have H:=Z6n t r
 generalize lvl t r=L at *
 have H2:=hD0 H
 clear H h
 go_enter func71,ntmps71
 go_wp2_with (go_at_call 95;refine(H2.out _).mono ?_;rintro e w' ⟨rfl,hg⟩)
 go_ret
 exact⟨rfl,((Nw.refl _).alloc _).trans hg⟩
theorem Zg1(t r:Int)(w:World)(h:lvl t r = -1) :
  Calls prog 71 #[.agg #[.int .i64 t,.int .i64 r]] w fun e w'=>e=.returned (.int .i64 2)∧Nw w w':=by
 have H2:=hD0 h
 clear h
 go_enter func71,ntmps71
 go_wp2_with (go_at_call 95;refine(Z6q _ _ _ _ H2.out).mono ?_;rintro e w' ⟨rfl,hg⟩)
 go_ret
 exact⟨rfl,((Nw.refl _).alloc _).trans hg⟩
theorem Z02(t r:Int)(w:World) :
  Calls prog 8 #[.int .i64 t,.int .i64 r] w fun e w'=>e=.returned (.agg #[.int .i64 t,.int .i64 r])∧Nw w w':=by
 go_enter func8,ntmps8
 go_wp2
 exact bodyPost_ret (v:=.agg #[.int .i64 t,.int .i64 r]) (by simp[results,results8,go_sem]) rfl ⟨rfl,(Nw.refl _).alloc _⟩
def flat:List (Int × Int)→List Value
 | []=>[]
 | z::r=>.int .i64 z.1::.int .i64 z.2::flat r
theorem Nw.drew1{w w':World}(h:Nw w w'):Nw w w'.drew:=h.drewN 1
theorem Zb3(w:World)(t r:Int)(ty:TypeId) :
  (w.alloc (.cells #[.int .i64 t,.int .i64 r] ty)).cell? ⟨w.heap.size,0,none⟩=some (.int .i64 t)∧(w.alloc (.cells #[.int .i64 t,.int .i64 r] ty)).cell? ⟨w.heap.size,1,none⟩=some (.int .i64 r)∧(w.heap.size<(w.alloc (.cells #[.int .i64 t,.int .i64 r] ty)).heap.size∧Nw w (w.alloc (.cells #[.int .i64 t,.int .i64 r] ty))) :=
 ⟨cell_of_row _ _ 0 _ ty (0,0) (heap_alloc_last w _),cell_of_row _ _ 1 _ ty (0,0) (heap_alloc_last w _),by show _<(w.heap.push _).size;simp,(Nw.refl w).alloc _⟩
end
section
open Go.ChangeShapes Go.WideShapes Go.ChangeAt Go.RowKit
def c3(a b:Int):Int:=if a<b then -1 else if b<a then 1 else 0
end
section
open Go.ChangeShapes Go.WideShapes Go.ChangeAt Go.RowKit
def und(t r t' r':Int):Bool:=decide (lvl t r≠-1∧lvl t' r'≠-1∧((t' = -1∧r' = -1)∨(t'=t∧(r' = -1∨r'=r))))
end
theorem Zpl{A M B:List Value}{j:Nat}(hj:j<M.length)(u:Value):(A++(M++B)).set (A.length+j) u=A++(M.set j u++B):=by
 rw[List.set_append_right _ _ (by omega),Nat.add_sub_cancel_left,List.set_append_left _ _ hj]
theorem Zaa(q:List Rq)(k:Nat)(hk:k<q.length):Z8 Zi q=Z8 Zi (q.take k)++(Zi q[k]++Z8 Zi (q.drop (k+1))):=by
 have e:q=q.take k++q[k]::q.drop (k+1):=by rw[←List.drop_eq_getElem_cons hk,List.take_append_drop]
 conv=>lhs;rw[e]
 rw[Za9]
 rfl
theorem Zir(q:List Rq)(k:Nat)(hk:k<q.length)(j:Nat)(hj:j<5)(u:Value)(new:Rq)(e:(Zi q[k]).set j u=Zi new):(Z8 Zi q).set (k*5+j) u=Z8 Zi (q.set k new):=by
 have hA:(Z8 Zi (q.take k)).length=k*5:=by rw[Yf (sz:=5) (fun _=>rfl),List.length_take,Nat.min_eq_left (Nat.le_of_lt hk)]
 have h2:=Zaa (q.set k new) k (by rw[List.length_set];exact hk)
 rw[List.take_set_of_le (Nat.le_refl k),List.drop_set_of_lt (Nat.lt_succ_self k),List.getElem_set_self] at h2
 rw[Zaa q k hk,h2,←hA,Zpl (by exact hj) u,e]
theorem Y3{w:World}{g0 g cap n:Nat}{q:List Rq}(h:Z7 w g0 (.slice (some ⟨g,0,none⟩) n cap) q)(hn:n=q.length)(k:Nat)(hk:k<q.length)(j:Nat)(hj:j<5)(u:Value)(new:Rq)(e:(Zi q[k]).set j u=Zi new) :
  Z7 (w.setCell ⟨g,k*5+j,none⟩ u) g0 (.slice (some ⟨g,0,none⟩) n cap) (q.set k new):=by
 subst hn
 have h1:=(World.ownsRow.stored h (k*5+j) u).1
 unfold Z7 Up
 rw[List.length_set,←Zir q k hk j hj u new e]
 exact h1
theorem Yq{w:World}{g0 g cap n:Nat}{q:List Rq}(h:Z7 w g0 (.slice (some ⟨g,0,none⟩) n cap) q)(hn:n=q.length)(k:Nat)(hk:k<q.length)(j:Nat)(u:Value)(hu:(Zi q[k])[j]?=some u):w.cell? ⟨g,k*5+j,none⟩=some u:=by
 subst hn
 have hj:j<5:=by have:=(List.getElem?_eq_some_iff.1 hu).1;simpa [Zi] using this
 refine(World.ownsRow.cellAt h (k*5+j) (by omega)).trans ?_
 rw[U6 (sz:=5) (fun _=>rfl) q k j hk hj];exact hu
theorem Z0h{w:World}{g0 g cap n:Nat}{q:List Rq}(h:Z7 w g0 (.slice (some ⟨g,0,none⟩) n cap) q)(hn:n=q.length)(j:Nat):w.frozen? ⟨g,j,none⟩=false:=by
 subst hn
 exact World.ownsRow.frozenAt h j
theorem Zq3{W:Int}{q:List Rq}{k:Nat}(h:Ok W q)(hk:k<q.length)(hm:q[k].md≠0):abQ q[k] q=q.set k (abR q[k]):=by
 unfold abQ
 rw[if_neg hm,Z3z h abR k hk]
theorem Zna{W:Int}{q:List Rq}(h:Ok W q){m k:Nat}(hm:m<q.length)(hk:k<q.length)(ne:m≠k):q[m].id≠q[k].id:=by
 rcases Nat.lt_or_gt_of_ne ne with g | g
 ·exact(List.pairwise_iff_getElem.1 h.pr m k hm hk g).id
 ·exact fun e=>(List.pairwise_iff_getElem.1 h.pr k m hk hm g).id e.symm
theorem Zoh{W:Int}{q:List Rq}{id x:Int}{m k:Nat}(h:Ok W q)(hk:k<q.length)(hf:Va q id=some q[k])(hm:m<q.length)(ne:m≠k)(e:q[m].txn=x):(q.any fun o=>!(o.id==id)&&o.txn==x)=true:=by
 have:=Zna h hm hk ne
 rw[(Z50 hf).2] at this
 exact List.any_eq_true.2 ⟨q[m],gM0 hm,by simp[this,e]⟩
theorem Zd0{q:List Rq}{id x:Int}{k:Nat}(hk:k<q.length)(hf:Va q id=some q[k])(h:∀m (hm:m<q.length),m≠k→q[m].txn≠x):(q.any fun o=>!(o.id==id)&&o.txn==x)=false:=by
 rw[List.any_eq_false]
 intro a ha
 obtain⟨m,hm,rfl⟩:=List.getElem_of_mem ha
 by_cases e:m=k
 ·subst e;simp[(Z50 hf).2]
 ·simp[h m hm e]
theorem Zqg{W:Int}{q:List Rq}{id x:Int}{k:Nat}(h:Ok W q)(hk:k<q.length)(hf:Va q id=some q[k]):Um (fun r=>⟨r.id,x,r.md,r.wt,r.sn⟩) id q=q.set k ⟨q[k].id,x,q[k].md,q[k].wt,q[k].sn⟩:=by
 rw[←Z3z h (fun r=>⟨r.id,x,r.md,r.wt,r.sn⟩) k hk,(Z50 hf).2]
def HR2(X:Hq × Bool × Int)(w:World)(e:Ending)(w':World):Prop:=∃v',e=.returned (.tuple #[Un X.1.t X.1.r v' X.1.W,.bool X.2.1,.int .i64 X.2.2])∧Nw w w'∧Zu w' v' X.1.q∧Z3e v'
theorem Zcf{h:Hq}{id txn m:Int}(e:id<0∨m=0∨Zq m=false):Z0a h id txn m=(noH,false,2):=by
 unfold Z0a
 have:Z09 h.q id txn m=2:=by unfold Z09;rw[if_pos e]
 rw[this];rfl
theorem Z7c{h:Hq}{id txn m:Int}(e:¬(id<0∨m=0∨Zq m=false))(a:(h.q.any fun r=>r.id==id || r.txn==txn)=true):Z0a h id txn m=(noH,false,4):=by
 unfold Z0a
 have:Z09 h.q id txn m=4:=by unfold Z09;rw[if_neg e,if_pos a]
 rw[this];rfl
theorem Zk4{h:Hq}{id txn m:Int}(e:¬(id<0∨m=0∨Zq m=false))(a:(h.q.any fun r=>r.id==id || r.txn==txn)=false)(f:free h.q m=true):Z0a h id txn m=(⟨h.t,h.r,h.W,h.q++[⟨id,txn,m,m,0⟩]⟩,true,0):=by
 unfold Z0a
 have:Z09 h.q id txn m=0:=by unfold Z09;rw[if_neg e,if_neg (by rw[a];simp)]
 rw[this,if_pos rfl];unfold Ye;rw[if_pos f]
theorem Zns{h:Hq}{id txn m:Int}(e:¬(id<0∨m=0∨Zq m=false))(a:(h.q.any fun r=>r.id==id || r.txn==txn)=false)(f:¬free h.q m=true):Z0a h id txn m=(⟨h.t,h.r,h.W+1,h.q++[⟨id,txn,0,m,h.W+1⟩]⟩,false,0):=by
 unfold Z0a
 have:Z09 h.q id txn m=0:=by unfold Z09;rw[if_neg e,if_neg (by rw[a];simp)]
 rw[this,if_pos rfl];unfold Ye;rw[if_neg f]
theorem Zq0{h:Hq}{id m:Int}(e:m=0∨Zq m=false):upR h id m=(noH,false,2):=by unfold upR;rw[if_pos e]
theorem Zmp{h:Hq}{id m:Int}(e:¬(m=0∨Zq m=false))(f:Va h.q id=none):upR h id m=(noH,false,5):=by unfold upR;rw[if_neg e,f]
theorem Zmq{h:Hq}{id m:Int}{R:Rq}(e:¬(m=0∨Zq m=false))(f:Va h.q id=some R)(s:0<R.sn):upR h id m=(noH,false,7):=by unfold upR;rw[if_neg e,f];exact if_pos s
theorem Zr0{h:Hq}{id m:Int}{R:Rq}(e:¬(m=0∨Zq m=false))(f:Va h.q id=some R)(s:¬0<R.sn):upR h id m=(⟨h.t,h.r,(upQ h.W h.q R m).1,(upQ h.W h.q R m).2.1⟩,(upQ h.W h.q R m).2.2,0):=by unfold upR;rw[if_neg e,f];exact if_neg s
theorem Ziz{q:List Rq}{k:Nat}(hk:k<q.length)(x:Rq)(e:x=q[k]):q.set k x=q:=by subst e;exact List.set_getElem_self hk
def Zq2(o:Nat)(v:Value)(l:List Hm)(b:Nat):Prop:=b=o∨v.ownBlock=some b∨∃x∈l,∃a,x.a=some a∧b=a.block
structure Zrr(w:World)(o po pg:Nat)(most:Int)(v:Value)(l:List Hm)(w':World)(v':Value)(l':List Hm):Prop where
 rb:Rb w' o po most v' l'
 tch:Z3 (fun b=>b=o∨v.ownBlock=some b∨b=pg) w w'
 inn:∀b,Zq2 o v' l' b→Zq2 o v l b∨w.heap.size≤b
theorem Zij{w w':World}{S:Nat→Prop}{g0 e size n:Nat}{v:Value}{xs:List Value}(h:w.ownsRow g0 e size v n xs)(t:Z3 S w w')(hS:∀g,v.ownBlock=some g→¬S g):w'.ownsRow g0 e size v n xs:=by
 refine⟨h.1,?_⟩
 rcases h.2 with hn | ⟨g,cap,cur,rfl,hb,hgg,rest⟩
 ·exact .inl hn
 ·exact .inr ⟨g,cap,cur,rfl,hb,(t.block g (Array.getElem?_eq_some_iff.1 hgg).1 (hS g rfl)).trans hgg,rest⟩
theorem Zit{w:World}{x:Hm}{b:Addr}(h:Zu w (hmV x) x.h.q)(e:x.a=some b)(hq:x.h.q≠[]):b.block<w.heap.size:=by
 obtain⟨a,c,e1,⟨q,_⟩ | ⟨b',o',e2,hc⟩⟩:=h
 ·exact absurd q hq
 ·unfold hmV at e1
  rw[e,e2] at e1
  injection e1 with e1 _ _
  injection e1 with e1
  rw[e1]
  exact hc.lt
theorem Zog(h:Hq)(id txn:Int)(he:(hnR h id txn).2=0):(hnR h id txn).1.t=h.t∧(hnR h id txn).1.r=h.r:=by
 unfold hnR at he ⊢
 split
 ·rename_i e;rw[e] at he;cases he
 ·rename_i e
  rw[e] at he
  split
  ·rename_i e2;simp only[e2,if_true] at he;cases he
  ·rename_i e2
   split
   ·rename_i e3;simp only[e2,e3,if_true] at he;simp at he
   ·exact⟨rfl,rfl⟩
theorem Zpz(h:Hq)(id m:Int)(he:(upR h id m).2.2=0):(upR h id m).1.t=h.t∧(upR h id m).1.r=h.r:=by
 revert he
 unfold upR
 split
 ·intro he;cases he
 ·split
  ·intro he;cases he
  ·split
   ·intro he;cases he
   ·intro _;exact⟨rfl,rfl⟩
section
open Go.ChangeShapes Go.WideShapes Go.ChangeAt Go.RowKit
def Zbg(h:Int)(b:UInt8):Int:=bits .xor .u32 h (b.toNat:Int)*16777619%4294967296
def fnv(l:List UInt8):Int:=l.foldl Zbg 2166136261
theorem Z96(l:List UInt8)(b:UInt8):fnv (l++[b])=Zbg (fnv l) b:=by simp[fnv]
theorem Zq9(w:World)(e:TypeId)(s:ByteArray):Nw w (Lib.bytesWorld w e s) :=
 ⟨rfl,by simp[Lib.bytesWorld,World.freeze],rfl,by rw[Lib.bytesWorld_size];omega,fun k hk=>Lib.bytesWorld_at_old w e s k hk⟩
theorem Zh0(b:UInt8):(b.toNat:Int)%4294967296=b.toNat:=by have:=b.toNat_lt;omega
theorem Zbh(h:Int)(b:UInt8):0≤Zbg h b∧Zbg h b<4294967296:=by
 unfold Zbg
 generalize bits .xor .u32 h (b.toNat:Int)=z
 exact⟨Int.emod_nonneg _ (by decide),Int.emod_lt_of_pos _ (by decide)⟩
theorem Zec(l:List UInt8):0≤fnv l∧fnv l<4294967296:=by
 rcases List.eq_nil_or_concat l with rfl | ⟨r,b,rfl⟩
 ·decide
 ·rw[List.concat_eq_append,Z96];exact Zbh _ _
theorem Zfc(l:List UInt8)(k:Nat)(h:k<l.length):l.take (k+1)=l.take k++[l.getD k 0]:=by
 rw[List.take_succ_eq_append_getElem h];simp[List.getD,h]
theorem Zmc(s:ByteArray)(w:World)(hs:s.size≤100000) :
  Calls prog 96 #[.string s] w fun e w'=>e=.returned (.int .u32 (fnv s.data.toList))∧Nw w w':=by
 have hcv:=Lib.run_convert_string_bytes (P:=prog) w 9 186 5 s (u:=.string) underlying9 underlying186 underlying5
 have hB:∀t,t<s.size→(Lib.bytesWorld w 5 s).cell? ⟨w.heap.size,t,none⟩=some (.int .u8 (s.data.toList.getD t 0).toNat):=fun t ht=>Lib.bytesWorld_cell w 5 s t ht
 have hN:=Zq9 w 5 s
 have hl:s.data.toList.length=s.size:=by simp
 generalize Lib.bytesWorld w 5 s=W1 at hcv hB hN
 have HL:=hD0 hl
 clear hl
 go_enter func96,ntmps96
 go_wp2
 go_loop [3,9] (fun h i=>∃k:Nat,k≤s.size∧i=.int .i64 k∧h=.int .u32 (fnv (s.data.toList.take k))) (fun _ i=>s.size-(intOf i).toNat)
 case atStart=>exact⟨0,Nat.zero_le _,rfl,rfl⟩
 case round =>
  obtain⟨k,hk,rfl,rfl⟩:=hrel
  by_cases h:k<s.size
  ·have hb:=hB k h
   have e:fnv (s.data.toList.take (k+1))=Zbg (fnv (s.data.toList.take k)) (s.data.toList.getD k 0):=by rw[Zfc _ k (by rw[HL.out];exact h),Z96]
   have E:=hD0 e
   generalize fnv (s.data.toList.take k)=H at *
   generalize s.data.toList.getD k 0=b at *
   clear e hB hcv
   go_wp2
   go_round
   case rel=>exact⟨k+1,by omega,by go_num,by rw[E.out,Zbg,Zh0]⟩
   case measure=>simp[intOf];omega
  ·have hk':k=s.size:=by omega
   have ht:s.data.toList.take k=s.data.toList:=by rw[hk',←HL.out];exact List.take_length
   rw[ht]
   clear ht
   go_wp2
   go_ret
   exact⟨rfl,hN⟩
end
end Go.Proofs.YtfepoibfbmehiaaGreatDoor
namespace Go.Proofs
open _root_.Go.Proofs.Tryz
open Go.Shelf
def Tryz.lays171_ren:Go.Shelf.Ren:=⟨fun | 171=>133 | 243=>150 | 246=>158 | 283=>168 | 284=>169 | 285=>170 | 286=>171 | 129=>107 | 317=>177 | 318=>178 | 319=>179 | 320=>180 | 337=>183 | 338=>184 | n=>n,fun | 3=>3 | 9=>9 | 2=>2 | 4=>4 | 171=>218 | 0=>0 | 53=>160 | 37=>186 | 5=>5 | 173=>220 | 212=>228 | 51=>120 | 20=>20 | 213=>229 | 46=>124 | 232=>231 | 233=>232 | n=>n,fun | 17=>0 | 18=>1 | 19=>2 | n=>n⟩
theorem Tryz.lays171:Go.Proofs.Lays.n171 prog Tryz.lays171_ren:={
 mixed:=by kernel_rfl
 f129:=func107.trans (congrArg some (by kernel_rfl))
 f171:=func133.trans (congrArg some (by kernel_rfl))
 f243:=func150.trans (congrArg some (by kernel_rfl))
 f246:=func158.trans (congrArg some (by kernel_rfl))
 f283:=func168.trans (congrArg some (by kernel_rfl))
 f284:=func169.trans (congrArg some (by kernel_rfl))
 f285:=func170.trans (congrArg some (by kernel_rfl))
 f286:=func171.trans (congrArg some (by kernel_rfl))
 f317:=func177.trans (congrArg some (by kernel_rfl))
 f318:=func178.trans (congrArg some (by kernel_rfl))
 f319:=func179.trans (congrArg some (by kernel_rfl))
 f320:=func180.trans (congrArg some (by kernel_rfl))
 f337:=func183.trans (congrArg some (by kernel_rfl))
 f338:=func184.trans (congrArg some (by kernel_rfl))
 t0:=underlying0
 a0:=Tryz.isAgg0
 z0:=Tryz.sizeOf0
 v0:=Tryz.zeroValue0
 t2:=underlying2
 a2:=Tryz.isAgg2
 z2:=Tryz.sizeOf2
 v2:=Tryz.zeroValue2
 t3:=underlying3
 a3:=Tryz.isAgg3
 z3:=Tryz.sizeOf3
 v3:=Tryz.zeroValue3
 t4:=underlying4
 a4:=Tryz.isAgg4
 z4:=Tryz.sizeOf4
 v4:=Tryz.zeroValue4
 t5:=underlying5
 a5:=Tryz.isAgg5
 z5:=Tryz.sizeOf5
 v5:=Tryz.zeroValue5
 t9:=underlying9
 a9:=Tryz.isAgg9
 z9:=Tryz.sizeOf9
 v9:=Tryz.zeroValue9
 t20:=underlying20
 a20:=Tryz.isAgg20
 z20:=Tryz.sizeOf20
 v20:=Tryz.zeroValue20
 t37:=underlying186
 a37:=Tryz.isAgg186
 z37:=Tryz.sizeOf186
 v37:=Tryz.zeroValue186
 t46:=underlying124
 a46:=Tryz.isAgg124
 z46:=Tryz.sizeOf124
 v46:=Tryz.zeroValue124
 t51:=underlying120
 a51:=Tryz.isAgg120
 z51:=Tryz.sizeOf120
 v51:=Tryz.zeroValue120
 t53:=underlying160
 a53:=Tryz.isAgg160
 z53:=Tryz.sizeOf160
 v53:=Tryz.zeroValue160
 t171:=underlying218
 a171:=Tryz.isAgg218
 z171:=Tryz.sizeOf218
 v171:=Tryz.zeroValue218
 t173:=underlying220
 a173:=Tryz.isAgg220
 z173:=Tryz.sizeOf220
 v173:=Tryz.zeroValue220
 t212:=underlying228
 a212:=Tryz.isAgg228
 z212:=Tryz.sizeOf228
 v212:=Tryz.zeroValue228
 t213:=underlying229
 a213:=Tryz.isAgg229
 z213:=Tryz.sizeOf229
 t232:=underlying231
 a232:=Tryz.isAgg231
 z232:=Tryz.sizeOf231
 v232:=Tryz.zeroValue231
 t233:=underlying232
 a233:=Tryz.isAgg232
 z233:=Tryz.sizeOf232
 v233:=Tryz.zeroValue232
 g17:=by kernel_rfl
 g18:=by kernel_rfl
 g19:=by kernel_rfl }
open Go.RowKit Go.Sort Go.Lib in
theorem Tryz.strconv_Itoa_small(i:Nat)(hi:i<100)(w:World) :
  Calls prog 133 #[.int .i64 i] w fun e w'=>e=.returned (.string ⟨(Lib.decDigits i).toArray⟩)∧w'=w:=Any.strconv_Itoa_small Tryz.lays171 i hi w
end Go.Proofs
namespace Go.Proofs.YtfepoibfbmehiaaGreatDoor
open Go.RowKit _root_.Go.Proofs.Tryz
section
open Go.ChangeShapes Go.WideShapes Go.ChangeAt Go.RowKit
def dig(t:Int):List UInt8:=Lib.decDigits t.toNat
def Z5w(t r:Int):List UInt8:=if lvl t r=0 then[100,98] else if lvl t r=1 then 116::dig t else if lvl t r=2 then 116::(dig t++(46::114::dig r)) else[63]
def txt(t r:Int):ByteArray:=⟨(Z5w t r).toArray⟩
theorem Z1v(t:Int)(w:World)(h0:0≤t)(h1:t<100) :
  Calls prog 133 #[.int .i64 t] w fun e w'=>e=.returned (.string ⟨(dig t).toArray⟩)∧w=w':=by
 obtain⟨i,rfl⟩:=Int.eq_ofNat_of_zero_le h0
 exact(Tryz.strconv_Itoa_small i (by omega) w).mono fun _ _ ⟨he,hw⟩=>⟨he,hw.symm⟩
theorem cat(a b:List UInt8):(⟨a.toArray⟩:ByteArray)++⟨b.toArray⟩=⟨(a++b).toArray⟩:=by
 apply ByteArray.ext
 rw[ByteArray.data_append]
 simp
theorem Zqv{a b:ByteArray}(h:a=b):Ending.returned (.string a)=.returned (.string b):=by rw[h]
theorem Z15(t:Int)(h0:0≤t)(h1:t<100):(dig t).length≤2:=by
 unfold dig
 by_cases h:t.toNat<10
 ·rw[Lib.decDigits_one h];simp
 ·rw[Lib.decDigits_two h (by omega)];simp
theorem Zmj(w:World) :
  Calls prog 97 #[.agg #[.int .i64 (-1),.int .i64 (-1)]] w fun e w'=>e=.returned (.string ⟨#[100,98]⟩)∧Nw w w':=by
 go_enter func97,ntmps97
 go_wp2_with (go_at_call 95;refine(Z9r _).mono ?_;rintro e w' ⟨rfl,hg⟩)
 go_ret
 exact⟨rfl,((Nw.refl _).alloc _).trans hg⟩
theorem Zjj(t r:Int)(w:World)(h:lvl t r = -1) :
  Calls prog 97 #[.agg #[.int .i64 t,.int .i64 r]] w fun e w'=>e=.returned (.string ⟨#[63]⟩)∧Nw w w':=by
 have H:=hD0 h
 clear h
 go_enter func97,ntmps97
 go_wp2_with (go_at_call 95;refine(Z6q _ _ _ _ H.out).mono ?_;rintro e w' ⟨rfl,hg⟩)
 go_ret
 exact⟨rfl,((Nw.refl _).alloc _).trans hg⟩
theorem Zjl(t:Int)(w:World)(h0:0≤t)(h1:t<100) :
  Calls prog 97 #[.agg #[.int .i64 t,.int .i64 (-1)]] w fun e w'=>e=.returned (.string ⟨(116::dig t).toArray⟩)∧Nw w w':=by
 have hd:=Z15 t h0 h1
 go_enter func97,ntmps97
 go_wp2_with (first | (go_at_call 95;refine(Z6p _ _ h0 h1).mono ?_;rintro e w' ⟨rfl,hg⟩;obtain⟨hc,hf⟩:=hg.rules) | (go_at_call 133;refine(Z1v _ _ h0 h1).mono ?_;rintro e w' ⟨rfl,rfl⟩))
 go_ret
 exact⟨Zqv (by rw[cat];rfl),((Nw.refl _).alloc _).trans hg⟩
theorem Zjk(t r:Int)(w:World)(h0:0≤t)(h1:t<100)(h2:0≤r)(h3:r<100) :
  Calls prog 97 #[.agg #[.int .i64 t,.int .i64 r]] w fun e w'=>e=.returned (.string ⟨(116::(dig t++(46::114::dig r))).toArray⟩)∧Nw w w':=by
 have hd:=Z15 t h0 h1
 have hd2:=Z15 r h2 h3
 have g1:¬9223372036854775807<1+(dig t).length:=by omega
 have g2:¬9223372036854775807<1+(dig t).length+2:=by omega
 have g3:¬9223372036854775807<1+(dig t).length+2+(dig r).length:=by omega
 clear hd hd2
 go_enter func97,ntmps97
 go_wp2_with (go_at_call 95;refine(Z6o _ _ _ h0 h1 h2 h3).mono ?_;rintro e w' ⟨rfl,hg⟩;obtain⟨hc,hf⟩:=hg.rules)
 have hS:=Vk hg (Zb3 w t r 33)
 clear hc hf
 go_region_held3 (fun w'=>w'.cell? ⟨w.heap.size,0,none⟩=some (.int .i64 t)∧w'.cell? ⟨w.heap.size,1,none⟩=some (.int .i64 r)∧(w.heap.size<w'.heap.size∧Nw w w')) (first | assumption | exact Vk (Nw.refl _).drew1 hS)
  (first | (go_at_call_of 133 (Value.int .i64 t);refine(Z1v _ _ h0 h1).mono ?_;rintro e w' ⟨rfl,rfl⟩) | (go_at_call_of 133 (Value.int .i64 r);refine(Z1v _ _ h2 h3).mono ?_;rintro e w' ⟨rfl,rfl⟩))
 all_goals
  rename_i hS2
  go_wp2
  go_ret
  exact⟨Zqv (by rw[cat [116] (dig t)];rw[cat _ [46,114]];rw[cat];simp),hS2.2.2.2⟩
theorem Zpx:txt (-1) (-1)=⟨#[100,98]⟩:=rfl
theorem Zmo(t:Int)(h0:0≤t)(h1:t<100):txt t (-1)=⟨(116::dig t).toArray⟩:=by unfold txt Z5w;rw[Z85 t h0 h1];rfl
theorem Zmn(t r:Int)(h0:0≤t)(h1:t<100)(h2:0≤r)(h3:r<100):txt t r=⟨(116::(dig t++(46::114::dig r))).toArray⟩:=by unfold txt Z5w;rw[Z84 t r h0 h1 h2 h3];rfl
theorem Zmm(t r:Int)(h:lvl t r = -1):txt t r=⟨#[63]⟩:=by unfold txt Z5w;rw[h];rfl
theorem Zji(t r:Int)(w:World) :
  Calls prog 97 #[.agg #[.int .i64 t,.int .i64 r]] w fun e w'=>e=.returned (.string (txt t r))∧Nw w w':=by
 rcases Znd t r with⟨rfl,rfl⟩ | ⟨h0,h1,rfl⟩ | ⟨h0,h1,h2,h3⟩ | h
 ·rw[Zpx];exact Zmj w
 ·rw[Zmo t h0 h1];exact Zjl t w h0 h1
 ·rw[Zmn t r h0 h1 h2 h3];exact Zjk t r w h0 h1 h2 h3
 ·rw[Zmm t r h];exact Zjj t r w h
end
section
open Go.ChangeShapes Go.WideShapes Go.ChangeAt Go.RowKit Go.Joins Go.Deep
section
variable {H:Type} {enc:TypeId × Value→H}
theorem handed_and_shaped{a:Assume}{C:Checked}{os:Os}{f:FuncId}{fn:Func}{s:ChangeSpec}{conds:List PathCond}{apart fresh handsOn again:Bool}{X:World→Array Value→Prop}
  (hX:∀(w w':World) (args:Array Value),w.heap=w'.heap→X w args→X w' args)
  (own:ownKnob C.prog.godebug=none) (started:os.Started) (noInit:C.prog.inits.idxOf? f=none) (hfn:C.prog.funcs[f]?=some fn)
  (witness:∃(w:World) (tape:Tape) (i:Input),w.os=os∧(w.forCall tape i).Shaped C.prog∧i.vars=[]∧Input.okWide C.prog (w.forCall tape i) .any w.heap.size f i ∧
   ((s.pre enc C.prog fn conds apart (w.forCall tape i).memory i.args∧X (w.forCall tape i).memory i.args)∧sizedMet enc C.prog fn (OpenSpec.ofChange s) apart (w.forCall tape i).memory i.args)∧a.holds C.prog (lone (Frame.enter C.prog f i.args .normal) [] (w.forCall tape i)))
  (contract:∀(W:World) (base:Nat) (args:Array Value) (ds gs:List (DataW H)) (before:List MemPlace),
   (∀(j:Nat) t v,fn.params[j]?=some t→args[j]?=some v→Value.okWide C.prog W .any base t v) →
   DataW.Whole enc C.prog fn.params.toList s.vars apart W args.toList ds gs before →
   (DataW.weightsEach C.prog (fn.params.toList++s.plain.varTypes C.prog) (ds++gs)).all (·≤reachBytes)=true→X W args→W.ShapedOpen C.prog →
   Calls C.prog f args W fun e W'=>∃v,e=.returned v∧s.post enc C.prog fn apart fresh handsOn again W args v W') :
  ReturnsInHanded a C os f .any (fun w args=>(s.pre enc C.prog fn conds apart w args∧X w args)∧sizedMet enc C.prog fn (OpenSpec.ofChange s) apart w args) (s.post enc C.prog fn apart fresh handsOn again):=by
 refine returnsInHanded_of_calls own started noInit witness ?_
 intro w tape i _ hsh _ hok hpre _
 obtain⟨_,_,_,fn',hfn',_,_,_,_,hval⟩:=hok
 have e:fn'=fn:=Option.some.inj (hfn'.symm.trans hfn)
 subst e
 obtain⟨⟨⟨ds,gs,before,hw,_⟩,hx⟩,hz⟩:=hpre
 have hw':=DataW.Whole.of_heap (w':=w.forCall tape i) (by rfl) hw
 refine(contract (w.forCall tape i) w.heap.size i.args ds gs before hval hw' (hz.weights hw) (hX _ _ _ (by rfl) hx) hsh).mono fun e W' ⟨v,he,hp⟩=>?_
 subst he
 exact ChangeSpec.post_blind hp
end
section
variable {H:Type} {enc:TypeId × Value→H} {w:World} {base:Nat} {spare:Nat→Bool} {held:Bool}
end
theorem own:ownKnob prog.godebug=none:=by kernel_rfl
end
section
open Go.ChangeShapes Go.WideShapes Go.ChangeAt Go.RowKit
theorem Zjo(t r:Int):(Z5w t r).length≤1000:=by
 rcases Znd t r with⟨rfl,rfl⟩ | ⟨h0,h1,rfl⟩ | ⟨h0,h1,h2,h3⟩ | h
 ·decide
 ·unfold Z5w;rw[Z85 t h0 h1];have:=Z15 t h0 h1;simp;omega
 ·unfold Z5w;rw[Z84 t r h0 h1 h2 h3];have:=Z15 t h0 h1;have:=Z15 r h2 h3;simp;omega
 ·unfold Z5w;rw[h];simp
theorem Zjp(t r:Int):(txt t r).size≤100000:=by
 have:=Zjo t r
 have e:(txt t r).size=(Z5w t r).length:=by unfold txt;simp[ByteArray.size]
 omega
theorem Zc9(t r:Int):(txt t r).data.toList=Z5w t r:=by unfold txt;rfl
def hsh(t r:Int):Int:=fnv (Z5w t r)
theorem Zeg(t r:Int):0≤hsh t r∧hsh t r<4294967296:=Zec _
theorem Zh8(t r:Int)(w:World) :
  Calls prog 72 #[.agg #[.int .i64 t,.int .i64 r]] w fun e w'=>e=.returned (.int .u32 (hsh t r))∧Nw w w':=by
 have HT:=hD0 (Zji t r)
 have HS:=hD0 (fun w=>Zmc (txt t r) w (Zjp t r))
 have ht:=Zc9 t r
 generalize txt t r=T at HT HS ht
 have Ht:=hD0 ht
 clear ht
 go_enter func72,ntmps72
 go_wp2_with fail
 refine(HT.out _).mono ?_
 rintro e w1 ⟨rfl,hg⟩
 go_wp2_with fail
 refine(HS.out _).mono ?_
 rintro e w2 ⟨rfl,hg2⟩
 go_wp2
 go_ret
 exact⟨by rw[Ht.out];rfl,(((Nw.refl _).alloc _).trans hg).trans hg2⟩
def ofS(t r n:Int):Int:=if (1≤n∧n≤16)∧lvl t r≠-1 then hsh t r%n else -1
theorem Zde(t r n:Int)(h0:1≤n)(h1:n≤16)(h:lvl t r≠-1):ofS t r n=hsh t r%n:=if_pos ⟨⟨h0,h1⟩,h⟩
theorem Zdc(t r n:Int)(h:lvl t r = -1):ofS t r n = -1:=if_neg (fun e=>e.2 h)
theorem Zlu(t r n:Int)(h:¬(1≤n∧n≤16)):ofS t r n = -1:=if_neg (fun e=>h e.1)
theorem Z37(t r n:Int):ofS t r n = -1∨(0≤ofS t r n∧ofS t r n<n):=by
 by_cases h:(1≤n∧n≤16)∧lvl t r≠-1
 ·rw[Zde t r n h.1.1 h.1.2 h.2]
  exact .inr ⟨Int.emod_nonneg _ (by omega),Int.emod_lt_of_pos _ (by omega)⟩
 ·exact .inl (if_neg h)
theorem Z2j(n:Int)(w:World)(h0:1≤n)(h1:n≤16) :
  Calls prog 70 #[.int .i64 n] w fun e w'=>e=.returned (.bool true)∧w=w':=by
 go_enter func70,ntmps70
 go_wp2
 go_ret
 exact⟨rfl,rfl⟩
theorem Za3(n:Int)(w:World)(h:¬(1≤n∧n≤16)) :
  Calls prog 70 #[.int .i64 n] w fun e w'=>e=.returned (.bool false)∧w=w':=by
 by_cases h0:1≤n
 ·have h1:16<n:=by omega
  have hd:decide (n≤16)=false:=by simp;omega
  clear h
  go_enter func70,ntmps70
  go_wp2
  go_ret
  exact⟨rfl,rfl⟩
 ·have hd:decide (1≤n)=false:=by simp;omega
  clear h
  go_enter func70,ntmps70
  go_wp2
  go_ret
  exact⟨rfl,rfl⟩
theorem Zpa(t r n:Int)(w:World)(h0:1≤n)(h1:n≤16)(h:lvl t r≠-1) :
  Calls prog 42 #[.agg #[.int .i64 t,.int .i64 r],.int .i64 n] w fun e w'=>e=.returned (.int .i64 (hsh t r%n))∧Nw w w':=by
 have HC:=hD0 (fun w=>Zg2 t r w h)
 have HH:=hD0 (fun w=>Zh8 t r w)
 obtain⟨r0,r1⟩:=Zeg t r
 generalize hsh t r=H at *
 have m0:0≤H%n:=Int.emod_nonneg _ (by omega)
 have m1:H%n<16:=Int.lt_of_lt_of_le (Int.emod_lt_of_pos _ (by omega)) h1
 have m2:=hD0 (show H.tmod n=H%n from Int.tmod_eq_emod_of_nonneg r0)
 have m3:=hD0 (show n%4294967296=n by omega)
 clear h
 go_enter func42,ntmps42
 go_wp2_with fail
 refine(Z2j _ _ h0 h1).mono ?_
 rintro e w1 ⟨rfl,rfl⟩
 go_wp2_with fail
 refine(HC.out _).mono ?_
 rintro e w2 ⟨rfl,hg⟩
 obtain⟨hc,hf⟩:=hg.rules
 go_wp2_with fail
 refine(HH.out _).mono ?_
 rintro e w3 ⟨rfl,hg3⟩
 clear hc hf
 go_wp2
 go_ret
 exact⟨rfl,(((Nw.refl _).alloc _).trans hg).trans hg3⟩
theorem Zp7(t r n:Int)(w:World)(h0:1≤n)(h1:n≤16)(h:lvl t r = -1) :
  Calls prog 42 #[.agg #[.int .i64 t,.int .i64 r],.int .i64 n] w fun e w'=>e=.returned (.int .i64 (-1))∧Nw w w':=by
 have HC:=hD0 (fun w=>Zg1 t r w h)
 clear h
 go_enter func42,ntmps42
 go_wp2_with fail
 refine(Z2j _ _ h0 h1).mono ?_
 rintro e w1 ⟨rfl,rfl⟩
 go_wp2_with fail
 refine(HC.out _).mono ?_
 rintro e w2 ⟨rfl,hg⟩
 go_wp2
 go_ret
 exact⟨rfl,((Nw.refl _).alloc _).trans hg⟩
theorem Zp9(t r n:Int)(w:World)(h:¬(1≤n∧n≤16)) :
  Calls prog 42 #[.agg #[.int .i64 t,.int .i64 r],.int .i64 n] w fun e w'=>e=.returned (.int .i64 (-1))∧Nw w w':=by
 have H:=hD0 h
 clear h
 go_enter func42,ntmps42
 go_wp2_with fail
 refine(Za3 _ _ H.out).mono ?_
 rintro e w1 ⟨rfl,rfl⟩
 go_wp2
 go_ret
 exact⟨rfl,(Nw.refl _).alloc _⟩
theorem Zie(t r n:Int)(w:World) :
  Calls prog 42 #[.agg #[.int .i64 t,.int .i64 r],.int .i64 n] w fun e w'=>e=.returned (.int .i64 (ofS t r n))∧Nw w w':=by
 by_cases hn:1≤n∧n≤16
 ·by_cases h:lvl t r = -1
  ·rw[Zdc t r n h];exact Zp7 t r n w hn.1 hn.2 h
  ·rw[Zde t r n hn.1 hn.2 h];exact Zpa t r n w hn.1 hn.2 h
 ·rw[Zlu t r n hn];exact Zp9 t r n w hn
end
theorem Z9y{hs:List Hq}{x y:Hq}(h:y∈Zz hs x):y=x∨y∈hs:=by
 induction hs with
 | nil=>exact .inl (by simpa [Zz] using h)
 | cons a l ih =>
  unfold Zz at h
  split at h
  ·rcases List.mem_cons.1 h with q | q
   ·exact .inr (by rw[q];simp)
   ·exact(ih q).imp id (List.mem_cons_of_mem _)
  ·split at h
   ·rcases List.mem_cons.1 h with q | q
    ·exact .inl q
    ·exact .inr (List.mem_cons_of_mem _ q)
   ·rcases List.mem_cons.1 h with q | q
    ·exact .inl q
    ·exact .inr q
def U0(hs hs':List Hq):Prop:=∀y∈hs',∃x∈hs,Za y=Za x
theorem U0.refl(hs:List Hq):U0 hs hs:=fun y hy=>⟨y,hy,rfl⟩
theorem Zbw{hs:List Hq}{a x:Hq}(ha:a∈hs)(e:Za x=Za a):U0 hs (Zz hs x):=fun y hy=>by
 rcases Z9y hy with rfl | q
 ·exact⟨a,ha,e⟩
 ·exact⟨y,q,rfl⟩
theorem Zid{hs:List Hq}{a:Hq}(ha:a∈hs){W:Int}{q:List Rq}:U0 hs (Yl hs ⟨a.t,a.r,W,q⟩):=fun y hy=>by
 unfold Yl at hy
 split at hy
 ·exact⟨y,(List.mem_filter.1 hy).1,rfl⟩
 ·exact Zbw (x:=scH ⟨a.t,a.r,W,q⟩) ha rfl y hy
theorem Zqt(hs:List Hq)(id m:Int):U0 hs (Z3w hs id m):=by
 unfold Z3w
 split
 ·rename_i he
  unfold Z2q at he
  cases e:Zs hs id with
  | none=>exact U0.refl hs
  | some h =>
   rw[e] at he
   by_cases hb:Z0s m
   ·rw[if_pos hb] at he;cases he
   ·rw[if_neg hb] at he
    obtain⟨h1,h2⟩:=Zpz h id m he
    exact Zbw (Vs e).1 (Prod.ext h1 h2)
 ·exact U0.refl hs
theorem Zqs(hs:List Hq)(L:List Bool)(id:Int):U0 hs (U5 hs L id).1:=by
 unfold U5
 cases e:Zs hs id with
 | none=>exact U0.refl hs
 | some h=>exact Zid (Vs e).1
theorem Zqq(hs:List Hq)(L:List Bool)(id:Int):U0 hs (V6 hs L id).1:=by
 unfold V6
 cases e:Zs hs id with
 | none=>exact U0.refl hs
 | some h =>
  simp only
  split
  ·exact Zid (Vs e).1
  ·exact U0.refl hs
theorem Zqr(hs:List Hq)(id txn:Int):U0 hs (Z3v hs id txn):=by
 unfold Z3v
 split
 ·rename_i he
  unfold Z3u at he
  cases e:Zs hs id with
  | none=>exact U0.refl hs
  | some h =>
   rw[e] at he
   obtain⟨h1,h2⟩:=Zog h id txn he
   exact Zbw (Vs e).1 (Prod.ext h1 h2)
 ·exact U0.refl hs
theorem Zp5(n:Nat)(hs:List Hq)(L:List Bool)(t r txn m:Int):∀y∈(Yn n hs L t r txn m).1,Za y=(t,r)∨∃x∈hs,Za y=Za x:=fun y hy=>by
 unfold Yn at hy
 split at hy
 ·rcases Z9y hy with rfl | q
  ·exact .inl rfl
  ·exact .inr ⟨y,q,rfl⟩
 ·exact .inr ⟨y,hy,rfl⟩
theorem Zlq(hs:List Hq)(L:List Bool)(id:Int):(U5 hs L id).2.length=L.length:=by
 unfold U5
 cases e:Zs hs id with
 | none=>rfl
 | some h=>exact Zcy L id
theorem Znn(hs:List Hq)(L:List Bool)(id:Int):(V6 hs L id).2.length=L.length:=by
 unfold V6
 cases e:Zs hs id with
 | none=>rfl
 | some h =>
  simp only
  split
  ·show(if (rqB h id).md=0 then gvL L id else L).length=_
   split
   ·exact Zcy L id
   ·rfl
  ·rfl
theorem Zfq(n:Nat)(hs:List Hq)(L:List Bool)(t r txn m:Int):(Yn n hs L t r txn m).2.length=L.length:=by
 unfold Yn
 split
 ·exact Vi L
 ·rfl
structure Zv(S n N k:Nat)(hss:List (List Hq))(L:List Bool):Prop where
 inv:U1 n k hss L
 sl:hss.length=S
 ll:L.length=N
 st:∀i (hi:i<hss.length),∀x∈hss[i],ofS x.t x.r S=i
theorem Zjh(S n N:Nat):Zv S n N 0 (List.replicate S []) (List.replicate N false):=by
 refine⟨Zfe n S N,by simp,by simp,fun i hi x hx=>?_⟩
 rw[List.getElem_replicate] at hx
 cases hx
section
variable {S n N k:Nat} {hss:List (List Hq)} {L L':List Bool}
theorem Zv.more{k':Nat}(h:Zv S n N k hss L)(hk:k≤k'):Zv S n N k' hss L:=⟨h.inv.more hk,h.sl,h.ll,h.st⟩
theorem Zv.put(h:Zv S n N k hss L){i:Nat}(hi:i<hss.length){hs:List Hq}(b:Ze n (k+1) hs (Z5q hss i) L')(hl:L'.length=L.length)(hn:∀y∈hs,ofS y.t y.r S=i∨∃x∈hss[i],Za y=Za x):Zv S n N (k+1) (hss.set i hs) L':=by
 refine⟨h.inv.put hi b,by rw[List.length_set];exact h.sl,hl.trans h.ll,fun j hj x hx=>?_⟩
 rw[List.length_set] at hj
 by_cases e:i=j
 ·subst e
  rw[List.getElem_set_self] at hx
  rcases hn x hx with q | ⟨y,hy,q⟩
  ·exact q
  ·have h1:=h.st i hi y hy
   have h2:x.t=y.t:=congrArg Prod.fst q
   have h3:x.r=y.r:=congrArg Prod.snd q
   rw[h2,h3]
   exact h1
 ·rw[List.getElem_set_ne e] at hx
  exact h.st j hj x hx
theorem Zv.srt(h:Zv S n N k hss L):∀l∈hss,Yd l:=fun l hl=>(h.inv.part l hl).srt
theorem Zv.apart(h:Zv S n N k hss L):Vz hss.flatten :=
 Zfn h.srt (fun nm=>(ofS nm.1 nm.2 S).toNat) fun i hi x hx=>by
  show(ofS x.t x.r S).toNat=i
  rw[h.st i hi x hx]
  rfl
end
def Y9(hss:List (List Hq))(id:Int):Nat:=(atT hss id).getD 0
def Z0d(hss:List (List Hq))(i:Nat):List Hq:=hss.getD i []
def Z1l(n:Nat)(hss:List (List Hq))(L:List Bool)(t r txn m:Int):Int × Bool × Int:=if ofS t r hss.length = -1 then(0,false,2)else Z0o n (Z0d hss (ofS t r hss.length).toNat) L t r txn m
def V0(n:Nat)(hss:List (List Hq))(L:List Bool)(t r txn m:Int):List (List Hq) × List Bool:=if ofS t r hss.length = -1 then(hss,L) else(hss.set (ofS t r hss.length).toNat (Yn n (Z0d hss (ofS t r hss.length).toNat) L t r txn m).1,(Yn n (Z0d hss (ofS t r hss.length).toNat) L t r txn m).2)
def Zjq(hss:List (List Hq))(id m:Int):Int:=Z2q (Z0d hss (Y9 hss id)) id m
def Zjr(hss:List (List Hq))(id m:Int):Bool:=Z8h (Z0d hss (Y9 hss id)) id m
def Zca(hss:List (List Hq))(id m:Int):List (List Hq):=hss.set (Y9 hss id) (Z3w (Z0d hss (Y9 hss id)) id m)
def Zbt(hss:List (List Hq))(id:Int):List Int × Int:=Z5a (Z0d hss (Y9 hss id)) id
def Z5b(hss:List (List Hq))(L:List Bool)(id:Int):List (List Hq) × List Bool:=(hss.set (Y9 hss id) (U5 (Z0d hss (Y9 hss id)) L id).1,(U5 (Z0d hss (Y9 hss id)) L id).2)
def Zfl(hss:List (List Hq))(id:Int):List Int × Int:=Z3q (Z0d hss (Y9 hss id)) id
def Z77(hss:List (List Hq))(L:List Bool)(id:Int):List (List Hq) × List Bool:=(hss.set (Y9 hss id) (V6 (Z0d hss (Y9 hss id)) L id).1,(V6 (Z0d hss (Y9 hss id)) L id).2)
def Zl2(hss:List (List Hq))(id txn:Int):Int:=Z3u (Z0d hss (Y9 hss id)) id txn
def Zed(hss:List (List Hq))(id txn:Int):List (List Hq):=hss.set (Y9 hss id) (Z3v (Z0d hss (Y9 hss id)) id txn)
theorem Us{hss:List (List Hq)}{i:Nat}(hi:i<hss.length):Z0d hss i=hss[i]:=by unfold Z0d;rw[List.getD_eq_getElem?_getD,List.getElem?_eq_getElem hi];rfl
theorem Z0n{hss:List (List Hq)}(h:0<hss.length)(id:Int):Y9 hss id<hss.length:=by
 unfold Y9
 cases e:atT hss id with
 | none=>exact h
 | some i=>exact(Z8s e).1
section
variable {S n N k:Nat} {hss:List (List Hq)} {L:List Bool}
theorem Zv.ask(h:Zv S n N k hss L)(hS:S≤16)(hk:k≤1000)(t r txn m:Int):Zv S n N (k+1) (V0 n hss L t r txn m).1 (V0 n hss L t r txn m).2:=by
 unfold V0
 by_cases e:ofS t r hss.length = -1
 ·rw[if_pos e]
  exact h.more (Nat.le_succ k)
 ·rw[if_neg e]
  have hr:=Z37 t r hss.length
  have hi:(ofS t r hss.length).toNat<hss.length:=by omega
  have b:=h.inv.get hi
  rw[Us hi]
  refine h.put hi (Z4l b hk t r txn m) (Zfq _ _ _ _ _ _ _) fun y hy=>?_
  rcases Zp5 _ _ _ _ _ _ _ y hy with q | q
  ·refine .inl ?_
   rw[show y.t=t from congrArg Prod.fst q,show y.r=r from congrArg Prod.snd q,←h.sl]
   omega
  ·exact .inr q
theorem Zv.up(h:Zv S n N k hss L)(hS:0<S)(hk:k≤1000)(id m:Int):Zv S n N (k+1) (Zca hss id m) L:=by
 have hi:=Z0n (by rw[h.sl];exact hS) id
 unfold Zca
 rw[Us hi]
 exact h.put hi (Zcj (h.inv.get hi) hk id m) rfl fun y hy=>.inr (Zqt _ _ _ y hy)
theorem Zv.lv(h:Zv S n N k hss L)(hS:0<S)(id:Int):Zv S n N (k+1) (Z5b hss L id).1 (Z5b hss L id).2:=by
 have hi:=Z0n (by rw[h.sl];exact hS) id
 unfold Z5b
 rw[Us hi]
 exact h.put hi (Z7e (h.inv.get hi) id) (Zlq _ _ _) fun y hy=>.inr (Zqs _ _ _ y hy)
theorem Zv.ab(h:Zv S n N k hss L)(hS:0<S)(id:Int):Zv S n N (k+1) (Z77 hss L id).1 (Z77 hss L id).2:=by
 have hi:=Z0n (by rw[h.sl];exact hS) id
 unfold Z77
 rw[Us hi]
 exact h.put hi (Z7d (h.inv.get hi) id) (Znn _ _ _) fun y hy=>.inr (Zqq _ _ _ y hy)
theorem Zv.hn(h:Zv S n N k hss L)(hS:0<S)(id txn:Int):Zv S n N (k+1) (Zed hss id txn) L:=by
 have hi:=Z0n (by rw[h.sl];exact hS) id
 unfold Zed
 rw[Us hi]
 exact h.put hi (Zci (h.inv.get hi) id txn) rfl fun y hy=>.inr (Zqr _ _ _ y hy)
end
theorem Z54{most most' k k':Nat}{hs hs':List Hq}{X:List Int}{L:List Bool}(b:Ze most k hs X L)(b':Ze most' k' hs' X L):(Z4 hs').Perm (Z4 hs):=(List.perm_append_right_iff X).1 (b'.ids.trans b.ids.symm)
theorem Zhk{most most' k k':Nat}{hs hs':List Hq}{X:List Int}{L:List Bool}(b:Ze most k hs X L)(h:Zm L<L.length)(b':Ze most' k' hs' X (tkL L)):(Z4 hs').Perm ((Zm L:Int)::Z4 hs):=by
 refine(List.perm_append_right_iff X).1 ((b'.ids.trans (Z9w h)).trans ?_)
 rw[List.cons_append]
 exact(b.ids.symm).cons _
theorem Zhh{most most' k k':Nat}{hs hs':List Hq}{X:List Int}{L:List Bool}(b:Ze most k hs X L){i:Nat}(hi:i<L.length)(e:L[i]=true)(b':Ze most' k' hs' X (gvL L (i:Int))):(Z4 hs).Perm ((i:Int)::Z4 hs'):=by
 have hg:gvL L (i:Int)=L.set i false:=Z42 L i (by rw[Yc hi];exact e)
 rw[hg] at b'
 refine(List.perm_append_right_iff X).1 (b.ids.trans ?_)
 rw[List.cons_append]
 exact(Z9u hi e).symm.trans ((b'.ids.symm).cons _)
theorem Z4t(R:Rq)(w:World):Calls prog 91 #[rqV R] w fun e w'=>e=.returned (.bool (R.md != 0))∧Nw w w':=by
 obtain⟨a,b,m,n,s⟩:=R
 unfold rqV
 go_enter func91,ntmps91
 go_wp2
 go_ret
 exact⟨rfl,(Nw.refl _).alloc _⟩
theorem Z4u(R:Rq)(w:World):Calls prog 86 #[rqV R] w fun e w'=>e=.returned (.bool (decide (0<R.sn)))∧Nw w w':=by
 obtain⟨a,b,m,n,s⟩:=R
 unfold rqV
 go_enter func86,ntmps86
 go_wp2
 go_ret
 exact⟨rfl,(Nw.refl _).alloc _⟩
theorem Zo1(m:Int)(w:World):Calls prog 108 #[.int .i64 m] w fun e w'=>e=.returned (.bool (Zq m))∧Nw w w':=by
 by_cases h:0≤m∧m<7
 ·refine(Z18 m w h.1 h.2).mono ?_
  rintro e w' ⟨rfl,rfl⟩
  exact⟨by rw[(V2 m).2 h],Nw.refl _⟩
 ·refine(Z9p m w (by omega)).mono ?_
  rintro e w' ⟨rfl,rfl⟩
  have:Zq m=false:=by
   cases e:Zq m with
   | false=>rfl
   | true=>exact absurd ((V2 m).1 e) h
  exact⟨by rw[this],Nw.refl _⟩
theorem Z69(m:Int)(w:World):Calls prog 77 #[.int .i64 m] w fun e w'=>e=.returned (.bool ((m != 0)&&Zq m))∧Nw w w':=by
 cases h:(m != 0) with
 | false =>
  go_enter func77,ntmps77
  go_wp2
  go_ret
  exact⟨rfl,Nw.refl _⟩
 | true =>
  have HK:=hD0 (Zo1 m)
  go_enter func77,ntmps77
  go_wp2_with (go_at_call 108;refine(HK.out _).mono ?_;rintro e w' ⟨rfl,hN⟩)
  go_ret
  exact⟨rfl,hN⟩
def Zn(w:World)(f:Value)(p:Rq→Bool):Prop:=∃(g:Nat) (lb:Array Value),f=.func (.func g) #[] lb∧(∀args w,(callFunc g args).run prog w=.ok (.enter g args) w)∧∀(R:Rq) (w1:World),Nw w w1→Calls prog g (#[rqV R]++lb) w1 fun e w'=>e=.returned (.bool (p R))∧Nw w1 w'
theorem Zn.nw{w w':World}{f:Value}{p:Rq→Bool}(h:Zn w f p)(g:Nw w w'):Zn w' f p:=by
 obtain⟨k,lb,e,eg,hc⟩:=h
 exact⟨k,lb,e,eg,fun R w1 h1=>hc R w1 (g.trans h1)⟩
theorem Zgh(i:Int)(R:Rq)(p:Nat)(w:World)(h:w.cell? ⟨p,0,none⟩=some (.int .i64 i)):Calls prog 110 #[rqV R,.pointer (some ⟨p,0,none⟩)] w fun e w'=>e=.returned (.bool (R.id==i))∧Nw w w':=by
 obtain⟨a,b,m,n,s⟩:=R
 unfold rqV
 have hp:=World.block_lt_of_cell? _ _ h
 go_enter func110,ntmps110
 go_wp2
 go_ret
 exact⟨rfl,(Nw.refl _).alloc _⟩
theorem Zkh(i:Int)(R:Rq)(p:Nat)(w:World)(h:w.cell? ⟨p,0,none⟩=some (.int .i64 i)):Calls prog 111 #[rqV R,.pointer (some ⟨p,0,none⟩)] w fun e w'=>e=.returned (.bool (R.txn==i))∧Nw w w':=by
 obtain⟨a,b,m,n,s⟩:=R
 unfold rqV
 have hp:=World.block_lt_of_cell? _ _ h
 go_enter func111,ntmps111
 go_wp2
 go_ret
 exact⟨rfl,(Nw.refl _).alloc _⟩
theorem Z14(i:Int)(w:World):Calls prog 79 #[.int .i64 i] w fun e w'=>∃p,e=.returned (.func (.func 110) #[] #[.pointer (some ⟨p,0,none⟩)])∧Nw w w'∧w'.cell? ⟨p,0,none⟩=some (.int .i64 i):=by
 go_enter func79,ntmps79
 go_wp2
 go_ret
 exact⟨_,rfl,(Nw.refl _).alloc _,Z0 (Z2 w _)⟩
theorem Zge(i:Int)(w:World):Calls prog 80 #[.int .i64 i] w fun e w'=>∃p,e=.returned (.func (.func 111) #[] #[.pointer (some ⟨p,0,none⟩)])∧Nw w w'∧w'.cell? ⟨p,0,none⟩=some (.int .i64 i):=by
 go_enter func80,ntmps80
 go_wp2
 go_ret
 exact⟨_,rfl,(Nw.refl _).alloc _,Z0 (Z2 w _)⟩
theorem Zn.withID{w:World}{i:Int}{p:Nat}(h:w.cell? ⟨p,0,none⟩=some (.int .i64 i)):Zn w (.func (.func 110) #[] #[.pointer (some ⟨p,0,none⟩)]) (fun R=>R.id==i) :=
 ⟨_,_,rfl,enters_of func110 (by kernel_rfl) rfl,fun R w1 g=>Zgh i R p w1 (g.kp h)⟩
theorem Zn.ofTxn{w:World}{i:Int}{p:Nat}(h:w.cell? ⟨p,0,none⟩=some (.int .i64 i)):Zn w (.func (.func 111) #[] #[.pointer (some ⟨p,0,none⟩)]) (fun R=>R.txn==i) :=
 ⟨_,_,rfl,enters_of func111 (by kernel_rfl) rfl,fun R w1 g=>Zkh i R p w1 (g.kp h)⟩
end Go.Proofs.YtfepoibfbmehiaaGreatDoor
