/- Texts merged: WcQ, WdA, WdC -/
import Derived.Test.YtobnolgphljoeaaWaitsCyclesB7
import Derived.Lib.SliceRun
import Derived.Deep.Upon
import Derived.ChangeOld
import Derived.Below
import Derived.Deep.Slices
set_option linter.unusedVariables false
set_option maxRecDepth 100000
set_option maxHeartbeats 16000000
namespace Go.Proofs.Ytobnolgphljoeaa
open Go.RowKit _root_.Go.Proofs.Try
abbrev Z3s(p:(Int × Int)→Bool)(l:List (Int × Int)):List (Int × Int):=l.filter fun s=>!p s
structure Z4g(p:(Int × Int)→Bool)(w wr:World)(g0 g n cap a b:Nat)(l R:List (Int × Int)):Prop where
 ab:a<b
 bn:b≤l.length
 len:R.length=l.length
 front:R.take a=Z3s p (l.take b)
 rest:R.drop b=l.drop b
 row:Y4 wr g0 (.slice (some ⟨g,0,none⟩) n cap) R
 tch:Zf (fun k=>k=g) w wr
section
variable {p:(Int × Int)→Bool} {w wr wr':World} {g0 g n cap a b:Nat} {l R:List (Int × Int)}
end
section
open Go.ChangeShapes Go.WideShapes Go.ChangeAt Go.RowKit
theorem Z1h{n:Int}(h:(Lit.int .i64 n).wf=true):Z8 n:=by
 simp[Lit.wf,IntKind.min,IntKind.max,IntKind.signed,IntKind.bits] at h
 unfold Z8
 omega
structure EgIn(w:World)(a:Option Addr)(len cap:Nat)(l:List (Int × Int)):Prop where
 hl:l.length=len
 rd:Yc w (.slice a len cap) l
 hc:len≤cap
 fit:∀e∈l,Z8 e.1∧Z8 e.2
theorem EgIn.nw{w w':World}{a:Option Addr}{len cap:Nat}{l:List (Int × Int)}(h:EgIn w a len cap l)(g:Nw w w'):EgIn w' a len cap l:=⟨h.hl,h.rd.nw g,h.hc,h.fit⟩
theorem open_edges{H:Type}{enc:TypeId × Value→H}{W:World}{base fuel:Nat}{held:Bool}{a:Option Addr}{len cap:Nat}{x:DataW H × List MemPlace}(h:DataW.trod enc prog W base (fun _=>true) held fuel 22 (Value.slice a len cap).cells.toList=some x) :
  ∃l,EgIn W a len cap l:=by
 rcases Deep.open_slice underlying22 h with h0 | ⟨ad,len',cap',m,n,D,Pl,hcs,hb,hl,hm,hmm,_,hx⟩
 ·have h1:=h0.1
  simp[Value.cells] at h1
  obtain⟨rfl,rfl,rfl⟩:=h1
  exact⟨[],rfl,Rd.nil W,Nat.le_refl _,by simp⟩
 ·simp[Value.cells] at hcs
  obtain⟨rfl,rfl,rfl⟩:=hcs
  simp only[if_true] at hmm
  subst hmm
  have ce:prog.cellsOf 30=2:=by kernel_rfl
  have ci:prog.cellsOf 3=1:=by kernel_rfl
  have each:∀i,i<m→∃q:Int × Int,W.cell? (ad.add (i*2))=some (.int .i64 q.1)∧W.cell? (ad.add (i*2+1))=some (.int .i64 q.2)∧Z8 q.1∧Z8 q.2:=by
   intro i hi
   obtain⟨cs',h1,h2⟩:=hx i hi
   rw[ce] at h1
   obtain⟨_,hlen,Z7⟩:=World.cells?_some h1
   obtain⟨xs,k,hk,hxy,_,hxl,hf⟩:=DataW.trod_struct underlying30 h2
   match xs,hxl,cs',hlen with
   | [y0,y1],_,[v0,v1],_ =>
    have g0:=hf 0 _ rfl
    have g1:=hf 1 _ rfl
    simp[ci] at g0 g1
    obtain⟨n0,e0,_,u0⟩:=DataW.trod_int underlying3 g0
    obtain⟨n1,e1,_,u1⟩:=DataW.trod_int underlying3 g1
    simp only[List.cons.injEq,and_true] at e0 e1
    subst e0 e1
    have c0:=Z7 0 (by omega)
    have c1:=Z7 1 (by omega)
    rw[Deep.add_add] at c0 c1
    exact⟨(n0,n1),by simpa using c0,by simpa using c1,Z1h u0,Z1h u1⟩
  obtain⟨q,hq⟩:=Deep.choose_lt each
  have hL:((List.range len).map q).length=len:=by simp
  refine⟨(List.range len).map q,hL,?_,hl,fun e he=>?_⟩
  ·by_cases h0:len=0
   ·subst h0
    exact⟨some ad,m,rfl,.inl ⟨rfl,fun e=>by cases e⟩⟩
   ·obtain⟨b,o,spot⟩:=ad
    have hs:spot=none:=by simpa [Addr.add] using World.cell?_spot (hq 0 (by omega)).1
    subst hs
    refine⟨_,m,by rw[hL],.inr ⟨b,o,rfl,⟨World.block_lt_of_cell? _ _ (hq 0 (by omega)).1,fun i hi c u hu=>?_⟩⟩⟩
    rw[hL] at hi
    obtain⟨q0,q1,_⟩:=hq i (by omega)
    simp only[List.getElem_map,List.getElem_range] at hu
    rw[Addr.add_lit] at q0 q1
    match c,hu with
    | 0,hu=>simp[Y1] at hu;subst hu;simpa using q0
    | 1,hu=>simp[Y1] at hu;subst hu;simpa [Nat.add_assoc] using q1
  ·obtain⟨i,hi,rfl⟩:=List.mem_map.1 he
   exact(hq i (by have:=List.mem_range.1 hi;omega)).2.2
abbrev exE:List (Int × Int):=[(1,2),(2,3),(3,1),(2,1)]
theorem Z2h:Yq exE [1,2] true:=by
 have m12:((1:Int),(2:Int))∈exE:=by simp
 have m21:((2:Int),(1:Int))∈exE:=by simp
 have r11:Y0 exE 1 1:=.tail (.single m12) m21
 have f21:Far exE 2 1 1:=⟨.one m21,fun m w=>U8 w⟩
 refine⟨⟨fun _=>⟨1,r11⟩,fun _=>rfl⟩,(fun h=>nomatch h),fun _=>⟨1,[2],rfl,r11,fun v r=>?_,⟨.step m12 (.one m21),fun m w=>?_⟩,.step m12 f21 (fun y hy _=>?_) (.last m21)⟩⟩
 ·obtain⟨y,hy⟩:=Vc r
  simp at hy
  omega
 ·have:=U8 w
  cases w with
  | one k=>simp at k
  | step _ k=>have:=U8 k;simp only[List.length_cons,List.length_nil];omega
 ·simp at hy
  show(2:Int)≤y
  omega
theorem Z2i:∀e∈exE,Z8 e.1∧Z8 e.2:=by
 intro e he
 unfold Z8
 simp at he
 rcases he with rfl | rfl | rfl | rfl<;>simp
theorem Z18(w:World):Calls prog 7 #[] w fun e w'=>e=.returned (.bool true)∧Nw w w':=by
 have hal:=Z9 w (.cells #[.int .i64 1,.int .i64 2,.int .i64 2,.int .i64 3,.int .i64 3,.int .i64 1,.int .i64 2,.int .i64 1] 30)
 have g1:Nw w (w.alloc (.cells #[.int .i64 1,.int .i64 2,.int .i64 2,.int .i64 3,.int .i64 3,.int .i64 1,.int .i64 2,.int .i64 1] 30)):=(Nw.refl w).alloc _
 obtain⟨w1,hw1⟩:∃x,w.alloc (.cells #[.int .i64 1,.int .i64 2,.int .i64 2,.int .i64 3,.int .i64 3,.int .i64 1,.int .i64 2,.int .i64 1] 30)=x:=⟨_,rfl⟩
 have HW1:=hD0 hw1
 rw[hw1] at hal g1
 have hE:Yc w1 (.slice (some ⟨w.heap.size,0,none⟩) 4 4) exE:=Z1s (row:=Y1) (sz:=2) (fun _=>rfl) (l:=exE) hal 4
 have HC:=hD0 (Vs hE (by decide) Z2i)
 have HG:=hD0 g1
 clear hw1 hal g1 hE
 go_enter func7,ntmps7
 go_wp2_with fail
 rw[HW1.out]
 refine HC.out.mono ?_
 rintro e w2 ⟨v2,c,b,rfl,hI,hP,g2⟩
 obtain⟨rfl,rfl⟩:=Z0w hP Z2h
 have HI:=hD0 hI
 have g3:Nw w2 (w2.alloc (.cells #[.int .i64 1,.int .i64 2] 3)):=(Nw.refl w2).alloc _
 have hL:IS (w2.alloc (.cells #[.int .i64 1,.int .i64 2] 3)) (.slice (some ⟨w2.heap.size,0,none⟩) 2 2) [1,2]:=by
  have:=World.ownsRow_lit (base:=0) (size:=1) (e:=3) w2 #[.int .i64 1,.int .i64 2] 2 (Nat.zero_le _) (by decide) (by simp)
  simpa [IS] using this
 have HS:=hD0 (Z1v _ v2 (.slice (some ⟨w2.heap.size,0,none⟩) 2 2) [1,2] (hI.nw g3) hL)
 have HG2:=hD0 ((HG.out.trans g2).trans g3)
 clear hI hP g2 g3 hL HC
 go_wp2_with fail
 refine HS.out.mono ?_
 rintro e w3 ⟨rfl,g3⟩
 have HZ:=hD0 (HG2.out.trans g3)
 clear g3
 go_wp2
 go_ret
 exact⟨rfl,HZ.out⟩
end
theorem Z1t{l:List (Int × Int)}{a:Int}{out:List Int}(h:Z32 l a out):out.length≤l.length:=by
 have hnd:out.Nodup:=h.1.imp (fun {a b} q=>by omega)
 have:=Ym (m:=l.map Prod.snd) hnd fun y hy=>by
  obtain⟨x,hx⟩:=Z1r ((h.2 y).1 hy)
  exact List.mem_map.2 ⟨_,hx,rfl⟩
 simpa using this
theorem V8{w:World}{g n cap:Nat}{l:List Int}(h:IS w (.slice (some ⟨g,0,none⟩) n cap) l){i:Nat}(hi:i<l.length):w.cell? ⟨g,i,none⟩=some (.int .i64 l[i]):=by
 rw[h.cell i hi,List.getD_eq_getElem?_getD,List.getElem?_eq_getElem hi];rfl
end Go.Proofs.Ytobnolgphljoeaa
