/- Texts merged: VaK, WoE, VaO, VaR, VaF, QuU, WdK, VaJ -/
import Derived.Test.YtbnpnccpobkodaaGreatVictimCallsB13
set_option linter.unusedVariables false
set_option maxRecDepth 100000
set_option maxHeartbeats 16000000
namespace Go.Proofs.YtbnpnccpobkodaaGreat
open Go.RowKit _root_.Go.Proofs.Tryz
theorem Z2p{l:List Hv}(hl:l.length≤6)(h:∀x∈l,x.h.q.length≤12)(n:Nat):(Vk l n).length≤900:=by
 have h1:=Vs (fun x:Hv=>Vg x.h.q x.h.q.length) 144 (l.take n) fun x hx=>Z02 (h x (List.mem_of_mem_take hx)) _
 have h2:(l.take n).length≤6:=Nat.le_trans (by rw[List.length_take];omega) hl
 unfold Vk
 omega
theorem Z4u{l:List Hv}(ho:∀x∈l,Ok x.h.W x.h.q)(hf:∀x∈l,∀R∈x.h.q,Z2f R):∀e∈sortE (Vk l l.length),Z8 e.1∧Z8 e.2:=by
 intro e he
 rw[V2] at he
 unfold Vk at he
 rw[List.take_of_length_le (Nat.le_refl _)] at he
 obtain⟨x,hx,he⟩:=List.mem_flatMap.1 he
 obtain⟨R,hR,_,e1,o,ho',_,_,e2⟩:=(Z8r (ho x hx) e).1 he
 refine⟨?_,?_⟩
 ·rw[e1];exact(hf x hx R hR).2.1
 ·rw[←e2];exact(hf x hx o ho').2.1
theorem Z9l{w0:World}{v va:Value}{hs:List Hv}{ages:List (Int × Int)}(h:Rd 4 Vu w0 v hs)(hx:∀x∈hs,Z2h w0 x)(hf:∀x∈hs,∀R∈x.h.q,Z2f R)(hl:hs.length≤6)(ha:Zk w0 va ages)(hal:ages.length≤1000)(hfa:∀e∈ages,Z8 e.1) :
  Calls prog 16 #[v,va] w0 fun e w'=>∃v' vs,e=.returned v'∧U5 w' w0.heap.size v' vs∧Vic ages (sortE (Vk hs hs.length)) vs∧Nw w0 w':=by
 have HE:=hD0 (Z5p h hx (Nat.le_trans hl (by decide)))
 have HA:=hD0 (aI0 ha hal)
 have HF:=hD0 (aI0 (Z4u (fun x hx'=>(hx x hx').ok) hf) (show(sortE (Vk hs hs.length)).length≤900 from Nat.le_trans (V1 _) (Z2p hl (fun x hx'=>(hx x hx').len) _)))
 obtain⟨la,lc,rfl,_⟩:=h
 obtain⟨ga,gc,rfl,_⟩:=ha
 go_enter func16,ntmps16
 go_wp2_with fail
 refine HE.out.mono ?_
 rintro e w1 ⟨v1,rfl,hO1,g1⟩
 have HV:=hD0 (Ui (Z9.at_ hO1) HF.out.2 HF.out.1 (HA.out.1.nw g1) HA.out.2 hfa)
 have HG1:=hD0 g1
 clear hO1 g1 HE
 go_wp2_with fail
 refine HV.out.mono ?_
 rintro e w2 ⟨v2,vs,rfl,hI,hV,g2⟩
 have HR:=hD0 (aI0 (show U5 w2 w0.heap.size v2 vs from Us hI (fun b e=>Nat.le_trans HG1.out.sz (Va hI e))) (aI0 hV (HG1.out.trans g2)))
 clear hI hV g2 HV
 go_wp2_with fail
 go_ret
 exact⟨_,vs,rfl,HR.out.1,HR.out.2.1,HR.out.2.2⟩
theorem Z9d{w0:World}{v va:Value}{hs:List Hv}{ages:List (Int × Int)}(h:Rd 4 Vu w0 v hs)(hx:∀x∈hs,Z2h w0 x)(hf:∀x∈hs,∀R∈x.h.q,Z2f R)(hl:hs.length≤6)(ha:Zk w0 va ages)(hal:ages.length≤1000) :
  Calls prog 17 #[v,va] w0 fun e w'=>∃v' vs,e=.returned v'∧U5 w' w0.heap.size v' vs∧Vic ages (sortE (Vk hs hs.length)) vs∧Nw w0 w':=by
 have HE:=hD0 (Z4c h hx (Nat.le_trans hl (by decide)))
 have HA:=hD0 (aI0 ha hal)
 have HF:=hD0 (aI0 (Z4u (fun x hx'=>(hx x hx').ok) hf) (show(sortE (Vk hs hs.length)).length≤900 from Nat.le_trans (V1 _) (Z2p hl (fun x hx'=>(hx x hx').len) _)))
 obtain⟨la,lc,rfl,_⟩:=h
 obtain⟨ga,gc,rfl,_⟩:=ha
 go_enter func17,ntmps17
 go_wp2_with fail
 refine HE.out.mono ?_
 rintro e w1 ⟨v1,rfl,hO1,g1⟩
 have HV:=hD0 (Z1j (Z9.at_ hO1) HF.out.2 HF.out.1 (HA.out.1.nw g1) HA.out.2)
 have HG1:=hD0 g1
 clear hO1 g1 HE
 go_wp2_with fail
 refine HV.out.mono ?_
 rintro e w2 ⟨v2,vs,rfl,hI,hV,g2⟩
 have HR:=hD0 (aI0 (show U5 w2 w0.heap.size v2 vs from Us hI (fun b e=>Nat.le_trans HG1.out.sz (Va hI e))) (aI0 hV (HG1.out.trans g2)))
 clear hI hV g2 HV
 go_wp2_with fail
 go_ret
 exact⟨_,vs,rfl,HR.out.1,HR.out.2.1,HR.out.2.2⟩
section
open Go.ChangeShapes Go.WideShapes Go.ChangeAt Go.RowKit
theorem Z0f{n:Int}(h:(Lit.int .i64 n).wf=true):Z8 n:=by
 simp[Lit.wf,IntKind.min,IntKind.max,IntKind.signed,IntKind.bits] at h
 unfold Z8
 omega
structure EgIn(w:World)(a:Option Addr)(len cap:Nat)(l:List (Int × Int)):Prop where
 hl:l.length=len
 rd:Zk w (.slice a len cap) l
 hc:len≤cap
 fit:∀e∈l,Z8 e.1∧Z8 e.2
theorem open_edges{H:Type}{enc:TypeId × Value→H}{W:World}{base fuel:Nat}{held:Bool}{a:Option Addr}{len cap:Nat}{x:DataW H × List MemPlace}(h:DataW.trod enc prog W base (fun _=>true) held fuel 22 (Value.slice a len cap).cells.toList=some x) :
  ∃l,EgIn W a len cap l:=by
 rcases Deep.open_slice underlying22 h with h0 | ⟨ad,len',cap',m,n,D,Pl,hcs,hb,hl,hm,hmm,_,hx⟩
 ·have h1:=h0.1
  simp[Value.cells] at h1
  obtain⟨rfl,rfl,rfl⟩:=h1
  exact⟨[],rfl,Rd.nil W,Nat.le_refl _,by simp⟩
 ·simp[Value.cells] at hcs
  obtain⟨rfl,rfl,rfl⟩:=hcs
  simp only[if_true] at hmm
  subst hmm
  have ce:prog.cellsOf 36=2:=by kernel_rfl
  have ci:prog.cellsOf 3=1:=by kernel_rfl
  have each:∀i,i<m→∃q:Int × Int,W.cell? (ad.add (i*2))=some (.int .i64 q.1)∧W.cell? (ad.add (i*2+1))=some (.int .i64 q.2)∧Z8 q.1∧Z8 q.2:=by
   intro i hi
   obtain⟨cs',h1,h2⟩:=hx i hi
   rw[ce] at h1
   obtain⟨_,hlen,Z2⟩:=World.cells?_some h1
   obtain⟨xs,k,hk,hxy,_,hxl,hf⟩:=DataW.trod_struct underlying36 h2
   match xs,hxl,cs',hlen with
   | [y0,y1],_,[v0,v1],_ =>
    have g0:=hf 0 _ rfl
    have g1:=hf 1 _ rfl
    simp[ci] at g0 g1
    obtain⟨n0,e0,_,u0⟩:=DataW.trod_int underlying3 g0
    obtain⟨n1,e1,_,u1⟩:=DataW.trod_int underlying3 g1
    simp only[List.cons.injEq,and_true] at e0 e1
    subst e0 e1
    have c0:=Z2 0 (by omega)
    have c1:=Z2 1 (by omega)
    rw[Deep.add_add] at c0 c1
    exact⟨(n0,n1),by simpa using c0,by simpa using c1,Z0f u0,Z0f u1⟩
  obtain⟨q,hq⟩:=Deep.choose_lt each
  have hL:((List.range len).map q).length=len:=by simp
  refine⟨(List.range len).map q,hL,?_,hl,fun e he=>?_⟩
  ·by_cases h0:len=0
   ·subst h0
    exact⟨some ad,m,rfl,.inl ⟨rfl,fun e=>by cases e⟩⟩
   ·obtain⟨b,o,spot⟩:=ad
    have hs:spot=none:=by simpa [Addr.add] using World.cell?_spot (hq 0 (by omega)).1
    subst hs
    refine⟨_,m,by rw[hL],.inr ⟨b,o,rfl,⟨World.block_lt_of_cell? _ _ (hq 0 (by omega)).1,fun i hi c u hu=>?_⟩⟩⟩
    rw[hL] at hi
    obtain⟨q0,q1,_⟩:=hq i (by omega)
    simp only[List.getElem_map,List.getElem_range] at hu
    rw[Addr.add_lit] at q0 q1
    match c,hu with
    | 0,hu=>simp[Zc] at hu;subst hu;simpa using q0
    | 1,hu=>simp[Zc] at hu;subst hu;simpa [Nat.add_assoc] using q1
  ·obtain⟨i,hi,rfl⟩:=List.mem_map.1 he
   exact(hq i (by have:=List.mem_range.1 hi;omega)).2.2
end
section
open Go.ChangeShapes Go.WideShapes Go.ChangeAt Go.RowKit
structure AgIn(w:World)(a:Option Addr)(len cap:Nat)(l:List (Int × Int)):Prop where
 hl:l.length=len
 rd:Zk w (.slice a len cap) l
 hc:len≤cap
 fit:∀e∈l,Z8 e.1∧Z8 e.2
theorem open_ages{H:Type}{enc:TypeId × Value→H}{W:World}{base fuel:Nat}{held:Bool}{a:Option Addr}{len cap:Nat}{x:DataW H × List MemPlace}(h:DataW.trod enc prog W base (fun _=>true) held fuel 23 (Value.slice a len cap).cells.toList=some x) :
  ∃l,AgIn W a len cap l:=by
 rcases Deep.open_slice underlying23 h with h0 | ⟨ad,len',cap',m,n,D,Pl,hcs,hb,hl,hm,hmm,_,hx⟩
 ·have h1:=h0.1
  simp[Value.cells] at h1
  obtain⟨rfl,rfl,rfl⟩:=h1
  exact⟨[],rfl,Rd.nil W,Nat.le_refl _,by simp⟩
 ·simp[Value.cells] at hcs
  obtain⟨rfl,rfl,rfl⟩:=hcs
  simp only[if_true] at hmm
  subst hmm
  have ce:prog.cellsOf 47=2:=by kernel_rfl
  have ci:prog.cellsOf 3=1:=by kernel_rfl
  have ci64:prog.cellsOf 2=1:=by kernel_rfl
  have each:∀i,i<m→∃q:Int × Int,W.cell? (ad.add (i*2))=some (.int .i64 q.1)∧W.cell? (ad.add (i*2+1))=some (.int .i64 q.2)∧Z8 q.1∧Z8 q.2:=by
   intro i hi
   obtain⟨cs',h1,h2⟩:=hx i hi
   rw[ce] at h1
   obtain⟨_,hlen,Z2⟩:=World.cells?_some h1
   obtain⟨xs,k,hk,hxy,_,hxl,hf⟩:=DataW.trod_struct underlying47 h2
   match xs,hxl,cs',hlen with
   | [y0,y1],_,[v0,v1],_ =>
    have g0:=hf 0 _ rfl
    have g1:=hf 1 _ rfl
    simp[ci,ci64] at g0 g1
    obtain⟨n0,e0,_,u0⟩:=DataW.trod_int underlying3 g0
    obtain⟨n1,e1,_,u1⟩:=DataW.trod_int underlying2 g1
    simp only[List.cons.injEq,and_true] at e0 e1
    subst e0 e1
    have c0:=Z2 0 (by omega)
    have c1:=Z2 1 (by omega)
    rw[Deep.add_add] at c0 c1
    exact⟨(n0,n1),by simpa using c0,by simpa using c1,Z0f u0,Z0f u1⟩
  obtain⟨q,hq⟩:=Deep.choose_lt each
  have hL:((List.range len).map q).length=len:=by simp
  refine⟨(List.range len).map q,hL,?_,hl,fun e he=>?_⟩
  ·by_cases h0:len=0
   ·subst h0
    exact⟨some ad,m,rfl,.inl ⟨rfl,fun e=>by cases e⟩⟩
   ·obtain⟨b,o,spot⟩:=ad
    have hs:spot=none:=by simpa [Addr.add] using World.cell?_spot (hq 0 (by omega)).1
    subst hs
    refine⟨_,m,by rw[hL],.inr ⟨b,o,rfl,⟨World.block_lt_of_cell? _ _ (hq 0 (by omega)).1,fun i hi c u hu=>?_⟩⟩⟩
    rw[hL] at hi
    obtain⟨q0,q1,_⟩:=hq i (by omega)
    simp only[List.getElem_map,List.getElem_range] at hu
    rw[Addr.add_lit] at q0 q1
    match c,hu with
    | 0,hu=>simp[Zc] at hu;subst hu;simpa using q0
    | 1,hu=>simp[Zc] at hu;subst hu;simpa [Nat.add_assoc] using q1
  ·obtain⟨i,hi,rfl⟩:=List.mem_map.1 he
   exact(hq i (by have:=List.mem_range.1 hi;omega)).2.2
structure NmIn(w:World)(a:Option Addr)(len cap:Nat)(l:List Int):Prop where
 hl:l.length=len
 rd:Vn w (.slice a len cap) l
 hc:len≤cap
 fit:∀e∈l,Z8 e
theorem open_nums{H:Type}{enc:TypeId × Value→H}{W:World}{base fuel:Nat}{held:Bool}{a:Option Addr}{len cap:Nat}{x:DataW H × List MemPlace}(h:DataW.trod enc prog W base (fun _=>true) held fuel 24 (Value.slice a len cap).cells.toList=some x) :
  ∃l,NmIn W a len cap l:=by
 rcases Deep.open_slice underlying24 h with h0 | ⟨ad,len',cap',m,n,D,Pl,hcs,hb,hl,hm,hmm,_,hx⟩
 ·have h1:=h0.1
  simp[Value.cells] at h1
  obtain⟨rfl,rfl,rfl⟩:=h1
  exact⟨[],rfl,Rd.nil W,Nat.le_refl _,by simp⟩
 ·simp[Value.cells] at hcs
  obtain⟨rfl,rfl,rfl⟩:=hcs
  simp only[if_true] at hmm
  subst hmm
  have ci:prog.cellsOf 3=1:=by kernel_rfl
  have each:∀i,i<m→∃q:Int,W.cell? (ad.add i)=some (.int .i64 q)∧Z8 q:=by
   intro i hi
   obtain⟨cs',h1,h2⟩:=hx i hi
   rw[ci,Nat.mul_one] at h1
   obtain⟨_,hlen,Z2⟩:=World.cells?_some h1
   match cs',hlen with
   | [v0],_ =>
    obtain⟨n0,e0,_,u0⟩:=DataW.trod_int underlying3 h2
    simp only[List.cons.injEq,and_true] at e0
    subst e0
    have c0:=Z2 0 (by omega)
    rw[Deep.add_add] at c0
    exact⟨n0,by simpa using c0,Z0f u0⟩
  obtain⟨q,hq⟩:=Deep.choose_lt each
  have hL:((List.range len).map q).length=len:=by simp
  refine⟨(List.range len).map q,hL,?_,hl,fun e he=>?_⟩
  ·by_cases h0:len=0
   ·subst h0
    exact⟨some ad,m,rfl,.inl ⟨rfl,fun e=>by cases e⟩⟩
   ·obtain⟨b,o,spot⟩:=ad
    have hs:spot=none:=by simpa [Addr.add] using World.cell?_spot (hq 0 (by omega)).1
    subst hs
    refine⟨_,m,by rw[hL],.inr ⟨b,o,rfl,⟨World.block_lt_of_cell? _ _ (hq 0 (by omega)).1,fun i hi c u hu=>?_⟩⟩⟩
    rw[hL] at hi
    obtain⟨q0,_⟩:=hq i (by omega)
    simp only[List.getElem_map,List.getElem_range] at hu
    rw[Addr.add_lit] at q0
    match c,hu with
    | 0,hu=>simp[Y7] at hu;subst hu;simpa using q0
  ·obtain⟨i,hi,rfl⟩:=List.mem_map.1 he
   exact(hq i (by have:=List.mem_range.1 hi;omega)).2
structure Zc9(w:World)(a:Option Addr)(len cap:Nat)(l:List Int):Prop where
 hl:l.length=len
 rd:Vn w (.slice a len cap) l
 hc:len≤cap
 fit:∀e∈l,Z8 e
theorem Zbg(v:Value)(q:List Int)(w:World)(hl:q.length≤100000)(h:Vn w v q) :
  Calls prog 7 #[v] w fun e w'=>∃v',e=.returned v'∧Nw w w'∧U5 w' w.heap.size v' q:=by
 obtain⟨v',w1,hrun,hO,hN⟩:=Yp Yc h hl
 obtain⟨a,c,rfl,h⟩:=h
 have HR:=hD0 hrun
 have HO:=hD0 (aI0 hN hO)
 clear hrun hO hN h
 go_enter func7,ntmps7
 go_wp2_with (at_builtin;refine Z6 (by rfl) (.tmp 3) (.tmp 4) 24 rfl _ _ _ _ rfl rfl HR.out ?_)
 go_ret
 exact⟨_,rfl,HO.out.1,HO.out.2⟩
end
structure Zb2(l:List (Int × Int))(n:Nat):Prop where
 pos:0<n
 low:n≤12
 has:∀i:Nat,i<n→((i:Int),(((i+1)%n:Nat):Int))∈l
 only:∀x y,(x,y)∈l→(∃i:Nat,i<n∧x=i∧y=((i+1)%n:Nat))∨(x=100∧∃j:Nat,j<n∧y=j)
section
variable {l:List (Int × Int)} {n:Nat} (h:Zb2 l n)
include h
end
abbrev vxE:List (Int × Int):=[(1,2),(2,1)]
abbrev vxA:List (Int × Int):=[(1,5),(2,3)]
theorem Z9n:Yl vxE [1,2] true:=by
 have m12:((1:Int),(2:Int))∈vxE:=by simp
 have m21:((2:Int),(1:Int))∈vxE:=by simp
 have r11:Yk vxE 1 1:=.tail (.single m12) m21
 have f21:Vj vxE 2 1 1:=⟨.one m21,fun m w=>Yu w⟩
 refine⟨⟨fun _=>⟨1,r11⟩,fun _=>rfl⟩,(fun h=>nomatch h),fun _=>⟨1,[2],rfl,r11,fun v r=>?_,⟨.step m12 (.one m21),fun m w=>?_⟩,.step m12 f21 (fun y hy _=>?_) (.last m21)⟩⟩
 ·obtain⟨y,hy⟩:=Yz r
  simp at hy
  omega
 ·have:=Yu w
  cases w with
  | one k=>simp at k
  | step _ k=>have:=Yu k;simp only[List.length_cons,List.length_nil];omega
 ·simp at hy
  show(2:Int)≤y
  omega
theorem Z84:Yl [] [] false:=Z1t (fun⟨x,r⟩=>by
 obtain⟨y,hy⟩:=Yz r
 cases hy)
theorem Zb0:Vic vxA vxE [1]:=by
 have e:Ze vxA 1 [2]=1:=by kernel_rfl
 have d:Zj vxE 1=[]:=by kernel_rfl
 have:=Vic.step (ages:=vxA) Z9n (vs:=[]) (by rw[e,d];exact .done Z84)
 rwa [e] at this
theorem Z9o:∀e∈vxE,Z8 e.1∧Z8 e.2:=by
 intro e he
 unfold Z8
 simp at he
 rcases he with rfl | rfl<;>simp
theorem Z9m:∀e∈vxA,Z8 e.1:=by
 intro e he
 unfold Z8
 simp at he
 rcases he with rfl | rfl<;>simp
theorem Zbe(w:World)(x:Int):IS (w.alloc (.cells #[.int .i64 x] 3)) (.slice (some ⟨w.heap.size,0,none⟩) 1 1) [x]:=by
 have h:=World.ownsRow_lit (base:=0) (size:=1) (e:=3) w #[.int .i64 x] 1 (Nat.zero_le _) (by unfold maxLen;omega) (by simp)
 unfold IS
 simpa using h
theorem Z6d(w:World):Calls prog 4 #[] w fun e w'=>e=.returned (.bool true)∧Nw w w':=by
 have hal:=Z4 w (.cells #[.int .i64 1,.int .i64 2,.int .i64 2,.int .i64 1] 36)
 have g1:Nw w (w.alloc (.cells #[.int .i64 1,.int .i64 2,.int .i64 2,.int .i64 1] 36)):=(Nw.refl w).alloc _
 obtain⟨w1,hw1⟩:∃x,w.alloc (.cells #[.int .i64 1,.int .i64 2,.int .i64 2,.int .i64 1] 36)=x:=⟨_,rfl⟩
 rw[hw1] at hal g1
 have hal2:=Z4 w1 (.cells #[.int .i64 1,.int .i64 5,.int .i64 2,.int .i64 3] 47)
 have g2:Nw w1 (w1.alloc (.cells #[.int .i64 1,.int .i64 5,.int .i64 2,.int .i64 3] 47)):=(Nw.refl w1).alloc _
 obtain⟨w2,hw2⟩:∃x,w1.alloc (.cells #[.int .i64 1,.int .i64 5,.int .i64 2,.int .i64 3] 47)=x:=⟨_,rfl⟩
 rw[hw2] at hal2 g2
 obtain⟨B1,hB1⟩:∃x,w.heap.size=x:=⟨_,rfl⟩
 obtain⟨B2,hB2⟩:∃x,w1.heap.size=x:=⟨_,rfl⟩
 have hs:w.heap.size+1=B2:=by rw[←hB2,←hw1];simp
 rw[hB1] at hal
 rw[hB2] at hal2
 have hE:Zk w2 (.slice (some ⟨B1,0,none⟩) 2 2) vxE:=Rd.nw (Z3k (row:=Zc) (sz:=2) (fun _=>rfl) (l:=vxE) hal 2) g2
 have hA:Zk w2 (.slice (some ⟨B2,0,none⟩) 2 2) vxA:=Z3k (row:=Zc) (sz:=2) (fun _=>rfl) (l:=vxA) hal2 2
 have HC:=hD0 (Ui hE (by decide) Z9o hA (by decide) Z9m)
 have HG:=hD0 (g1.trans g2)
 have HW1:=hD0 (aI0 hw1 (aI0 hw2 (aI0 hB1 (hB1▸hs))))
 clear hw1 hw2 hal hal2 g1 g2 hE hA hB1 hB2 hs
 go_enter func4,ntmps4
 go_wp2_with fail
 rw[HW1.out.1,HW1.out.2.1,HW1.out.2.2.1,HW1.out.2.2.2]
 refine HC.out.mono ?_
 rintro e w3 ⟨v3,vs,rfl,hIo,hV,g3⟩
 have hI:=Zu.is hIo
 clear hIo
 obtain rfl:=Z0y hV Zb0
 have g4:Nw w3 (w3.alloc (.cells #[.int .i64 1] 3)):=(Nw.refl w3).alloc _
 have HS:=hD0 (Z0s _ v3 (.slice (some ⟨w3.heap.size,0,none⟩) 1 1) [1] (hI.nw g4) (Zbe w3 1))
 have HG2:=hD0 ((HG.out.trans g3).trans g4)
 clear hI hV g3 g4 HC HW1
 go_wp2_with fail
 refine HS.out.mono ?_
 rintro e w5 ⟨rfl,g5⟩
 have HZ:=hD0 (HG2.out.trans g5)
 clear g5
 go_wp2
 go_ret
 exact⟨rfl,HZ.out⟩
structure ScI(w:World)(t r W:Int)(a1:Option Addr)(n1 k1:Nat)(g0 pb rb:Nat)(q:List Rq)(u:Value)(ids:List Int)(q':List Rq)(x:World):Prop where
 isr:IS x u ids
 new:∀g,u.ownBlock=some g→w.heap.size≤g
 own:Z9q x g0 (.slice a1 n1 k1) q'
 len:q'.length=n1
 st:Steps q ids q'
 pb:x.heap[pb]?=some (.cells #[.int .i64 t,.int .i64 r,.slice a1 n1 k1,.int .i64 W] 43 (0,0))
 rb:x.heap[rb]?=some (.cells #[.int .i64 0,.int .i64 0,.slice none 0 0,.int .i64 0] 43 (0,0))
 nw:Nw w x
def Z22(l:List Hv)(n:Nat):Bool:=decide (l.length≤n)&&l.all fun x=>decide (x.h.q.length≤12)
theorem Z5y{w0:World}{a:Option Addr}{len cap:Nat}{l:List Hv}(h:HdsIn w0 a len cap l)(n:Nat)(hn:n≤100) :
  Calls prog 5 #[.slice a len cap,.int .i64 n] w0 fun e w'=>e=.returned (.bool (Z22 l n))∧Nw w0 w':=by
 have HH:=hD0 h
 clear h
 by_cases hlen:n<len
 ·have d:decide ((n:Int)<(len:Int))=true:=by rw[decide_eq_true_iff];omega
  have d2:decide (n<len)=true:=by rw[decide_eq_true_iff];exact hlen
  have hf:Z22 l n=false:=by
   unfold Z22
   rw[show decide (l.length≤n)=false from by rw[decide_eq_false_iff_not,HH.out.hl];omega]
   rfl
  rw[hf]
  clear hlen hf
  go_enter func5,ntmps5
  go_wp2_with fail
  go_ret
  exact⟨rfl,Nw.refl _⟩
 ·have d:decide ((n:Int)<(len:Int))=false:=by rw[decide_eq_false_iff_not];omega
  have d2:decide (n<len)=false:=by rw[decide_eq_false_iff_not];exact hlen
  go_enter func5,ntmps5
  go_wp2_with fail
  go_loopw [5] (fun v wr=>∃k:Nat,v=.int .i64 k∧k≤len∧Hid ((∀j,(h:j<l.length)→j<k→l[j].h.q.length≤12)∧Nw w0 wr)) (fun v _=>len-(intOf v).toNat)
  case atStart=>exact⟨0,rfl,Nat.zero_le _,hD0 ⟨fun j _ h=>absurd h (Nat.not_lt_zero j),Nw.refl _⟩⟩
  case round =>
   obtain⟨k,rfl,hk,HI⟩:=hrel
   by_cases hlt:k<len
   ·have hkl:k<l.length:=by rw[HH.out.hl];exact hlt
    have hin:=HH.out.nw HI.out.2
    obtain⟨a',c',e',hed⟩:=hin.rd
    simp only[Value.slice.injEq] at e'
    obtain⟨rfl,_,rfl⟩:=e'
    rcases hed with⟨q,_⟩ | ⟨eb,eo,rfl,hrw⟩
    ·rw[q] at hkl;simp at hkl
    obtain⟨qa,qc,hqv⟩:=(hin.all _ (gM0 hkl)).at_.form
    have z2:=hrw.cell k hkl 2 l[k].v rfl
    rw[hqv] at z2
    have hebl:=hrw.lt
    obtain⟨m,hm⟩:∃m,l[k].h.q.length=m:=⟨_,rfl⟩
    rw[hm] at z2
    have Zr:=Zp hlt
    have hw:=Zo k (k+1) (by omega) rfl
    obtain⟨k1,hk1⟩:∃m,k+1=m:=⟨_,rfl⟩
    have HK1:=hD0 (aI0 hk1 hlt)
    have HM:=hD0 (show ∃h:k<l.length,l[k].h.q.length=m from⟨hkl,hm⟩)
    rw[hk1] at hw
    clear hk1 hkl hin hrw hqv hm hlt
    by_cases h12:12<m
    ·have dm:decide ((12:Int)<(m:Int))=true:=by rw[decide_eq_true_iff];omega
     have dm2:decide (12<m)=true:=by rw[decide_eq_true_iff];exact h12
     have hf:Z22 l n=false:=by
      obtain⟨h1,h2⟩:=HM.out
      unfold Z22
      rw[show(l.all fun x=>decide (x.h.q.length≤12))=false from by
       rw[List.all_eq_false]
       exact⟨_,gM0 h1,by rw[h2];simp;exact h12⟩,Bool.and_false]
     have HF:=hD0 hf
     clear hf h12
     go_wp2_with fail
     go_ret
     exact⟨by rw[HF.out];rfl,HI.out.2⟩
    ·have dm:decide ((12:Int)<(m:Int))=false:=by rw[decide_eq_false_iff_not];omega
     have dm2:decide (12<m)=false:=by rw[decide_eq_false_iff_not];exact h12
     have HI2:=hD0 (show ∀j,(h:j<l.length)→j<k1→l[j].h.q.length≤12 from fun j hj hjk=>by
      rw[←HK1.out.1] at hjk
      rcases Nat.lt_or_ge j k with q | q
      ·exact HI.out.1 j hj q
      ·obtain rfl:j=k:=by omega
       obtain⟨h1,h2⟩:=HM.out
       rw[h2];omega)
     have HN:=hD0 HI.out.2
     clear h12 HI
     go_wp2_with fail
     exact⟨⟨k1,rfl,by rw[←HK1.out.1];exact HK1.out.2,hD0 ⟨HI2.out,HN.out⟩⟩,by rw[←HK1.out.1];exact Zh HK1.out.2⟩
   ·obtain rfl:k=len:=Nat.le_antisymm hk (Nat.le_of_not_lt hlt)
    have Zr:¬k<k:=Nat.lt_irrefl k
    have HT:=hD0 (show Z22 l n=true from by
     unfold Z22
     rw[show decide (l.length≤n)=true from by rw[decide_eq_true_iff,HH.out.hl];omega,Bool.true_and,List.all_eq_true]
     intro x hx
     obtain⟨j,hj,rfl⟩:=List.getElem_of_mem hx
     exact decide_eq_true (HI.out.1 j hj (by rw[←HH.out.hl];exact hj)))
    have HN:=hD0 HI.out.2
    clear hlt HI
    go_wp2_with fail
    go_ret
    exact⟨by rw[HT.out];rfl,HN.out⟩
def chP(ages:List (Int × Int)):List Int→Int × Bool
 | []=>(0,false)
 | a::r=>(Ze ages a r,true)
theorem Z9k{w0:World}{v va:Value}{c:List Int}{ages:List (Int × Int)}(h:Vn w0 v c)(ha:Zk w0 va ages)(hl:ages.length≤1000)(hr:c.length≤100000)(hfa:∀e∈ages,Z8 e.1)(hfc:∀x∈c,Z8 x) :
  Calls prog 6 #[v,va] w0 fun e w'=>e=.returned (.tuple #[.int .i64 (chP ages c).1,.bool (chP ages c).2])∧Nw w0 w':=by
 cases c with
 | nil=>exact Z4m h rfl ha hl hfa
 | cons a r=>exact Z3s h ha hl (Nat.le_of_succ_le hr) hfa hfc
theorem Z9a{w0:World}{v va:Value}{c:List Int}{ages:List (Int × Int)}(h:Vn w0 v c)(ha:Zk w0 va ages)(hl:ages.length≤1000)(hr:c.length≤100000) :
  Calls prog 8 #[v,va] w0 fun e w'=>e=.returned (.tuple #[.int .i64 (chP ages c).1,.bool (chP ages c).2])∧Nw w0 w':=by
 cases c with
 | nil=>exact Z4a h rfl va
 | cons a r=>exact Un h ha hl (Nat.le_of_succ_le hr)
theorem Z4l(a0:Option Addr)(len0 cap0:Nat)(l:List (Int × Int))(a1:Option Addr)(len1 cap1:Nat)(ages:List (Int × Int))(a2:Option Addr)(len2 cap2:Nat)(c:List Int)(n:Int)(a4:Option Addr)(len4 cap4:Nat)(hs:List Hv)(W:World)(he:EgIn W a0 len0 cap0 l)(ha:AgIn W a1 len1 cap1 ages)(hc:NmIn W a2 len2 cap2 c)(hh:HdsIn W a4 len4 cap4 hs) :
  Calls prog 3 #[.slice a0 len0 cap0,.slice a1 len1 cap1,.slice a2 len2 cap2,.int .i64 n,.slice a4 len4 cap4] W fun e W'=>e=.returned (.bool true)∧Nw W W':=by
 have HL:=hD0 (Z6d W)
 have HE:=hD0 he
 have HA:=hD0 ha
 have HC:=hD0 hc
 have HH:=hD0 hh
 have HLi:=hD0 (fun(z:World) (g:Nw W z)=>Z5y (hh.nw g) 6 (by decide))
 clear he ha hc hh
 obtain⟨lg,hlg⟩:∃b,Z22 hs 6=b:=⟨_,rfl⟩
 have HLg:=hD0 hlg
 rw[hlg] at HLi
 clear hlg
 by_cases h0:30<len0
 ·have d:decide ((30:Int)<(len0:Int))=true:=by rw[decide_eq_true_iff];omega
  have d2:decide (30<len0)=true:=by simpa using h0
  clear h0
  go_enter func3,ntmps3
  go_wp2_with fail
  refine HL.out.mono ?_
  rintro e w1 ⟨rfl,g1⟩
  have HG:=hD0 g1
  clear g1
  go_wp2_with fail
  go_ret
  exact⟨rfl,HG.out⟩
 have d0:decide ((30:Int)<(len0:Int))=false:=by rw[decide_eq_false_iff_not];omega
 have d02:decide (30<len0)=false:=decide_eq_false h0
 by_cases h1:20<len1
 ·have d:decide ((20:Int)<(len1:Int))=true:=by rw[decide_eq_true_iff];omega
  have d2:decide (20<len1)=true:=by simpa using h1
  clear h1 h0
  go_enter func3,ntmps3
  go_wp2_with fail
  refine HL.out.mono ?_
  rintro e w1 ⟨rfl,g1⟩
  have HG:=hD0 g1
  clear g1
  go_wp2_with fail
  go_ret
  exact⟨rfl,HG.out⟩
 have d1:decide ((20:Int)<(len1:Int))=false:=by rw[decide_eq_false_iff_not];omega
 have d12:decide (20<len1)=false:=decide_eq_false h1
 by_cases h2:20<len2
 ·have d:decide ((20:Int)<(len2:Int))=true:=by rw[decide_eq_true_iff];omega
  have d2:decide (20<len2)=true:=by simpa using h2
  clear h2 h1 h0
  go_enter func3,ntmps3
  go_wp2_with fail
  refine HL.out.mono ?_
  rintro e w1 ⟨rfl,g1⟩
  have HG:=hD0 g1
  clear g1
  go_wp2_with fail
  go_ret
  exact⟨rfl,HG.out⟩
 have d2:decide ((20:Int)<(len2:Int))=false:=by rw[decide_eq_false_iff_not];omega
 have d22:decide (20<len2)=false:=decide_eq_false h2
 have HB:=hD0 (show l.length≤30∧ages.length≤1000∧c.length≤100 from⟨by rw[HE.out.hl];omega,by rw[HA.out.hl];omega,by rw[HC.out.hl];omega⟩)
 clear h0 h1 h2
 go_enter func3,ntmps3
 go_wp2_with fail
 refine HL.out.mono ?_
 rintro e y0 ⟨rfl,g0⟩
 have HG0:=hD0 g0
 clear g0 HL
 have HCx:=hD0 (HLi.out y0 HG0.out)
 go_wp2_with fail
 refine HCx.out.mono ?_
 rintro e y1 ⟨rfl,g1⟩
 have HG1:=hD0 (HG0.out.trans g1)
 clear g1 HCx HLi
 cases lg with
 | false =>
  go_wp2_with fail
  go_ret
  exact⟨rfl,HG1.out⟩
 | true =>
  have hlg:=HLg.out
  unfold Z22 at hlg
  rw[Bool.and_eq_true,decide_eq_true_iff,List.all_eq_true] at hlg
  have h6:len4≤6:=by rw[←HH.out.hl];exact hlg.1
  have H6:=hD0 h6
  have HQ:=hD0 (show ∀x∈hs,x.h.q.length≤12 from fun x hx=>of_decide_eq_true (hlg.2 x hx))
  clear hlg HLg h6
  have HCx:=hD0 (Zbg _ c y1 (Nat.le_trans HB.out.2.2 (by decide)) (HC.out.rd.nw HG1.out))
  go_wp2_with fail
  refine HCx.out.mono ?_
  rintro e y2 ⟨v2,rfl,g2,hO2⟩
  have HG2:=hD0 (HG1.out.trans g2)
  have HO2:=hD0 hO2
  clear hO2 g2 HCx
  have HCx:=hD0 (Z9k (U5.nm HO2.out) (HA.out.rd.nw HG2.out) HB.out.2.1 (Nat.le_trans HB.out.2.2 (by decide)) (fun e he=>(HA.out.fit e he).1) HC.out.fit)
  go_wp2_with fail
  refine HCx.out.mono ?_
  rintro e y3 ⟨rfl,g3⟩
  have HG3:=hD0 (HG2.out.trans g3)
  clear g3 HCx HO2
  obtain⟨⟨cv,cb⟩,hcp⟩:∃x,chP ages c=x:=⟨_,rfl⟩
  have HCp:=hD0 hcp
  rw[hcp]
  simp only
  have hbb:(cb != cb)=false:=by cases cb<;>rfl
  clear hcp
  have HCx:=hD0 (show Calls prog 8 #[.slice a2 len2 cap2,.slice a1 len1 cap1] y3 fun e w'=>e=.returned (.tuple #[.int .i64 cv,.bool cb])∧Nw y3 w' from by
   have:=Z9a (HC.out.rd.nw HG3.out) (HA.out.rd.nw HG3.out) HB.out.2.1 (Nat.le_trans HB.out.2.2 (by decide))
   rwa [HCp.out] at this)
  go_wp2_with fail
  refine HCx.out.mono ?_
  rintro e y4 ⟨rfl,g4⟩
  have HG4:=hD0 (HG3.out.trans g4)
  clear g4 HCx
  obtain⟨A,hA⟩:∃x,Ym ages n=x:=⟨_,rfl⟩
  have HAn:=hD0 hA
  have HCx:=hD0 (Z83 (w0:=y4) (HA.out.rd.nw HG4.out) HB.out.2.1 n)
  go_wp2_with fail
  refine HCx.out.mono ?_
  rintro e y5 ⟨rfl,g5⟩
  have HG5:=hD0 (HG4.out.trans g5)
  rw[hA]
  clear g5 HCx
  have HCx:=hD0 (Z3i (w0:=y5) (HA.out.rd.nw HG5.out) HB.out.2.1 n)
  go_wp2_with fail
  refine HCx.out.mono ?_
  rintro e y6 ⟨rfl,g6⟩
  have HG6:=hD0 (HG5.out.trans g6)
  rw[hA]
  clear g6 HCx hA
  have HCx:=hD0 (Zbf _ l y6 (Nat.le_trans HB.out.1 (by decide)) (HE.out.rd.nw HG6.out))
  go_wp2_with fail
  refine HCx.out.mono ?_
  rintro e y7 ⟨v7,rfl,g7,hO7⟩
  have HG7:=hD0 (HG6.out.trans g7)
  have HO7:=hD0 hO7
  clear hO7 g7 HCx
  have HCx:=hD0 (Ui (Z9.at_ HO7.out) (Nat.le_trans HB.out.1 (by decide)) HE.out.fit (HA.out.rd.nw HG7.out) HB.out.2.1 (fun e he=>(HA.out.fit e he).1))
  go_wp2_with fail
  refine HCx.out.mono ?_
  rintro e y8 ⟨v8,vs8,rfl,hI8,hV8,g8⟩
  have HG8:=hD0 (HG7.out.trans g8)
  have H8:=hD0 (aI0 (Zu.is hI8) hV8)
  clear hI8 hV8 g8 HCx HO7
  have HCx:=hD0 (Z1j (HE.out.rd.nw HG8.out) (Nat.le_trans HB.out.1 (by decide)) HE.out.fit (HA.out.rd.nw HG8.out) HB.out.2.1)
  go_wp2_with fail
  refine HCx.out.mono ?_
  rintro e y9 ⟨v9,vs9,rfl,hI9,hV9,g9⟩
  have HG9:=hD0 (HG8.out.trans g9)
  obtain rfl:=Z0y H8.out.2 hV9
  have H9:=hD0 (aI0 (H8.out.1.nw g9) (Zu.is hI9))
  clear hI9 hV9 g9 HCx H8
  have HCx:=hD0 (Z0s y9 _ _ _ H9.out.1 H9.out.2)
  go_wp2_with fail
  refine HCx.out.mono ?_
  rintro e y10 ⟨rfl,g10⟩
  have HG10:=hD0 (HG9.out.trans g10)
  clear g10 HCx H9
  go_wp2_with fail
  go_loopw [15] (fun v wr=>∃k:Nat,v=.int .i64 k∧k≤len4∧Hid ((∀j,(h:j<hs.length)→j<k→Ok hs[j].h.W hs[j].h.q)∧Nw W wr)) (fun v _=>len4-(intOf v).toNat)
  case atStart=>exact⟨0,rfl,Nat.zero_le _,hD0 ⟨fun j _ h=>absurd h (Nat.not_lt_zero j),HG10.out⟩⟩
  case round =>
   obtain⟨k,rfl,hk,HI⟩:=hrel
   by_cases hlt:k<len4
   ·have hkl:k<hs.length:=by rw[HH.out.hl];exact hlt
    have hin:=HH.out.nw HI.out.2
    obtain⟨a',c',e',hed⟩:=hin.rd
    simp only[Value.slice.injEq] at e'
    obtain⟨rfl,hlx,rfl⟩:=e'
    rcases hed with⟨q,_⟩ | ⟨eb,eo,rfl,hrw⟩
    ·rw[q] at hkl;simp at hkl
    obtain⟨x,hx⟩:∃x,hs[k]=x:=⟨_,rfl⟩
    have hxm:x∈hs:=hx▸gM0 hkl
    have z0:=hrw.cell k hkl 0 (.int .i64 x.h.t) (by rw[hx];rfl)
    have z1:=hrw.cell k hkl 1 (.int .i64 x.h.r) (by rw[hx];rfl)
    have z2:=hrw.cell k hkl 2 x.v (by rw[hx];rfl)
    have z3:=hrw.cell k hkl 3 (.int .i64 x.h.W) (by rw[hx];rfl)
    simp only[Nat.add_zero] at z0 z1 z2 z3
    have hebl:=hrw.lt
    have HCk:=hD0 (Z98 x.h.t x.h.r x.h.W x.v x.h.q wr (Nat.le_trans (HQ.out x hxm) (by decide)) (hin.all x hxm).at_)
    have Zr:=Zp hlt
    have hw:=Zo k (k+1) (by have:=H6.out;omega) rfl
    obtain⟨k1,hk1⟩:∃m,k+1=m:=⟨_,rfl⟩
    have HK1:=hD0 (aI0 hk1 hlt)
    have HX:=hD0 (show ∃h:k<hs.length,hs[k]=x from⟨hkl,hx⟩)
    rw[hk1] at hw
    clear hk1 hkl hin hrw hxm hlt hx hlx
    go_wp2_with fail
    refine HCk.out.mono ?_
    rintro e w4 ⟨rfl,g4⟩
    have HN:=hD0 (HI.out.2.trans g4)
    obtain⟨ck,hck⟩:∃b,okQ x.h.W x.h.q=b:=⟨_,rfl⟩
    rw[hck]
    cases ck with
    | false =>
     rw[if_neg (by decide)]
     clear hck g4
     go_wp2_with fail
     go_ret
     exact⟨rfl,HN.out⟩
    | true =>
     rw[if_pos rfl]
     have HI2:=hD0 (show ∀j,(h:j<hs.length)→j<k1→Ok hs[j].h.W hs[j].h.q from fun j hj hjk=>by
      rw[←HK1.out.1] at hjk
      rcases Nat.lt_or_ge j k with q | q
      ·exact HI.out.1 j hj q
      ·obtain rfl:j=k:=by omega
       obtain⟨h1,h2⟩:=HX.out
       rw[h2];exact(Z90 _ _).1 hck)
     clear hck g4 HI
     go_wp2_with fail
     exact⟨⟨k1,rfl,by rw[←HK1.out.1];exact HK1.out.2,hD0 ⟨HI2.out,HN.out⟩⟩,by rw[←HK1.out.1];exact Zh HK1.out.2⟩
   ·obtain rfl:k=len4:=Nat.le_antisymm hk (Nat.le_of_not_lt hlt)
    have Zr:¬k<k:=Nat.lt_irrefl k
    have HOk:=hD0 (show hs.length≤6∧∀z,Nw W z→∀x∈hs,Z2h z x from⟨by rw[HH.out.hl];exact H6.out,fun z g x hx=>by
     obtain⟨j,hj,rfl⟩:=List.getElem_of_mem hx
     exact⟨((HH.out.all _ hx).nw g).at_,HI.out.1 j hj (by rw[←HH.out.hl];exact hj),HQ.out _ hx⟩⟩)
    have HFt:=hD0 (show ∀x∈hs,∀R∈x.h.q,Z2f R from fun x hx=>(HH.out.all x hx).fit)
    generalize wr=y20 at *
    have HG20:=hD0 HI.out.2
    clear hlt HI
    have HCx:=hD0 (Z9l (HH.out.rd.nw HG20.out) (HOk.out.2 y20 HG20.out) HFt.out HOk.out.1 (HA.out.rd.nw HG20.out) HB.out.2.1 (fun e he=>(HA.out.fit e he).1))
    go_wp2_with fail
    refine HCx.out.mono ?_
    rintro e y21 ⟨v21,vs21,rfl,hI21,hV21,g21⟩
    have HG21:=hD0 (HG20.out.trans g21)
    have H21:=hD0 (aI0 (Zu.is hI21) hV21)
    clear hI21 hV21 g21 HCx
    have HCx:=hD0 (Z9d (HH.out.rd.nw HG21.out) (HOk.out.2 y21 HG21.out) HFt.out HOk.out.1 (HA.out.rd.nw HG21.out) HB.out.2.1)
    go_wp2_with fail
    refine HCx.out.mono ?_
    rintro e y22 ⟨v22,vs22,rfl,hI22,hV22,g22⟩
    have HG22:=hD0 (HG21.out.trans g22)
    obtain rfl:=Z0y H21.out.2 hV22
    have H22:=hD0 (aI0 (H21.out.1.nw g22) (Zu.is hI22))
    clear hI22 hV22 g22 HCx H21
    have HCx:=hD0 (Z0s y22 _ _ _ H22.out.1 H22.out.2)
    go_wp2_with fail
    refine HCx.out.mono ?_
    rintro e y23 ⟨rfl,g23⟩
    have HG23:=hD0 (HG22.out.trans g23)
    clear g23 HCx H22
    go_wp2_with fail
    go_ret
    exact⟨rfl,HG23.out⟩
theorem victimCalls_law(a0:Option Addr)(len0 cap0:Nat)(l:List (Int × Int))(a1:Option Addr)(len1 cap1:Nat)(ages:List (Int × Int))(a2:Option Addr)(len2 cap2:Nat)(c:List Int)(n:Int)(a4:Option Addr)(len4 cap4:Nat)(hs:List Hv)(W:World)(he:EgIn W a0 len0 cap0 l)(ha:AgIn W a1 len1 cap1 ages)(hc:NmIn W a2 len2 cap2 c)(hh:HdsIn W a4 len4 cap4 hs) :
  Calls prog 3 #[.slice a0 len0 cap0,.slice a1 len1 cap1,.slice a2 len2 cap2,.int .i64 n,.slice a4 len4 cap4] W fun e W'=>e=.returned (.bool true)∧Below W.heap.size W W':=Z4l a0 len0 cap0 l a1 len1 cap1 ages a2 len2 cap2 c n a4 len4 cap4 hs W he ha hc hh
end Go.Proofs.YtbnpnccpobkodaaGreat
