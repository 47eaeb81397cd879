/- Texts merged: WeB, WeG, VaP, WcD -/
import Derived.Test.YtbnpnccpobkodaaVictimChoiceB5
set_option linter.unusedVariables false
set_option maxRecDepth 100000
set_option maxHeartbeats 16000000
namespace Go.Proofs.Ytbnpnccpobkodaa
open Go.RowKit _root_.Go.Proofs.Try
structure OwI(W0:World)(out:List (Int × Int))(v:Value)(w:World):Prop where
 own:Zb w W0.heap.size v out
 nw:Nw W0 w
structure SrK(out:List (Int × Int))(x:Int × Int)(k:Nat):Prop where
 lo:∀j,(h:j<out.length)→j<k→Vo out[j] x
structure GrW(W0 w1:World)(s:List (Int × Int))(a:Int)(N:Nat)(r:List Int)(last:Int)(n:Nat)(v:Value)(w:World):Prop where
 inv:GrI s a N r last n
 own:InO w W0.heap.size v (a::r)
 nw:Nw w1 w
theorem Z2m:([]:List Int).length=0:=rfl
def Z6g(v0 v5:Value)(l:List (Int × Int)):Prop:=∀b o n c,v0=.slice (some ⟨b,o,none⟩) n c→v5.ownBlock≠some b∨l=[]
theorem Z5c{w z:World}{v:Value}{l:List (Int × Int)}{S:Nat→Prop}(h:Zr w v l)(t:Zc S w z)(hn:∀b o n c,v=.slice (some ⟨b,o,none⟩) n c→¬S b∨l=[]):Zr z v l:=by
 obtain⟨a,c,e,hx⟩:=h
 subst e
 rcases hx with hx | ⟨b,o,rfl,hc⟩
 ·exact⟨a,c,rfl,.inl hx⟩
 ·rcases hn _ _ _ _ rfl with hb | hb
  ·exact⟨_,c,rfl,.inr ⟨b,o,rfl,lL0 hc.lt t.size,fun i hi j u hu=>(t.cell hc.lt hb).trans (hc.cell i hi j u hu)⟩⟩
  ·subst hb
   exact⟨_,c,rfl,.inl ⟨rfl,fun e=>nomatch e⟩⟩
structure VcI(W0:World)(ages l0 l:List (Int × Int))(vs:List Int)(v0 v5:Value)(w:World):Prop where
 at_:Zr w v0 l
 own:InO w W0.heap.size v5 vs
 off:Z6g v0 v5 l
 nw:Nw W0 w
 sub:∀e∈l,e∈l0
 len:l.length+vs.length≤l0.length
 vic:∀vs',Vic ages l vs'→Vic ages l0 (vs++vs')
theorem VcI.push{W0 w z:World}{ages l0 l:List (Int × Int)}{vs:List Int}{v0 v5:Value}(h:VcI W0 ages l0 l vs v0 v5 w)(hl:l0.length≤1000)(q:Int)(g:Nw w z) :
  ∃ga cc w6,(Builtin.append_ #[25,25] 25 #[v5,.slice (some ⟨z.heap.size,0,none⟩) 1 1]).run prog (z.alloc (.cells #[.int .i64 q] 3))=.ok (.slice (some ⟨ga,0,none⟩) (vs.length+1) cc) w6∧InO w6 W0.heap.size (.slice (some ⟨ga,0,none⟩) (vs.length+1) cc) (vs++[q])∧Zr w6 v0 l∧ga<w6.heap.size∧Nw W0 w6:=by
 have hal:=Z9 z (.cells #[.int .i64 q] 3)
 have g6:Nw w (z.alloc (.cells #[.int .i64 q] 3)):=g.trans ((Nw.refl z).alloc _)
 obtain⟨v',w6,hr,hO,hg,hp,ga,cc,rfl⟩:=Y6.push Us (onw h.own g6) q z.heap.size 1 (fun j u hu=>by
  rw[Z7 hal]
  simpa [Y9] using hu) (by have:=h.len;omega) (h.nw.trans g6).sz
 refine⟨ga,cc,w6,hr,hO,?_,olt hO rfl,(h.nw.trans g6).gro hg (fun b e=>oge h.own e)⟩
 exact Z5c (h.at_.nw g6) (Z3e hg) (fun b o n c e=>h.off b o n c e)
def Vd(k:Kn):List Value:=[.int .i64 k.f,.bool k.lp]
theorem Z5d:U4 prog 67 91 2 16 Vd where
 und:=underlying67
 inf:=by
  have h:(prog.info? 91).map (fun i=>(i.zero,i.size,i.bytes))=some (some (.agg #[.int .i64 0,.bool false]),2,16):=by kernel_rfl
  cases e:prog.info? 91 with
  | none=>rw[e] at h;cases h
  | some i =>
   rw[e] at h
   simp only[Option.map_some,Option.some.injEq,Prod.mk.injEq] at h
   exact⟨i,_,rfl,h.1,h.2.1,h.2.2,rfl⟩
 pos:=by decide
 byt:=by decide
 len:=fun _=>rfl
 one:=fun a u hu=>by
  simp only[Vd,List.mem_cons,List.not_mem_nil,or_false] at hu
  rcases hu with rfl | rfl<;>rfl
abbrev Yt(w:World)(g0:Nat)(v:Value)(l:List Kn):Prop:=Y6 91 2 Vd w g0 v l
theorem Z1y{w:World}{g0 e size n m:Nat}{xs:List Value}{a:Option Addr}{c:Nat}(h:w.ownsRow g0 e size (.slice a n c) n xs)(hm:m≤n):w.ownsRow g0 e size (.slice a m c) m (xs.take (m*size)):=by
 obtain⟨hx,hr⟩:=h
 have hl:(xs.take (m*size)).length=m*size:=by
  rw[List.length_take,hx]
  exact Nat.min_eq_left (Nat.mul_le_mul_right _ hm)
 rcases hr with⟨h0,hn⟩ | ⟨g,cap,cur,h1,h2,h3,h4,h5,h6,h7⟩
 ·simp only[Value.slice.injEq] at h0
  obtain⟨rfl,_,rfl⟩:=h0
  obtain rfl:m=0:=by omega
  exact⟨hl,.inl ⟨rfl,rfl⟩⟩
 ·simp only[Value.slice.injEq] at h1
  obtain⟨rfl,_,rfl⟩:=h1
  refine⟨hl,.inr ⟨g,_,cur,rfl,h2,h3,Nat.le_trans hm h4,h5,h6,?_⟩⟩
  have:=congrArg (List.take (m*size)) h7
  rw[List.take_take,Nat.min_eq_left (Nat.mul_le_mul_right _ hm)] at this
  exact this
theorem IS.cut{w:World}{a:Option Addr}{c:Nat}{l:List Int}(h:IS w (.slice a l.length c) l){m:Nat}(hm:m≤l.length):IS w (.slice a m c) (l.take m):=by
 have:=Z1y h hm
 unfold IS
 rw[List.length_take,Nat.min_eq_left hm,List.map_take]
 simpa using this
theorem Vy{α:Type}{row:α→List Value}{sz:Nat}(hl:∀a,(row a).length=sz):∀(l:List α) (m:Nat),Z5 row (l.take m)=(Z5 row l).take (m*sz)
 | [],m=>by simp[Z5]
 | a::l,0=>by simp[Z5]
 | a::l,m+1=>by
  show row a++Z5 row (l.take m)=(row a++Z5 row l).take ((m+1)*sz)
  have e1:(row a).take ((m+1)*sz)=row a:=List.take_of_length_le (by rw[hl,Nat.add_mul];omega)
  rw[Vy hl l m,List.take_append,e1,hl,show(m+1)*sz-sz=m*sz by rw[Nat.add_mul];omega]
theorem Yt.cut{w:World}{g0:Nat}{a:Option Addr}{c:Nat}{l:List Kn}(h:Yt w g0 (.slice a l.length c) l){m:Nat}(hm:m≤l.length):Yt w g0 (.slice a m c) (l.take m):=by
 have:=Z1y h hm
 unfold Yt Y6
 rw[List.length_take,Nat.min_eq_left hm,Vy (sz:=2) (fun _=>rfl)]
 exact this
def fnx(s:Gb)(v:Int):Option Int:=(s.nx v).map Int.ofNat
structure Zz(W0 w:World)(o mb pb:Nat)(ev vp vo vk:Value)(E:List (Int × Int))(s:Gb)(N:Nat):Prop where
 obj:w.heap[o]?=some (.cells #[ev,.map (some mb),.map (some pb),vp,vo,vk,.bool s.fd,.int .i64 s.ls] 69 (0,0))
 ed:Zr W0 ev E
 nw:Nw W0 w
 mn:Za w mb (fnx s) N
 mp:Za w pb s.pl N
 pa:IS w vp s.path
 op:IS w vo s.op
 kn:Yt w W0.heap.size vk s.kn
 oW:W0.heap.size≤o
 mW:W0.heap.size≤mb
 pW:W0.heap.size≤pb
 mne:mb≠pb
 pg:∀g,vp.ownBlock=some g→W0.heap.size≤g
 og:∀g,vo.ownBlock=some g→W0.heap.size≤g
 ne:∀g,vp.ownBlock=some g→vo.ownBlock≠some g
 bd:s.path.length≤N∧s.op.length≤N∧s.kn.length≤N
def Wk(W0 w:World)(o:Nat)(ev:Value)(E:List (Int × Int))(s:Gb)(N:Nat):Prop:=∃mb pb vp vo vk,Zz W0 w o mb pb ev vp vo vk E s N
section
variable {W0 w w':World} {o mb pb N:Nat} {ev vp vo vk:Value} {E:List (Int × Int)} {s:Gb}
theorem Zz.nwr(h:Zz W0 w o mb pb ev vp vo vk E s N)(g:Nw w w'):Zz W0 w' o mb pb ev vp vo vk E s N :=
 ⟨g.at' h.obj,h.ed,h.nw.trans g,h.mn.nw g,h.mp.nw g,h.pa.nw g,h.op.nw g,onw h.kn g,h.oW,h.mW,h.pW,h.mne,h.pg,h.og,h.ne,h.bd⟩
theorem Zz.c(h:Zz W0 w o mb pb ev vp vo vk E s N):w.cell? ⟨o,0,none⟩=some ev∧w.cell? ⟨o,1,none⟩=some (.map (some mb))∧w.cell? ⟨o,2,none⟩=some (.map (some pb))∧w.cell? ⟨o,3,none⟩=some vp∧w.cell? ⟨o,4,none⟩=some vo∧w.cell? ⟨o,5,none⟩=some vk∧w.cell? ⟨o,6,none⟩=some (.bool s.fd)∧w.cell? ⟨o,7,none⟩=some (.int .i64 s.ls) :=
 ⟨Z7 h.obj,Z7 h.obj,Z7 h.obj,Z7 h.obj,Z7 h.obj,Z7 h.obj,Z7 h.obj,Z7 h.obj⟩
theorem Zz.fz(h:Zz W0 w o mb pb ev vp vo vk E s N)(j:Nat):w.frozen? ⟨o,j,none⟩=false:=hfz h.obj
theorem Zz.ol(h:Zz W0 w o mb pb ev vp vo vk E s N):o<w.heap.size:=hlt h.obj
theorem Zz.off(h:Zz W0 w o mb pb ev vp vo vk E s N):mb≠o∧pb≠o∧vp.ownBlock≠some o∧vo.ownBlock≠some o∧vk.ownBlock≠some o:=by
 refine⟨fun e=>?_,fun e=>?_,fun e=>?_,fun e=>?_,fun e=>?_⟩
 ·obtain⟨es,c,q⟩:=h.mn.obj
  rw[e,h.obj] at q;cases q
 ·obtain⟨es,c,q⟩:=h.mp.obj
  rw[e,h.obj] at q;cases q
 ·obtain⟨c,q⟩:=Zw h.pa e
  rw[h.obj] at q
  injection q with q
  injection q with _ q _
  exact absurd q (by decide)
 ·obtain⟨c,q⟩:=Zw h.op e
  rw[h.obj] at q
  injection q with q
  injection q with _ q _
  exact absurd q (by decide)
 ·obtain⟨c,q⟩:=Zw h.kn e
  rw[h.obj] at q
  injection q with q
  injection q with _ q _
  exact absurd q (by decide)
theorem Zz.apart(h:Zz W0 w o mb pb ev vp vo vk E s N):(∀g,vk.ownBlock=some g→vp.ownBlock≠some g∧vo.ownBlock≠some g)∧(vp.ownBlock≠some mb∧vo.ownBlock≠some mb∧vk.ownBlock≠some mb)∧(vp.ownBlock≠some pb∧vo.ownBlock≠some pb∧vk.ownBlock≠some pb):=by
 obtain⟨es1,c1,q1⟩:=h.mn.obj
 obtain⟨es2,c2,q2⟩:=h.mp.obj
 refine⟨fun g hg=>⟨fun e=>?_,fun e=>?_⟩,⟨fun e=>?_,fun e=>?_,fun e=>?_⟩,⟨fun e=>?_,fun e=>?_,fun e=>?_⟩⟩
 ·obtain⟨c,q⟩:=Zw h.kn hg
  obtain⟨c',q'⟩:=Zw h.pa e
  rw[q] at q'
  injection q' with q'
  injection q' with _ q' _
  exact absurd q' (by decide)
 ·obtain⟨c,q⟩:=Zw h.kn hg
  obtain⟨c',q'⟩:=Zw h.op e
  rw[q] at q'
  injection q' with q'
  injection q' with _ q' _
  exact absurd q' (by decide)
 ·obtain⟨c,q⟩:=Zw h.pa e
  rw[q1] at q;cases q
 ·obtain⟨c,q⟩:=Zw h.op e
  rw[q1] at q;cases q
 ·obtain⟨c,q⟩:=Zw h.kn e
  rw[q1] at q;cases q
 ·obtain⟨c,q⟩:=Zw h.pa e
  rw[q2] at q;cases q
 ·obtain⟨c,q⟩:=Zw h.op e
  rw[q2] at q;cases q
 ·obtain⟨c,q⟩:=Zw h.kn e
  rw[q2] at q;cases q
theorem Zz.box(h:Zz W0 w o mb pb ev vp vo vk E s N)(t:Zc (fun k=>k=o) w w'){s':Gb}{vp' vo' vk':Value}
  (hb:w'.heap[o]?=some (.cells #[ev,.map (some mb),.map (some pb),vp',vo',vk',.bool s'.fd,.int .i64 s'.ls] 69 (0,0)))
  (h1:s'.nx=s.nx) (h2:s'.pl=s.pl) (pa:IS w' vp' s'.path) (op:IS w' vo' s'.op) (kn:Yt w' W0.heap.size vk' s'.kn)
  (pg:∀g,vp'.ownBlock=some g→W0.heap.size≤g) (og:∀g,vo'.ownBlock=some g→W0.heap.size≤g) (ne:∀g,vp'.ownBlock=some g→vo'.ownBlock≠some g) (bd:s'.path.length≤N∧s'.op.length≤N∧s'.kn.length≤N):Zz W0 w' o mb pb ev vp' vo' vk' E s' N:=by
 obtain⟨o1,o2,_⟩:=h.off
 refine⟨hb,h.ed,Zk h.nw t (fun i e=>by subst e;exact h.oW),?_,?_,pa,op,kn,h.oW,h.mW,h.pW,h.mne,pg,og,ne,bd⟩
 ·have e:fnx s'=fnx s:=by funext v;unfold fnx;rw[h1]
  rw[e];exact h.mn.tch t o1
 ·rw[h2];exact h.mp.tch t o2
theorem IS.keep{v:Value}{l:List Int}{j:Nat}(h:IS w v l)(t:Zc (fun k=>k=j) w w')(hn:v.ownBlock≠some j):IS w' v l:=h.tch t (fun g hg e=>hn (by rw[hg,e]))
theorem Zx{g0 e size n:Nat}{v:Value}{xs:List Value}{j:Nat}(h:w.ownsRow g0 e size v n xs)(t:Zc (fun k=>k=j) w w')(hn:v.ownBlock≠some j):w'.ownsRow g0 e size v n xs:=by
 refine⟨h.1,?_⟩
 rcases h.2 with h0 | ⟨g,cap,cur,rfl,hb,hg,rest⟩
 ·exact .inl h0
 ·exact .inr ⟨g,cap,cur,rfl,hb,(t.block g (Array.getElem?_eq_some_iff.1 hg).1 (fun e=>hn (by rw[←e];rfl))).trans hg,rest⟩
end
end Go.Proofs.Ytbnpnccpobkodaa
