/- Texts merged: WcQ, VbD, VaB, VaD, QcB, WeC, QvT, QvU, WdJ -/
import Derived.Test.YtbnpnccpobkodaaGreatVictimCallsB12
import Derived.ChangeOld
import Derived.Below
import Derived.Deep.Slices
import Derived.Deep.Fields
import Derived.ChangeSame
import Derived.Lib.SmallJoins
set_option linter.unusedVariables false
set_option maxRecDepth 100000
set_option maxHeartbeats 16000000
namespace Go.Proofs.YtbnpnccpobkodaaGreat
open Go.RowKit _root_.Go.Proofs.Tryz
def Z1o(w:World)(f:Value)(p:(Int × Int)→Bool):Prop:=∃(g:Nat) (lb:Array Value),f=.func (.func g) #[] lb∧(∀args w,(callFunc g args).run prog w=.ok (.enter g args) w)∧∀(R:Int × Int) (w1:World),Nw w w1→Calls prog g (#[egV R]++lb) w1 fun e w'=>e=.returned (.bool (p R))∧Nw w1 w'
def Z3v:Value→Prop
 | .slice _ n c=>n≤c
 | _=>True
theorem Z9.capE{w:World}{g0:Nat}{v:Value}{q:List (Int × Int)}(h:Z9 w g0 v q):Z3v v:=by
 rcases h.2 with⟨rfl,_⟩ | ⟨g',cap',cur,rfl,_,_,q4,_⟩
 ·exact Nat.le_refl _
 ·exact q4
theorem Z9.atE{w:World}{g0:Nat}{v:Value}{q:List (Int × Int)}(h:Z9 w g0 v q){k:Nat}(hk:k<q.length):∃g cap,v=.slice (some ⟨g,0,none⟩) q.length cap∧g0≤g∧g<w.heap.size∧True:=by
 rcases Ve h with⟨_,e⟩ | ⟨g,cap,rfl⟩
 ·omega
 ·exact⟨g,cap,rfl,Va h rfl,Ut h rfl,trivial⟩
theorem Z2u{w:World}{g0 g cap n:Nat}{q:List (Int × Int)}(h:Z9 w g0 (.slice (some ⟨g,0,none⟩) n cap) q)(hn:n=q.length)(k:Nat)(hk:k<q.length)(j:Nat)(hj:j<2)(u:Value)(new:Int × Int)(e:(Zc q[k]).set j u=Zc new) :
  Z9 (w.setCell ⟨g,k*2+j,none⟩ u) g0 (.slice (some ⟨g,0,none⟩) n cap) (q.set k new):=by
 subst hn
 have h1:=(World.ownsRow.stored h (k*2+j) u).1
 unfold Z9 Zu
 rw[List.length_set,←Z0p (row:=Zc) (sz:=2) (fun _=>rfl) q k hk j hj u new e]
 exact h1
theorem U9{w:World}{g0 g cap n:Nat}{q:List (Int × Int)}(h:Z9 w g0 (.slice (some ⟨g,0,none⟩) n cap) q)(hn:n=q.length)(k:Nat)(hk:k<q.length)(j:Nat)(u:Value)(hu:(Zc q[k])[j]?=some u):w.cell? ⟨g,k*2+j,none⟩=some u:=by
 subst hn
 have hj:j<2:=by have:=(List.getElem?_eq_some_iff.1 hu).1;simpa [Zc] using this
 refine(World.ownsRow.cellAt h (k*2+j) (by omega)).trans ?_
 rw[Yg (sz:=2) (fun _=>rfl) q k j hk hj];exact hu
theorem Z2t{w:World}{g0 g cap n:Nat}{q:List (Int × Int)}(h:Z9 w g0 (.slice (some ⟨g,0,none⟩) n cap) q)(hn:n=q.length)(j:Nat):w.frozen? ⟨g,j,none⟩=false:=by
 subst hn
 exact World.ownsRow.frozenAt h j
def Z12(p:(Int × Int)→Bool):List (Int × Int)→Int
 | []=>-1
 | a::r=>if p a=true then 0 else if Z12 p r = -1 then -1 else Z12 p r+1
theorem Vh(p:(Int × Int)→Bool):∀q:List (Int × Int),(Z12 p q = -1∧∀a∈q,p a=false)∨∃k:Nat,Z12 p q=k∧∃h:k<q.length,p q[k]=true∧∀i (hi:i<q.length),i<k→p q[i]=false
 | []=>.inl ⟨rfl,by simp⟩
 | a::r=>by
  unfold Z12
  cases e:p a with
  | true=>exact .inr ⟨0,rfl,by simp,e,fun i _ h=>by omega⟩
  | false =>
   rcases Vh p r with⟨h1,h2⟩ | ⟨k,h1,h2,h3,h4⟩
   ·rw[h1]
    refine .inl ⟨rfl,fun x hx=>?_⟩
    rcases List.mem_cons.1 hx with rfl | hx
    ·exact e
    ·exact h2 x hx
   ·rw[h1]
    refine .inr ⟨k+1,?_,by simpa using h2,h3,fun i hi hik=>?_⟩
    ·simp only[Bool.false_eq_true,if_false]
     rw[if_neg (by omega)];rfl
    ·cases i with
     | zero=>exact e
     | succ i=>exact h4 i (by simpa using hi) (by omega)
theorem Z71{p:(Int × Int)→Bool}{q:List (Int × Int)}{k:Nat}(hk:k<q.length)(h:p q[k]=true)(hb:∀i (hi:i<q.length),i<k→p q[i]=false):Z12 p q=k:=by
 rcases Vh p q with⟨_,h2⟩ | ⟨j,h1,h2,h3,h4⟩
 ·rw[h2 _ (gM0 hk)] at h;cases h
 ·rw[h1]
  rcases Nat.lt_trichotomy j k with g | g | g
  ·rw[hb j h2 g] at h3;cases h3
  ·rw[g]
  ·rw[h4 k hk g] at h;cases h
theorem Z5s{p:(Int × Int)→Bool}{q:List (Int × Int)}(h:∀i (hi:i<q.length),p q[i]=false):Z12 p q = -1:=by
 rcases Vh p q with⟨h1,_⟩ | ⟨j,h1,h2,h3,_⟩
 ·exact h1
 ·rw[h j h2] at h3;cases h3
theorem Z8s(v f:Value)(p:(Int × Int)→Bool)(q:List (Int × Int))(w:World)(hl:q.length≤1000)(h:Zk w v q)(hf:Z1o w f p) :
  Calls prog 59 #[v,f] w fun e w'=>e=.returned (.int .i64 (Z12 p q))∧Nw w w':=by
 obtain⟨g,lb,rfl,eg,hT⟩:=hf
 have HT:=hD0 hT
 clear hT
 obtain⟨a,c,rfl,⟨rfl,_⟩ | ⟨b,o,rfl,hc⟩⟩:=h
 ·go_enter func59,ntmps59
  go_wp2
  refine wp_loop_rounds 1 ?_
  repeat (rw[rounds_succ];go_wp2)
  go_ret
  exact⟨rfl,Nw.refl _⟩
 ·have H:=hD0 hc
  clear hc
  obtain⟨V,hV⟩:∃V,Z12 p q=V:=⟨_,rfl⟩
  rw[hV]
  have HV:=hD0 hV
  clear hV
  go_enter func59,ntmps59
  go_wp2
  go_loopw [8] (fun i wr=>∃k:Nat,k≤q.length∧i=.int .i64 k∧(∀i (hi:i<q.length),i<k→p q[i]=false)∧Nw w wr) (fun i _=>q.length-(intOf i).toNat)
  case atStart=>exact⟨0,Nat.zero_le _,rfl,fun _ _ h=>by omega,Nw.refl _⟩
  case round =>
   obtain⟨k,hk,rfl,hF,hN⟩:=hrel
   by_cases hlt:k<q.length
   ·have hce:=(H.out.nw hN).cell k hlt
    obtain⟨R,hR⟩:∃R,q[k]=R:=⟨_,rfl⟩
    rw[hR] at hce
    have HC:=hD0 (HT.out R)
    have HS:=hD0 hR
    have HF:=hD0 hF
    have HN:=hD0 hN
    clear hR hF hN
    obtain⟨B,hB⟩:∃B,p R=B:=⟨_,rfl⟩
    rw[hB] at HC
    have HB:=hD0 hB
    clear hB
    obtain⟨b0,b1⟩:=R
    have e0:=hce 0 _ rfl
    have e1:=hce 1 _ rfl
    simp only[Nat.add_zero] at e0
    clear hce
    cases B
    case true =>
     go_wp2_with (go_at_fn g;refine(HC.out _ HN.out).mono ?_;rintro e w1 ⟨rfl,g1⟩)
     go_ret
     exact⟨by rw[←HV.out,Z71 hlt (by rw[HS.out];exact HB.out) HF.out];rfl,HN.out.trans g1⟩
    case false =>
     go_wp2_with (go_at_fn g;refine(HC.out _ HN.out).mono ?_;rintro e w1 ⟨rfl,g1⟩)
     go_roundw
     case rel =>
      refine⟨k+1,by omega,by go_num,fun i hi hik=>?_,HN.out.trans g1⟩
      by_cases q:i<k
      ·exact HF.out i hi q
      ·have:i=k:=by omega
       subst this
       rw[HS.out];exact HB.out
     case measure=>simp[intOf];omega
   ·have HF:=hD0 hF
    have HN:=hD0 hN
    clear hF hN
    go_wp2
    go_ret
    exact⟨by rw[←HV.out,Z5s fun i hi=>HF.out i hi (by omega)];rfl,HN.out⟩
abbrev ezQ:Value:=.agg #[.int .i64 0,.int .i64 0]
theorem Z42(w:World)(g o n c:Nat)(hn:0<n)(hc:∀j,j<n*2→(w.cell? ⟨g,o+j,none⟩).isSome=true)(hf:∀j,w.frozen? ⟨g,j,none⟩=false) :
  ∃vs,∀ty,(Builtin.clear_ #[22] ty #[.slice (some ⟨g,o,none⟩) n c]).run prog w=.ok (.tuple #[]) (w.setCells g o vs):=by
 obtain⟨m,rfl⟩:∃m,n=m+1:=⟨n-1,by omega⟩
 refine⟨(Builtin.zeroCells ezQ.cells (m+1)).toList,fun ty=>?_⟩
 have hlen:(Builtin.zeroCells ezQ.cells (m+1)).toList.length=(m+1)*2:=by simp[Builtin.zeroCells,Value.cells]
 have hst:=run_storeCells_cells (P:=prog) g o (Builtin.zeroCells ezQ.cells (m+1)).toList 0 w (by rw[hlen];simpa using hc) (by intro j _;exact hf _) (by
  intro v hv
  obtain⟨i,hi,rfl⟩:=List.getElem_of_mem hv
  simp only[Builtin.zeroCells,Array.toList_map,List.getElem_map]
  have h5:∀i:Nat,i<2→(ezQ.cells[i]!).oneCell'=true:=by decide
  exact h5 _ (Nat.mod_lt _ (by decide)))
 simp only[Nat.add_zero] at hst
 simp[Builtin.clear_,run_underlying underlying22,hst]
theorem Nw.rlsE{a b:World}(h:Nw a b):(∀k o,k<a.heap.size→b.cell? ⟨k,o,none⟩=a.cell? ⟨k,o,none⟩)∧(∀k o,k<a.heap.size→b.frozen? ⟨k,o,none⟩=a.frozen? ⟨k,o,none⟩):=⟨fun _ _ h1=>h.cell h1,fun _ _ h1=>h.froz h1⟩
theorem Z5u{w:World}{g0 g n cap:Nat}{l:List (Int × Int)}(h:Z9 w g0 (.slice (some ⟨g,0,none⟩) n cap) l)(hn:n=l.length)(j:Nat)(hj:j<l.length*2):(w.cell? ⟨g,j,none⟩).isSome=true:=by
 subst hn
 have e:w.cell? ⟨g,j,none⟩=(Z7 Zc l)[j]?:=World.ownsRow.cellAt h j hj
 rw[e,List.getElem?_eq_getElem (by rw[Yh (sz:=2) (fun _=>rfl)];exact hj)];rfl
theorem Z0b(g:Nat):∀(vs:List Value) (o:Nat) (w:World),Zf (fun k=>k=g) w (w.setCells g o vs)
 | [],_,w=>Zf.refl _ w
 | v::r,o,w=>by
  rw[World.setCells]
  exact(Y5 w ⟨g,o,none⟩ v).trans (Z0b g r (o+1) _)
def Z4v(w:World)(g a:Nat)(s:Int × Int):World:=(w.setCell ⟨g,a*2,none⟩ (.int .i64 s.1)).setCell ⟨g,a*2+1,none⟩ (.int .i64 s.2)
theorem Z5r{w:World}{g0 g n cap a:Nat}{R:List (Int × Int)}(h:Z9 w g0 (.slice (some ⟨g,0,none⟩) n cap) R)(hn:n=R.length)(ha:a<R.length)(s:Int × Int):Z9 (Z4v w g a s) g0 (.slice (some ⟨g,0,none⟩) n cap) (R.set a s):=by
 have l1:∀x:Int × Int,n=(R.set a x).length:=fun x=>by rw[List.length_set];exact hn
 have k1:∀x:Int × Int,a<(R.set a x).length:=fun x=>by rw[List.length_set];exact ha
 have h0:=Z2u h hn a ha 0 (by decide) (.int .i64 s.1) (s.1,R[a].2) rfl
 have h1:=Z2u h0 (l1 _) a (k1 _) 1 (by decide) (.int .i64 s.2) s (by rw[List.getElem_set_self];rfl)
 rw[List.set_set] at h1
 exact h1
theorem Z5t(w:World)(g a:Nat)(s:Int × Int):Zf (fun k=>k=g) w (Z4v w g a s):=by
 unfold Z4v
 exact((Zf.refl (fun k=>k=g) w).set (p:=⟨g,a*2,none⟩) (.inl rfl) _).set (p:=⟨g,a*2+1,none⟩) (.inl rfl) _
abbrev Ye(p:(Int × Int)→Bool)(l:List (Int × Int)):List (Int × Int):=l.filter fun s=>!p s
structure Z2e(p:(Int × Int)→Bool)(w wr:World)(g0 g n cap a b:Nat)(l R:List (Int × Int)):Prop where
 ab:a<b
 bn:b≤l.length
 len:R.length=l.length
 front:R.take a=Ye p (l.take b)
 rest:R.drop b=l.drop b
 row:Z9 wr g0 (.slice (some ⟨g,0,none⟩) n cap) R
 tch:Zf (fun k=>k=g) w wr
theorem Z1x{α:Type}{l:List α}{b:Nat}(h:b<l.length):l.take (b+1)=l.take b++[l[b]]:=by
 rw[List.take_add_one,List.getElem?_eq_getElem h];rfl
theorem Z2s{p:(Int × Int)→Bool}{L:List (Int × Int)}{s:Int × Int}(h:p s=true):Ye p (L++[s])=Ye p L:=by
 simp only[Ye,List.filter_append,List.filter_cons,h,Bool.not_true,Bool.false_eq_true,if_false,List.filter_nil,List.append_nil]
theorem Z8u{p:(Int × Int)→Bool}{L:List (Int × Int)}{s:Int × Int}(h:p s=false):Ye p (L++[s])=Ye p L++[s]:=by
 simp only[Ye,List.filter_append,List.filter_cons,h,Bool.not_false,if_true,List.filter_nil]
theorem Z5q{α:Type}{R l:List α}{b:Nat}(h:R.drop b=l.drop b)(hb:b<l.length)(hR:R.length=l.length):∃hr:b<R.length,R[b]=l[b]:=by
 refine⟨by omega,?_⟩
 have:=congrArg (fun x=>x[0]?) h
 simp only[List.getElem?_drop,Nat.add_zero] at this
 rw[List.getElem?_eq_getElem hb,List.getElem?_eq_getElem (by omega)] at this
 exact Option.some.inj this
theorem Z1a{α:Type}{R l:List α}{b:Nat}(h:R.drop b=l.drop b):R.drop (b+1)=l.drop (b+1):=by
 rw[←List.drop_drop,←List.drop_drop,h]
section
variable {p:(Int × Int)→Bool} {w wr wr':World} {g0 g n cap a b:Nat} {l R:List (Int × Int)}
theorem Z2e.skip(h:Z2e p w wr g0 g n cap a b l R)(hb:b<l.length)(he:p l[b]=true)(g':Nw wr wr'):Z2e p w wr' g0 g n cap a (b+1) l R :=
 ⟨by have:=h.ab;omega,hb,h.len,by rw[h.front,Z1x hb,Z2s he],Z1a h.rest,Yo h.row g',h.tch.trans (Zf.nw g')⟩
theorem Z2e.move(h:Z2e p w wr g0 g n cap a b l R)(hn:n=l.length)(hb:b<l.length)(he:p l[b]=false)(g':Nw wr wr'):Z2e p w (Z4v wr' g a l[b]) g0 g n cap (a+1) (b+1) l (R.set a l[b]):=by
 have hab:=h.ab
 have hR:=h.len
 have ha:a<R.length:=by omega
 refine⟨by omega,hb,by simp[hR],?_,?_,?_,?_⟩
 ·rw[Z1x (by simpa using ha),Z1x hb]
  have e1:(R.set a l[b]).take a=R.take a:=List.take_set_of_le (Nat.le_refl a)
  rw[e1,h.front,Z8u he]
  simp
 ·rw[List.drop_set_of_lt (by omega)];exact Z1a h.rest
 ·exact Z5r (Yo h.row g') (by omega) ha _
 ·exact(h.tch.trans (Zf.nw g')).trans (Z5t _ _ _ _)
end
theorem Z13{p:(Int × Int)→Bool}{l:List (Int × Int)}{j:Nat}(hj:j<l.length)(he:p l[j]=true)(hF:∀i (hi:i<l.length),i<j→p l[i]=false):l.take j=Ye p (l.take (j+1)):=by
 rw[Z1x hj,Z2s he]
 symm
 rw[Ye,List.filter_eq_self]
 intro s hs
 obtain⟨i,hi,rfl⟩:=List.getElem_of_mem hs
 simp at hi
 simp[hF i (by omega) (by omega)]
theorem Z2r{p:(Int × Int)→Bool}{l:List (Int × Int)}(h:∀s∈l,p s=false):Ye p l=l:=by
 rw[Ye,List.filter_eq_self]
 intro s hs
 simp[h s hs]
theorem Z6z(p:(Int × Int)→Bool)(f:Value)(g0:Nat)(v:Value)(l:List (Int × Int))(w:World)(hl:l.length≤1000)(h:Z9 w g0 v l)(hf:Z1o w f p)(hfr:∀w1,Zf (fun k=>v.ownBlock=some k) w w1→Z1o w1 f p) :
  Calls prog 40 #[v,f] w fun e w'=>∃v',e=.returned v'∧Zk w' v' (Ye p l)∧Z3v v'∧(∀b o n c,v'=.slice (some ⟨b,o,none⟩) n c→v.ownBlock=some b∨(Ye p l)=[])∧Zf (fun k=>v.ownBlock=some k) w w':=by
 have HI0:=Z8s v f p l w hl (Z9.at_ h) hf
 have hf':=hf
 obtain⟨gf,lb,rfl,eg,_⟩:=hf'
 obtain⟨hfo,-⟩:True∧True:=⟨trivial,trivial⟩
 obtain⟨px,hpx⟩:∃px,Z12 p l=px:=⟨_,rfl⟩
 rw[hpx] at HI0
 have HI:=hD0 HI0
 clear HI0
 rcases Vh p l with⟨h1,h2⟩ | ⟨j,h1,hj,he,hF⟩
 ·obtain rfl:=hpx.symm.trans h1
  obtain⟨a,c,rfl⟩:=(Z9.at_ h).form
  have HR:=hD0 h
  clear h hfr hf
  go_enter func40,ntmps40
  go_wp2_with (go_at_call 59;refine HI.out.mono ?_;rintro e w1 ⟨rfl,g1⟩)
  go_ret
  exact⟨_,rfl,by rw[Z2r h2];exact Z9.at_ (Yo HR.out g1),Z9.capE HR.out,fun b o n k e=>by
   rcases Ve HR.out with⟨e2,z⟩ | ⟨g,cap,e2⟩
   ·exact .inr (by rw[Z2r h2];exact List.length_eq_zero_iff.1 z)
   ·have e3:=e2.symm.trans e
    simp only[Value.slice.injEq,Option.some.injEq,Addr.mk.injEq] at e3
    refine .inl ?_
    rw[e2,←e3.1.1];rfl,Zf.nw g1⟩
 obtain rfl:=hpx.symm.trans h1
 obtain⟨g,cap,rfl,hg0,hgl,_⟩:=Z9.atE h hj
 have hcap:=Z9.capE h
 have hcap:l.length≤cap:=hcap
 have d0:((j:Int)==-1)=false:=by simp
 have HX:=hD0 (aI0 he hF)
 have HFr:=hD0 hfr
 have H:=hD0 h
 clear he hF hfr hf h
 go_enter func40,ntmps40
 go_wp2_with (go_at_call 59;refine HI.out.mono ?_;rintro e w1 ⟨rfl,g1⟩)
 have HD:Hid (Z2e p w w1 g0 g l.length cap j (j+1) l l):=hD0 ⟨by omega,hj,rfl,Z13 hj HX.out.1 HX.out.2,rfl,Yo H.out g1,Zf.nw g1⟩
 clear HX H HI g1
 case _ =>
  go_loopw [5,6] (fun i k wr=>∃(a b:Nat) (R:List (Int × Int)),i=.int .i64 a∧k=.int .i64 b∧Z2e p w wr g0 g l.length cap a b l R) (fun _ k _=>l.length-(intOf k).toNat)
  case atStart=>exact⟨j,j+1,l,rfl,by go_num,HD.out⟩
  case round =>
   obtain⟨a,b,R,rfl,rfl,hD⟩:=hrel
   have hab:=hD.ab
   have hbn:=hD.bn
   by_cases hlt:b<l.length
   ·obtain⟨hrb,hRb⟩:=Z5q hD.rest hlt hD.len
    obtain⟨s,hs⟩:∃s,l[b]=s:=⟨_,rfl⟩
    rw[hs] at hRb
    have Z2:∀c u,(Zc s)[c]?=some u→wr.cell? ⟨g,b*2+c,none⟩=some u:=fun c u hu=>U9 hD.row hD.len.symm b hrb c u (by rw[hRb];exact hu)
    have c0:=Z2 0 _ rfl
    have c1:=Z2 1 _ rfl
    simp only[Nat.add_zero] at c0
    have hgl:=Ut hD.row rfl
    have hT:=HFr.out wr (hD.tch.mono fun i _ e=>by rw[e];rfl)
    obtain⟨gf',lb',eqf,_,hTT⟩:=hT
    simp only[Value.func.injEq,Fn.func.injEq,true_and] at eqf
    obtain⟨rfl,rfl⟩:=eqf
    have HE:=hD0 (hTT s)
    obtain⟨B,hB⟩:∃B,p s=B:=⟨_,rfl⟩
    rw[hB] at HE
    have HB:=hD0 (show p l[b]=B by rw[hs];exact hB)
    have HS:=hD0 hs
    have HR:=hD0 hD
    clear hB Z2 hs hRb hTT
    have g6:Nw wr (wr.alloc (.cells #[.int .i64 s.1,.int .i64 s.2] 36)):=(Nw.refl wr).alloc _
    have hq6:=hD0 (aI0 (Z2 (j:=0) (Z4 wr (.cells #[.int .i64 s.1,.int .i64 s.2] 36))) (Z2 (j:=1) (Z4 wr (.cells #[.int .i64 s.1,.int .i64 s.2] 36))))
    cases B
    case true =>
     clear hD
     go_wp2_with (go_at_fn gf;refine(HE.out _ g6).mono ?_;rintro e w1 ⟨rfl,g1⟩)
     go_roundw
     case rel=>exact⟨a,b+1,R,rfl,by go_num,HR.out.skip hlt HB.out (g6.trans g1)⟩
     case measure=>simp[intOf];omega
    case false =>
     have har:a<R.length:=by have:=hD.len;omega
     have k0:∀c,c<2→∃u,wr.cell? ⟨g,a*2+c,none⟩=some u:=fun c hc=>by
      have:c<(Zc R[a]).length:=hc
      exact⟨_,U9 hD.row hD.len.symm a har c _ (List.getElem?_eq_getElem this)⟩
     obtain⟨y0,a0⟩:=k0 0 (by omega)
     obtain⟨y1,a1⟩:=k0 1 (by omega)
     simp only[Nat.add_zero] at a0
     have fz:=fun c=>Z2t hD.row hD.len.symm c
     have z0:=fz (a*2)
     have z1:=fz (a*2+1)
     have hRl:=hD.len
     have hai:(a:Int)<(l.length:Int):=by omega
     clear k0 fz hD
     go_wp2_with (go_at_fn gf;refine(HE.out _ g6).mono ?_;rintro e w1 ⟨rfl,g1⟩;obtain⟨hc1,hf1⟩:=g1.rlsE)
     go_roundw
     case rel=>exact⟨a+1,b+1,_,by go_num,by go_num,by have:=HR.out.move rfl hlt HB.out (g6.trans g1);rw[HS.out] at this;exact this⟩
     case measure=>simp[intOf];omega
   ·have hbe:b=l.length:=by omega
    subst hbe
    have HR:=hD0 hD
    have hlen:=hD.len
    have hcc:∀q,q<(l.length-a)*2→(wr.cell? ⟨g,a*2+q,none⟩).isSome=true:=fun q hq=>Z5u hD.row hlen.symm (a*2+q) (by omega)
    obtain⟨vs,hvs⟩:=Z42 wr g (a*2) (l.length-a) (cap-a) (by omega) hcc (fun q=>Z2t hD.row hlen.symm q)
    have e1:((l.length:Int)-(a:Int)).toNat=l.length-a:=by omega
    have hne:¬cap=a:=by omega
    clear hD hcc
    go_wp2
    go_ret
    have hfr:=HR.out.front
    rw[List.take_length] at hfr
    have hpl:(Ye p l).length=a:=by rw[←hfr,List.length_take];omega
    have hT:=Z0b g vs (a*2) wr
    refine⟨_,rfl,⟨_,cap,by rw[hpl];rfl,.inr ⟨g,0,rfl,lL0 (Ut HR.out.row rfl) hT.size,fun i hi c u hu=>?_⟩⟩,by show a≤cap;omega,fun b o n c e=>by
     injection e with e _ _
     injection e with e
     injection e with e _ _
     rw[←e];exact .inl rfl,(HR.out.tch.trans hT).mono fun i _ e=>by rw[e];rfl⟩
    have hc:c<2:=by have:=(List.getElem?_eq_some_iff.1 hu).1;simpa [Zc] using this
    rw[Nat.zero_add,World.cell?_setCells_out g vs _ wr _ (fun _ _=>.inl (show i*2+c<a*2 by omega))]
    have hiR:i<R.length:=by omega
    refine U9 HR.out.row hlen.symm i hiR c u ?_
    have hx:(Ye p l)[i]=R[i]:=by
     have:∀(M:List (Int × Int)) (e:R.take a=M) (h:i<M.length),M[i]=R[i]:=fun M e h=>by subst e;simp
     exact this _ hfr hi
    rw[←hx];exact hu
theorem Z2a(e:Int × Int){w:World}{B:Nat}{t:Int}(h:w.cell? ⟨B,0,none⟩=some (.int .i64 t)):Calls prog 42 #[egV e,.pointer (some ⟨B,0,none⟩)] w fun e' w'=>e'=.returned (.bool (decide (e.1=t) || decide (e.2=t)))∧Nw w w':=by
 obtain⟨a,b⟩:=e
 have g1:Nw w (w.alloc (.cells #[.int .i64 a,.int .i64 b] 36)):=(Nw.refl w).alloc _
 have hc:=g1.kp h
 have hal:=Z4 w (.cells #[.int .i64 a,.int .i64 b] 36)
 by_cases q:a=t
 ·have h1:(a==t)=true:=by simpa using q
  have e1:(decide (a=t) || decide (b=t))=true:=by simp[q]
  rw[e1]
  clear e1 q
  go_enter func42,ntmps42
  go_wp2
  go_ret
  exact⟨rfl,g1⟩
 ·have h1:(a==t)=false:=by simpa using q
  have e1:(decide (a=t) || decide (b=t))=(b==t):=by
   rw[decide_eq_false q,Bool.false_or]
   rfl
  rw[e1]
  clear e1
  go_enter func42,ntmps42
  go_wp2
  go_ret
  exact⟨rfl,g1⟩
theorem Z3r{w:World}{B:Nat}{t:Int}(h:w.cell? ⟨B,0,none⟩=some (.int .i64 t)):Z1o w (.func (.func 42) #[] #[.pointer (some ⟨B,0,none⟩)]) (fun e=>decide (e.1=t) || decide (e.2=t)):=by
 refine⟨42,_,rfl,enters_of func42 (by kernel_rfl) rfl,fun x w1 g=>?_⟩
 simp only[List.append_toArray,List.cons_append,List.nil_append]
 exact Z2a x (g.kp h)
theorem Z7h(l:List (Int × Int))(t:Int):Ye (fun e=>decide (e.1=t) || decide (e.2=t)) l=Zj l t:=by
 unfold Ye Zj
 congr 1
 funext e
 simp
theorem Z2b{w:World}{v:Value}{l:List (Int × Int)}(h:Zk w v l)(hl:l.length≤1000)(t:Int) :
  Calls prog 21 #[v,.int .i64 t] w fun e w'=>∃v',e=.returned v'∧Zk w' v' (Zj l t)∧Z3v v'∧(∀b o n c,v'=.slice (some ⟨b,o,none⟩) n c→w.heap.size≤b∨Zj l t=[])∧Nw w w':=by
 have g1:Nw w (w.alloc (.cells #[.int .i64 t] 3)):=(Nw.refl w).alloc _
 have hal:=Z4 w (.cells #[.int .i64 t] 3)
 obtain⟨w1,hw1⟩:∃x,w.alloc (.cells #[.int .i64 t] 3)=x:=⟨_,rfl⟩
 rw[hw1] at g1 hal
 have HW1:=hD0 hw1
 obtain⟨B,hB⟩:∃B,w.heap.size=B:=⟨_,rfl⟩
 have HB:=hD0 hB
 rw[hB] at hal
 have HAL:=hD0 (aI0 hal g1)
 have HC:=hD0 (Z6x v l w1 (Nat.le_trans hl (by decide)) (h.nw g1))
 obtain⟨a,c,rfl⟩:=h.form
 clear h hw1 hB g1 hal
 go_enter func21,ntmps21
 go_upto_region 1 with fail
 rw[HW1.out,HB.out]
 go_wp2_with fail
 refine HC.out.mono ?_
 rintro e w2 ⟨v2,rfl,g2,hO⟩
 have hc2:=g2.kp (Z2 (j:=0) HAL.out.1)
 have hB2:B<w1.heap.size:=hlt HAL.out.1
 have HD:=hD0 (Z6z (fun e=>decide (e.1=t) || decide (e.2=t)) _ _ v2 l w2 hl hO (Z3r hc2) (fun w3 ht=>Z3r ((ht.cell (lL0 hB2 g2.sz) (fun e=>by
  have:=Va hO e
  omega)).trans hc2)))
 have HG:=hD0 (aI0 (HAL.out.2.trans g2) (fun k (e:v2.ownBlock=some k)=>Nat.le_trans HAL.out.2.sz (Va hO e)))
 clear g2 hO hc2 hB2 HC
 go_wp2_with fail
 refine HD.out.mono ?_
 rintro e w3 ⟨v3,rfl,h3,hcp,hnb,ht⟩
 rw[Z7h] at h3 hnb
 have HZ:=hD0 (aI0 h3 (aI0 hcp (aI0 (show ∀b o n c,v3=.slice (some ⟨b,o,none⟩) n c→w.heap.size≤b∨Zj l t=[] from fun b o n c e=>(hnb b o n c e).elim (fun q=>.inl (HG.out.2 b q)) .inr) (Zm HG.out.1 ht (fun i e=>HG.out.2 i e)))))
 clear h3 hcp ht hnb HD
 go_wp2
 go_ret
 exact⟨_,rfl,HZ.out.1,HZ.out.2.1,HZ.out.2.2.1,HZ.out.2.2.2⟩
theorem Z8l{l:List (Int × Int)}{c:List Int}{b:Bool}(h:Yl l c b)(hF:∀e∈l,Z8 e.1∧Z8 e.2):∀x∈c,Z8 x:=by
 intro x hx
 obtain⟨i,hi,rfl⟩:=List.getElem_of_mem hx
 exact(hF _ (U6 h hi (Nat.lt_of_le_of_lt (Nat.zero_le _) hi))).1
theorem Ui{w0:World}{v va:Value}{l ages:List (Int × Int)}(h:Zk w0 v l)(hl:l.length≤900)(hF:∀e∈l,Z8 e.1∧Z8 e.2)(ha:Zk w0 va ages)(hal:ages.length≤1000)(hfa:∀e∈ages,Z8 e.1) :
  Calls prog 12 #[v,va] w0 fun e w'=>∃v' vs,e=.returned v'∧U5 w' w0.heap.size v' vs∧Vic ages l vs∧Nw w0 w':=by
 have HBy:=hD0 (Z16 ha hal hfa)
 have HB:=hD0 (aI0 hl (aI0 hF h))
 obtain⟨la,lc,rfl,_⟩:=h
 obtain⟨ga,gc,rfl,_⟩:=ha
 clear hF hfa
 go_enter func12,ntmps12
 go_wp2_with fail
 refine HBy.out.mono ?_
 rintro e w1 ⟨f,rfl,hC,g1⟩
 have HCm:=hD0 (fun(z:World) (g:Nw w1 z) (v:Value) (c:List Int) (hn:Vn z v c) (hcl:c.length≤200000) (hcf:∀x∈c,Z8 x)=>Vt hn (hC.nw g) hcl hcf)
 obtain⟨kf,lb,rfl,_⟩:=hC
 have HG1:=hD0 g1
 have H0:=hD0 (show VcI w1 ages l l [] (.slice la l.length lc) (.slice none 0 0) w1 from⟨HB.out.2.2.nw g1,World.ownsRow_nil _ _ _ _,fun b o n c _=>.inl (fun e=>nomatch e),Nw.refl _,fun e he=>he,by rw[Z1f];exact Nat.le_refl _,fun vs' q=>q⟩)
 clear g1 HBy
 go_wp2_with fail
 go_loopw [0,6] (fun v0 v6 wr=>∃(k:Nat) (l':List (Int × Int)) (vs:List Int) (a0:Option Addr) (c0:Nat) (a5:Option Addr) (b5 c5:Nat),v0=.slice a0 k c0∧v6=.slice a5 b5 c5∧Hid (VcI w1 ages l l' vs (.slice a0 k c0) (.slice a5 b5 c5) wr∧l'.length=k)) (fun v0 _ _=>Z9e v0)
 case atStart=>exact⟨_,l,[],_,_,_,_,_,rfl,rfl,hD0 ⟨H0.out,rfl⟩⟩
 case round =>
  clear H0
  obtain⟨k,l',vs,a0,c0,a5,b5,c5,rfl,rfl,HI⟩:=hrel
  have hl':l'.length≤900:=by have:=HI.out.1.len;have:=HB.out.1;omega
  have HL:=hD0 hl'
  have HFi:=hD0 (fun(e:Int × Int) (he:e∈l')=>HB.out.2.1 e (HI.out.1.sub e he))
  have HC:=hD0 (Z5m HI.out.1.at_ (Nat.le_trans HL.out (by decide)) HFi.out)
  clear hl'
  go_wp2_with fail
  refine HC.out.mono ?_
  rintro e w2 ⟨v2,c,is,rfl,hI2,hP,g2⟩
  have HG2:=hD0 g2
  have HP:=hD0 hP
  have HI2:=hD0 hI2
  have hcl:c.length≤200000:=by
   have:=Z2m hP
   have:=HL.out
   omega
  have HGr:=hD0 (HCm.out w2 (HI.out.1.nw.trans HG2.out) v2 c hI2.nm hcl (Z8l hP HFi.out))
  obtain⟨va2,vc2,rfl,_⟩:=hI2.box
  clear g2 HC hI2 hcl
  cases is with
  | false =>
   have hc:=hP.2.1 rfl
   subst hc
   have HGr:=hD0 (show Calls prog 18 #[.slice va2 ([]:List Int).length vc2,.func (.func kf) #[] lb] w2 fun e w'=>e=.returned (.tuple #[.int .i64 0,.bool false])∧Nw w2 w' from HGr.out)
   have HR:=hD0 (show ∀z,Nw w2 z→U5 z w0.heap.size (.slice a5 b5 c5) vs∧Vic ages l vs∧Nw w0 z from fun z g=>⟨Us (Yo HI.out.1.own (HG2.out.trans g)) (fun b e=>Nat.le_trans HG1.out.sz (Va HI.out.1.own e)),by
    have:=HI.out.1.vic [] (.done HP.out)
    rwa [List.append_nil] at this,HG1.out.trans (HI.out.1.nw.trans (HG2.out.trans g))⟩)
   clear hP HI HI2
   go_wp2_with fail
   refine HGr.out.mono ?_
   rintro e w3 ⟨rfl,g3⟩
   have HR3:=hD0 (HR.out w3 g3)
   clear g3 HR HGr
   go_wp2_with fail
   go_ret
   exact⟨_,vs,by rfl,HR3.out.1,HR3.out.2.1,HR3.out.2.2⟩
  | true =>
   obtain⟨a,r,hc,_⟩:=hP.2.2 rfl
   subst hc
   have HGr:=hD0 (show Calls prog 18 #[.slice va2 (a::r).length vc2,.func (.func kf) #[] lb] w2 fun e w'=>e=.returned (.tuple #[.int .i64 (Ze ages a r),.bool true])∧Nw w2 w' from HGr.out)
   obtain⟨q,hq⟩:∃q,Ze ages a r=q:=⟨_,rfl⟩
   have HQ:=hD0 hq
   rw[hq] at HGr
   clear hP hq
   go_wp2_with fail
   refine HGr.out.mono ?_
   rintro e w3 ⟨rfl,g3⟩
   obtain⟨gb,cc,w6,hr6,hO6,hE6,hb6,hN6⟩:=HI.out.1.push (Nat.le_trans HB.out.1 (by decide)) q (HG2.out.trans g3)
   obtain⟨n5,hn5⟩:∃n,vs.length+1=n:=⟨_,rfl⟩
   rw[hn5] at hr6 hO6
   have HR6:=hD0 hr6
   have H6:=hD0 (aI0 hO6 (aI0 hE6 (aI0 hb6 hN6)))
   have hb5:b5=vs.length:=by
    obtain⟨_,_,e,_⟩:=(Zu.is HI.out.1.own).box
    simp only[Value.slice.injEq] at e
    exact e.2.1
   have HW:=hD0 (Z2b hE6 (Nat.le_trans HL.out (by decide)) q)
   clear g3 hr6 hO6 hE6 hb6 hN6 HGr hb5 hn5
   go_wp2_with (at_builtin;refine Z6 (by rfl) (.tmp 27) (.tmp 29) 24 rfl _ _ _ _ rfl rfl HR6.out ?_)
   refine HW.out.mono ?_
   rintro e w7 ⟨v7,rfl,hE7,_,hnb,g7⟩
   have hE7':=hE7
   obtain⟨a7,c7,he7,_⟩:=hE7
   have HV:=hD0 (show VcI w1 ages l (Zj l' q) (vs++[q]) v7 (.slice (some ⟨gb,0,none⟩) n5 cc) w7∧(Zj l' q).length<l'.length from by
    have hd:(Zj l' q).length<l'.length:=Z19 HP.out (by rw[←HQ.out];exact(Vb ages a r).1)
    refine⟨⟨hE7',Yo H6.out.1 g7,fun b o n c e=>?_,H6.out.2.2.2.trans g7,fun e he=>HI.out.1.sub e (Z18.1 he).1,?_,fun vs' hv=>?_⟩,hd⟩
    ·rcases hnb b o n c e with k | k
     ·refine .inl (fun k2=>?_)
      have k3:gb=b:=Option.some.inj k2
      have:=H6.out.2.2.1
      omega
     ·exact .inr k
    ·have:=HI.out.1.len
     rw[List.length_append,List.length_singleton]
     omega
    ·rw[List.append_assoc]
     refine HI.out.1.vic _ ?_
     have:=Vic.step (ages:=ages) HP.out (vs:=vs') (by rw[HQ.out];exact hv)
     rw[HQ.out] at this
     exact this)
   have HM:=hD0 (show(Zj l' q).length<k from by rw[←HI.out.2];exact HV.out.2)
   subst he7
   clear hE7' hnb g7 HW HI H6 HP HQ HI2
   go_wp2_with fail
   exact⟨⟨_,Zj l' q,vs++[q],_,_,_,_,_,rfl,rfl,hD0 ⟨HV.out.1,rfl⟩⟩,HM.out⟩
theorem Z3i{w0:World}{v:Value}{ages:List (Int × Int)}(h:Zk w0 v ages)(hl:ages.length≤1000)(t:Int) :
  Calls prog 10 #[v,.int .i64 t] w0 fun e w'=>e=.returned (.int .i64 (Ym ages t))∧Nw w0 w':=by
 obtain⟨la,lc,rfl,hd⟩:=h
 have HD:=hD0 hd
 obtain⟨n,hn⟩:∃n,ages.length=n:=⟨_,rfl⟩
 have HN:=hD0 hn
 obtain⟨A,hA⟩:∃a,Ym ages t=a:=⟨_,rfl⟩
 have HA:=hD0 hA
 rw[hn] at hl ⊢
 rw[hA]
 clear hd hn hA
 go_enter func10,ntmps10
 go_wp2_with fail
 go_loopw [5] (fun v wr=>∃k:Nat,v=.int .i64 k∧k≤n∧Hid ((∀j,(h:j<ages.length)→j<k→ages[j].1≠t)∧Nw w0 wr)) (fun v _=>n-(intOf v).toNat)
 case atStart=>exact⟨0,rfl,Nat.zero_le _,hD0 ⟨fun j _ h=>absurd h (Nat.not_lt_zero j),Nw.refl _⟩⟩
 case round =>
  obtain⟨k,rfl,hk,HG⟩:=hrel
  by_cases hlt:k<n
  ·have hkl:k<ages.length:=by rw[HN.out];exact hlt
   rcases HD.out with⟨q,_⟩ | ⟨eb,eo,rfl,hrc⟩
   ·rw[q] at hkl;simp at hkl
   obtain⟨x0,x1⟩:=(hrc.nw HG.out.2).eg hkl
   have hebl:=(hrc.nw HG.out.2).lt
   obtain⟨s,hs⟩:∃s,ages[k]=s:=⟨_,rfl⟩
   have HY:=hD0 (show ∃h:k<ages.length,ages[k]=s from⟨hkl,hs⟩)
   simp only[hs] at x0 x1
   obtain⟨x,y⟩:=s
   simp only at x0 x1
   have Zr:=Zp hlt
   have hw:=Zo k (k+1) (by omega) rfl
   obtain⟨k1,hk1⟩:∃m,k+1=m:=⟨_,rfl⟩
   have HK1:=hD0 (aI0 hk1 hlt)
   rw[hk1] at hw
   clear hk1 hkl hrc hlt hs
   by_cases e:x=t
   ·have d1:(x==t)=true:=by simpa using e
    have HT:=hD0 (show A=y from by
     obtain⟨h1,h2⟩:=HY.out
     rw[←HA.out,Z4o h1 (fun j hj q=>HG.out.1 j hj q) (by rw[h2];exact e),h2])
    clear e
    go_wp2_with fail
    go_ret
    exact⟨by rw[HT.out];rfl,HG.out.2⟩
   ·have d1:(x==t)=false:=by simpa using e
    have HT:=hD0 (show ∀j,(h:j<ages.length)→j<k1→ages[j].1≠t from fun j hj q=>by
     rw[←HK1.out.1] at q
     rcases Nat.lt_or_ge j k with c | c
     ·exact HG.out.1 j hj c
     ·obtain rfl:j=k:=by omega
      obtain⟨h1,h2⟩:=HY.out
      rw[h2];exact e)
    clear e
    go_wp2_with fail
    exact⟨⟨k1,rfl,by rw[←HK1.out.1];exact HK1.out.2,hD0 ⟨HT.out,HG.out.2⟩⟩,by rw[←HK1.out.1];exact Zh HK1.out.2⟩
  ·obtain rfl:k=n:=Nat.le_antisymm hk (Nat.le_of_not_lt hlt)
   have Zr:¬k<k:=Nat.lt_irrefl k
   have HT:=hD0 (show A=0 from by
    rw[←HA.out]
    refine Z4p fun e he=>?_
    obtain⟨j,hj,rfl⟩:=List.getElem_of_mem he
    exact HG.out.1 j hj (by rw[←HN.out];exact hj))
   clear hlt
   go_wp2_with fail
   go_ret
   exact⟨by rw[HT.out];rfl,HG.out.2⟩
theorem Z4a{w0:World}{v:Value}{c:List Int}(h:Vn w0 v c)(hc:c=[])(va:Value) :
  Calls prog 8 #[v,va] w0 fun e w'=>e=.returned (.tuple #[.int .i64 0,.bool false])∧Nw w0 w':=by
 subst hc
 obtain⟨la,lc,rfl,_⟩:=h
 go_enter func8,ntmps8
 go_wp2_with fail
 exact bodyPost_ret (v:=.tuple #[.int .i64 0,.bool false]) (by simp[results,results8,go_sem, *]) rfl ⟨rfl,Nw.refl _⟩
theorem Un{w0:World}{v va:Value}{a:Int}{r:List Int}{ages:List (Int × Int)}(h:Vn w0 v (a::r))(ha:Zk w0 va ages)(hl:ages.length≤1000)(hr:r.length≤100000) :
  Calls prog 8 #[v,va] w0 fun e w'=>e=.returned (.tuple #[.int .i64 (Ze ages a r),.bool true])∧Nw w0 w':=by
 have HAg:=hD0 (fun(z:World) (g:Nw w0 z) (t:Int)=>Z3i (ha.nw g) hl t)
 obtain⟨la,lc,rfl,hx⟩:=h
 rcases hx with⟨q,_⟩ | ⟨lg,lo,rfl,hc⟩
 ·cases q
 have HI:=hD0 hc
 obtain⟨ga,gc,rfl,hd⟩:=ha
 clear hd
 have x0:w0.cell? ⟨lg,lo,none⟩=some (.int .i64 a):=by simpa using hc.cell 0 (by simp) 0 (.int .i64 a) rfl
 obtain⟨n,hn⟩:∃n,(a::r).length=n:=⟨_,rfl⟩
 have HN:=hD0 hn
 have hn2:n≤200000:=by rw[←hn,List.length_cons];omega
 have hn1:0<n:=by rw[←hn];simp
 have hn1':(0:Int)<(n:Int):=Int.ofNat_lt.2 hn1
 have dn:decide (n=0)=false:=by rw[decide_eq_false_iff_not];omega
 have dn':((n:Int)==0)=false:=by rw[beq_eq_false_iff_ne];omega
 have hlg:lg<w0.heap.size:=HI.out.lt
 clear hc
 rw[hn]
 obtain⟨V,hV⟩:∃V,Ze ages a r=V:=⟨_,rfl⟩
 have HV:=hD0 hV
 rw[hV]
 clear hn hV
 go_enter func8,ntmps8
 go_wp2_with fail
 clear x0
 go_loopw [6,7] (fun v6 v7 wr=>∃(k k1:Nat) (o:Int),v6=.int .i64 o∧v7=.int .i64 k1∧k1≤n∧Hid (k1=k+1∧o=Ze ages a (r.take k)∧Nw w0 wr)) (fun _ v7 _=>n-(intOf v7).toNat)
 case atStart=>exact⟨0,1,a,rfl,rfl,hn1,hD0 ⟨rfl,rfl,Nw.refl _⟩⟩
 case round =>
  obtain⟨k,k1,o,rfl,rfl,hk,HG⟩:=hrel
  by_cases hlt:k1<n
  ·have hkr:k<r.length:=by
    have:=HN.out
    have:=HG.out.1
    simp only[List.length_cons] at *
    omega
   have hk1l:k1<(a::r).length:=by rw[HN.out];exact hlt
   obtain⟨x,hx⟩:∃x,r[k]=x:=⟨_,rfl⟩
   have hax:(a::r)[k1]=x:=by
    rw[←hx]
    have:=HG.out.1
    subst this
    rfl
   have cx:wr.cell? ⟨lg,lo+k1,none⟩=some (.int .i64 x):=by
    have:=(HI.out.nw HG.out.2.2).cell k1 hk1l 0 (.int .i64 x) (by rw[hax];rfl)
    simpa using this
   have tx:∀z,Nw wr z→z.cell? ⟨lg,lo+k1,none⟩=some (.int .i64 x):=fun z g=>g.kp cx
   have HTx:=hD0 (aI0 tx (HI.out.nw HG.out.2.2).lt)
   have hlg2:=(HI.out.nw HG.out.2.2).lt
   have Zr:=Zp hlt
   have hw:=Zo k1 (k1+1) (by omega) rfl
   obtain⟨k2,hk2⟩:∃m,k1+1=m:=⟨_,rfl⟩
   have HK2:=hD0 (aI0 hk2 hlt)
   rw[hk2] at hw
   have HSn:=hD0 (show Ze ages a (r.take (k+1))=Yr ages o x from by
    rw[List.take_succ_eq_append_getElem hkr,V4,hx,←HG.out.2.1])
   have HA1:=hD0 (HAg.out wr HG.out.2.2 x)
   have HNw:=hD0 HG.out.2.2
   have HKk:=hD0 HG.out.1
   clear hk2 hkr hk1l hx hax hlt tx HG
   go_wp2_with fail
   clear cx hlg2
   refine HA1.out.mono ?_
   rintro e w1 ⟨rfl,g1⟩
   have HG1:=hD0 g1
   have HA2:=hD0 (HAg.out w1 (HNw.out.trans g1) o)
   clear g1 HA1
   go_wp2_with fail
   refine HA2.out.mono ?_
   rintro e w2 ⟨rfl,g2⟩
   have HG2:=hD0 (HG1.out.trans g2)
   have cx:=HTx.out.1 w2 HG2.out
   have hlg2:=lL0 HTx.out.2 HG2.out.sz
   clear g2 HA2 HG1
   obtain⟨A,hA⟩:∃y,Ym ages x=y:=⟨_,rfl⟩
   obtain⟨B,hB⟩:∃y,Ym ages o=y:=⟨_,rfl⟩
   have HAB:=hD0 (show Zy ages o x↔(B<A∨(B=A∧o<x)) from by unfold Zy;rw[hA,hB])
   rw[hA,hB]
   clear hA hB
   by_cases c1:B<A
   ·have d1:decide (B<A)=true:=decide_eq_true c1
    have HO:=hD0 (show x=Ze ages a (r.take (k+1)) from by
     rw[HSn.out];unfold Yr;rw[if_pos (HAB.out.2 (.inl c1))])
    clear c1
    go_wp2_with fail
    exact⟨⟨k+1,k2,x,rfl,rfl,by rw[←HK2.out.1];exact HK2.out.2,hD0 ⟨by rw[←HK2.out.1,HKk.out],HO.out,HNw.out.trans HG2.out⟩⟩,by rw[←HK2.out.1];exact Zh HK2.out.2⟩
   ·have d1:decide (B<A)=false:=decide_eq_false c1
    by_cases c2:A=B
    ·have d2:(A==B)=true:=by simpa using c2
     by_cases c3:o<x
     ·have d3:decide (o<x)=true:=decide_eq_true c3
      have HO:=hD0 (show x=Ze ages a (r.take (k+1)) from by
       rw[HSn.out];unfold Yr;rw[if_pos (HAB.out.2 (.inr ⟨c2.symm,c3⟩))])
      clear c1 c2 c3
      go_wp2_with fail
      exact⟨⟨k+1,k2,x,rfl,rfl,by rw[←HK2.out.1];exact HK2.out.2,hD0 ⟨by rw[←HK2.out.1,HKk.out],HO.out,HNw.out.trans HG2.out⟩⟩,by rw[←HK2.out.1];exact Zh HK2.out.2⟩
     ·have d3:decide (o<x)=false:=decide_eq_false c3
      have HO:=hD0 (show o=Ze ages a (r.take (k+1)) from by
       rw[HSn.out];unfold Yr;rw[if_neg (fun q=>(HAB.out.1 q).elim c1 (fun q=>c3 q.2))])
      clear c1 c2 c3
      go_wp2_with fail
      exact⟨⟨k+1,k2,o,rfl,rfl,by rw[←HK2.out.1];exact HK2.out.2,hD0 ⟨by rw[←HK2.out.1,HKk.out],HO.out,HNw.out.trans HG2.out⟩⟩,by rw[←HK2.out.1];exact Zh HK2.out.2⟩
    ·have d2:(A==B)=false:=by simpa using c2
     have HO:=hD0 (show o=Ze ages a (r.take (k+1)) from by
      rw[HSn.out];unfold Yr;rw[if_neg (fun q=>(HAB.out.1 q).elim c1 (fun q=>c2 q.1.symm))])
     clear c1 c2
     go_wp2_with fail
     exact⟨⟨k+1,k2,o,rfl,rfl,by rw[←HK2.out.1];exact HK2.out.2,hD0 ⟨by rw[←HK2.out.1,HKk.out],HO.out,HNw.out.trans HG2.out⟩⟩,by rw[←HK2.out.1];exact Zh HK2.out.2⟩
  ·obtain rfl:k1=n:=Nat.le_antisymm hk (Nat.le_of_not_lt hlt)
   have Zr:¬k1<k1:=Nat.lt_irrefl k1
   have HO:=hD0 (show o=V∧Nw w0 wr from⟨by
    rw[HG.out.2.1,←HV.out,List.take_of_length_le (by
     have:=HN.out
     have:=HG.out.1
     simp only[List.length_cons] at *
     omega)],HG.out.2.2⟩)
   clear hlt HG
   go_wp2_with fail
   refine bodyPost_ret (v:=.tuple #[.int .i64 V,.bool true]) (by simp[results,results8,go_sem,HO.out.1, *]) rfl ⟨rfl,HO.out.2⟩
theorem Z1j{w0:World}{v va:Value}{l ages:List (Int × Int)}(h:Zk w0 v l)(hl:l.length≤900)(hF:∀e∈l,Z8 e.1∧Z8 e.2)(ha:Zk w0 va ages)(hal:ages.length≤1000) :
  Calls prog 14 #[v,va] w0 fun e w'=>∃v' vs,e=.returned v'∧U5 w' w0.heap.size v' vs∧Vic ages l vs∧Nw w0 w':=by
 have HAg:=hD0 (fun(z:World) (g:Nw w0 z)=>(show Zk z va ages from ha.nw g))
 have H0:=hD0 (show VcI w0 ages l l [] v (.slice none 0 0) w0 from⟨h,World.ownsRow_nil _ _ _ _,fun b o n c _=>.inl (fun e=>nomatch e),Nw.refl _,fun e he=>he,by rw[Z1f];exact Nat.le_refl _,fun vs' q=>q⟩)
 have HB:=hD0 (aI0 hl (aI0 hF hal))
 obtain⟨la,lc,rfl,_⟩:=h
 obtain⟨ga,gc,rfl,_⟩:=ha
 clear hF
 go_enter func14,ntmps14
 go_wp2_with fail
 go_loopw [0,5] (fun v0 v5 wr=>∃(k:Nat) (l':List (Int × Int)) (vs:List Int) (a0:Option Addr) (c0:Nat) (a5:Option Addr) (b5 c5:Nat),v0=.slice a0 k c0∧v5=.slice a5 b5 c5∧Hid (VcI w0 ages l l' vs (.slice a0 k c0) (.slice a5 b5 c5) wr∧l'.length=k)) (fun v0 _ _=>Z9e v0)
 case atStart=>exact⟨_,l,[],_,_,_,_,_,rfl,rfl,hD0 ⟨H0.out,rfl⟩⟩
 case round =>
  clear H0
  obtain⟨k,l',vs,a0,c0,a5,b5,c5,rfl,rfl,HI⟩:=hrel
  have hl':l'.length≤900:=by have:=HI.out.1.len;have:=HB.out.1;omega
  have HL:=hD0 hl'
  have HC:=hD0 (Z4b HI.out.1.at_ HL.out)
  clear hl'
  go_wp2_with fail
  refine HC.out.mono ?_
  rintro e w2 ⟨v2,c,is,rfl,hI2,hP,g2⟩
  have HG2:=hD0 g2
  have HP:=hD0 hP
  clear g2 HC
  cases is with
  | false =>
   have hc:=hP.2.1 rfl
   subst hc
   have HR:=hD0 (show U5 w2 w0.heap.size (.slice a5 b5 c5) vs∧Vic ages l vs∧Nw w0 w2 from⟨Yo HI.out.1.own HG2.out,by
    have:=HI.out.1.vic [] (.done HP.out)
    rwa [List.append_nil] at this,HI.out.1.nw.trans HG2.out⟩)
   clear hI2 hP HI
   go_wp2_with fail
   go_ret
   exact⟨_,vs,rfl,HR.out.1,HR.out.2.1,HR.out.2.2⟩
  | true =>
   obtain⟨a,r,hc,_⟩:=hP.2.2 rfl
   subst hc
   have HI2:=hD0 hI2
   have hrl:r.length≤100000:=by
    have:=Z2m hP
    have:=HL.out
    simp only[List.length_cons] at *
    omega
   have HCh:=hD0 (Un hI2.nm (HAg.out w2 (HI.out.1.nw.trans HG2.out)) HB.out.2.2 hrl)
   obtain⟨q,hq⟩:∃q,Ze ages a r=q:=⟨_,rfl⟩
   have HQ:=hD0 hq
   rw[hq] at HCh
   clear hI2 hP hrl hq
   go_wp2_with fail
   refine HCh.out.mono ?_
   rintro e w3 ⟨rfl,g3⟩
   obtain⟨gb,cc,w6,hr6,hO6,hE6,hb6,hN6⟩:=HI.out.1.push (Nat.le_trans HB.out.1 (by decide)) q (HG2.out.trans g3)
   obtain⟨n5,hn5⟩:∃n,vs.length+1=n:=⟨_,rfl⟩
   rw[hn5] at hr6 hO6
   have HR6:=hD0 hr6
   have H6:=hD0 (aI0 hO6 (aI0 hE6 (aI0 hb6 hN6)))
   have hb5:b5=vs.length:=by
    obtain⟨_,_,e,_⟩:=(Zu.is HI.out.1.own).box
    simp only[Value.slice.injEq] at e
    exact e.2.1
   have HW:=hD0 (Z27 hE6 (Nat.le_trans HL.out (by decide)) q)
   clear g3 hr6 hO6 hE6 hb6 hN6 HCh hb5 hn5
   go_wp2_with (at_builtin;refine Z6 (by rfl) (.tmp 24) (.tmp 26) 24 rfl _ _ _ _ rfl rfl HR6.out ?_)
   refine HW.out.mono ?_
   rintro e w7 ⟨v7,rfl,hO7,g7⟩
   have hE7:=Z9.at_ hO7
   have hE7':=hE7
   have hnb:=hO7
   obtain⟨a7,c7,he7,_⟩:=hE7
   have HV:=hD0 (show VcI w0 ages l (Zj l' q) (vs++[q]) v7 (.slice (some ⟨gb,0,none⟩) n5 cc) w7∧(Zj l' q).length<l'.length from by
    have hd:(Zj l' q).length<l'.length:=Z19 HP.out (by rw[←HQ.out];exact(Vb ages a r).1)
    refine⟨⟨hE7',Yo H6.out.1 g7,fun b o n c e=>?_,H6.out.2.2.2.trans g7,fun e he=>HI.out.1.sub e (Z18.1 he).1,?_,fun vs' hv=>?_⟩,hd⟩
    ·rcases(show w6.heap.size≤b∨Zj l' q=[] from .inl (by
      subst e
      exact Va hnb rfl))with k | k
     ·refine .inl (fun k2=>?_)
      have k3:gb=b:=Option.some.inj k2
      have:=H6.out.2.2.1
      omega
     ·exact .inr k
    ·have:=HI.out.1.len
     rw[List.length_append,List.length_singleton]
     omega
    ·rw[List.append_assoc]
     refine HI.out.1.vic _ ?_
     have:=Vic.step (ages:=ages) HP.out (vs:=vs') (by rw[HQ.out];exact hv)
     rw[HQ.out] at this
     exact this)
   have HM:=hD0 (show(Zj l' q).length<k from by rw[←HI.out.2];exact HV.out.2)
   subst he7
   clear hE7' hnb g7 HW HI H6 HP HQ HI2
   go_wp2_with fail
   exact⟨⟨_,Zj l' q,vs++[q],_,_,_,_,_,rfl,rfl,hD0 ⟨HV.out.1,rfl⟩⟩,HM.out⟩
def bkF(r:Rq)(o:Rq):Bool:=!(o.id==r.id)&&blk r o
def bkA(r:Rq)(q:List Rq)(k:Nat):List Int:=((q.take k).filter (bkF r)).foldl (fun l o=>Yf o.txn l) []
theorem Z8b(r:Rq)(q:List Rq)(k:Nat):(bkA r q k).length≤q.length:=by
 have h:∀(l:List Rq) (s:List Int),(l.foldl (fun l o=>Yf o.txn l) s).length≤s.length+l.length:=by
  intro l
  induction l with
  | nil=>intro s;simp
  | cons x l ih =>
   intro s
   rw[List.foldl_cons]
   refine Nat.le_trans (ih _) ?_
   have:∀(n:Int) (s:List Int),(Yf n s).length≤s.length+1:=by
    intro n s
    induction s with
    | nil=>simp[Yf]
    | cons y s ih2 =>
     unfold Yf
     split
     ·simp;omega
     ·split<;>simp
   have:=this x.txn s
   simp;omega
 have h1:=h ((q.take k).filter (bkF r)) []
 have h2:=List.length_filter_le (bkF r) (q.take k)
 have h3:(q.take k).length≤q.length:=by simp;omega
 unfold bkA
 simp at h1;omega
theorem Z6k(r:Rq)(q:List Rq)(k:Nat)(hk:k<q.length):bkA r q (k+1)=if bkF r q[k]=true then Yf q[k].txn (bkA r q k)else bkA r q k:=by
 unfold bkA
 rw[List.take_add_one,List.getElem?_eq_getElem hk,List.filter_append,List.foldl_append]
 by_cases h:bkF r q[k]=true
 ·rw[if_pos h];simp[h]
 ·rw[if_neg h];simp[h]
theorem Z8a(r:Rq)(q:List Rq):bkA r q q.length=Z09 q r:=by
 unfold bkA Z09 bkF
 rw[List.take_length]
theorem IS.sl{w:World}{v:Value}{l:List Int}(h:IS w v l):∃ao cap,v=.slice ao l.length cap:=by
 obtain⟨ao,cap,e,_⟩:=h.box
 exact⟨ao,cap,e⟩
theorem Z3g(t r W id:Int)(v:Value)(q:List Rq)(w:World)(hl:q.length≤900)(hok:Ok W q)(h:Ur w v q) :
  Calls prog 50 #[hdV t r v W,.int .i64 id] w fun e w'=>∃v',e=.returned v'∧Nw w w'∧U5 w' w.heap.size v' (Yi q id):=by
 have HOk:=hD0 hok
 clear hok
 obtain⟨X,hX⟩:∃X,Yi q id=X:=⟨_,rfl⟩
 rw[hX]
 have HXx:=hD0 hX
 clear hX
 have HAt:=hD0 (fun(w1:World) (g:Nw w w1)=>Zc5 t r W id v q w1 (by omega) (h.nw g))
 have HH:=hD0 h
 obtain⟨a,c,rfl⟩:=h.form
 unfold hdV at HAt ⊢
 obtain⟨n,hn⟩:∃n,q.length=n:=⟨_,rfl⟩
 rw[hn] at HAt HH hl ⊢
 have HNn:=hD0 hn
 clear hn h
 have hp:=Z4 w (.cells #[.int .i64 t,.int .i64 r,.slice a n c,.int .i64 W] 43)
 obtain⟨w0,hw0⟩:∃x,w.alloc (.cells #[.int .i64 t,.int .i64 r,.slice a n c,.int .i64 W] 43)=x:=⟨_,rfl⟩
 have hN0:Nw w w0:=by rw[←hw0];exact(Nw.refl _).alloc _
 rw[hw0] at hp
 obtain⟨p,hpp⟩:∃x,w.heap.size=x:=⟨_,rfl⟩
 rw[hpp] at hp
 have HE:=hD0 (aI0 hw0 hpp)
 have H0:=hD0 (aI0 hp hN0)
 have c0:=Z2 (j:=0) hp
 have c1:=Z2 (j:=1) hp
 have c2:=Z2 (j:=2) hp
 have c3:=Z2 (j:=3) hp
 have cl:=hlt hp
 clear hw0 hpp hp hN0
 go_enter func50,ntmps50
 go_wp2_with fail
 rw[HE.out.1,HE.out.2]
 try go_wp2_with fail
 go_at_call 69
 refine(HAt.out _ H0.out.2).mono ?_
 rintro e w1 ⟨i,rfl,g1,hi⟩
 have H1:=hD0 (aI0 (g1.at' H0.out.1) (H0.out.2.trans g1))
 clear c0 c1 c2 c3 cl g1 H0 HE HAt
 rcases hi with⟨rfl,hf⟩ | ⟨k,rfl,hk,hf⟩
 ·have HR:=hD0 (HXx.out.symm.trans (show Yi q id=[] by unfold Yi;rw[hf]))
  clear hf HXx
  go_wp2
  go_ret
  exact⟨_,rfl,H1.out.2,by rw[HR.out];exact World.ownsRow_nil _ _ _ _⟩
 have hkn:k<n:=by rw[←HNn.out];exact hk
 have hki:(k:Int)<(n:Int):=by omega
 obtain⟨ax,cx,ex,hx⟩:=HH.out.nw H1.out.2
 simp only[Value.slice.injEq] at ex
 obtain⟨rfl,-,rfl⟩:=ex
 obtain⟨hq0,_⟩ | ⟨rb,ro,rfl,hrc⟩:=hx
 ·rw[hq0] at hk;simp at hk
 have hce:=hrc.cell k hk
 have HRc:=hD0 hrc
 have HR0:=hD0 (HXx.out.symm.trans (show Yi q id=if 0<q[k].sn then Z09 q q[k] else[] by unfold Yi;rw[hf]))
 have HNe:=hD0 (show ∀m (hm:m<q.length),m≠k→(q[m].id==q[k].id)=false from fun m hm ne=>by have:=Zbd HOk.out hm hk ne;simpa using this)
 obtain⟨R,hR⟩:∃R,q[k]=R:=⟨_,rfl⟩
 simp only[hR] at hce HR0 HNe
 have HRk:=hD0 (show ∃h:k<q.length,q[k]=R from⟨hk,hR⟩)
 have m0:=hce 0 _ rfl
 have m1:=hce 1 _ rfl
 have m2:=hce 2 _ rfl
 have m3:=hce 3 _ rfl
 have m4:=hce 4 _ rfl
 simp only[Nat.add_zero] at m0
 have hrl:=hrc.lt
 obtain⟨r0,r1,r2,r3,r4⟩:=R
 have c2:=Z2 (j:=2) H1.out.1
 have cl:=hlt H1.out.1
 have HWt:=hD0 (Zg r0 r1 r2 r3 r4)
 have dk:decide ((k:Int)<0)=false:=by rw[decide_eq_false_iff_not];omega
 clear hce hrc hR hf hk HXx
 by_cases hs:0<r4
 rotate_left
 ·have ds:decide (0<r4)=false:=decide_eq_false hs
  rw[ds] at HWt
  have HR:=hD0 (HR0.out.trans (if_neg hs))
  clear hs HR0 HNe
  go_wp2_with fail
  go_at_call 25
  refine(HWt.out _).mono ?_
  rintro e w2 ⟨rfl,g2⟩
  go_wp2
  go_ret
  exact⟨_,rfl,H1.out.2.trans g2,by rw[HR.out];exact World.ownsRow_nil _ _ _ _⟩
 have ds:decide (0<r4)=true:=decide_eq_true hs
 rw[ds] at HWt
 have HR:=hD0 (HR0.out.trans (if_pos hs))
 clear hs HR0
 go_wp2_with fail
 go_at_call 25
 refine(HWt.out _).mono ?_
 rintro e w2 ⟨rfl,g2⟩
 have hb2:=g2.at' H1.out.1
 have HRc2:=hD0 (HRc.out.nw g2)
 have hc2:=HRc2.out.cell
 have m0:=g2.kp m0
 have m1:=g2.kp m1
 have m2:=g2.kp m2
 have m3:=g2.kp m3
 have m4:=g2.kp m4
 have hrl:=HRc2.out.lt
 have c2:=Z2 (j:=2) hb2
 have cl:=hlt hb2
 have HN2:=hD0 (H1.out.2.trans g2)
 have hb3:=Z4 w2 (.cells #[.int .i64 r0,.int .i64 r1,.int .i64 r2,.int .i64 r3,.int .i64 r4] 56)
 obtain⟨w3,hw3⟩:∃x,w2.alloc (.cells #[.int .i64 r0,.int .i64 r1,.int .i64 r2,.int .i64 r3,.int .i64 r4] 56)=x:=⟨_,rfl⟩
 have g3:Nw w2 w3:=by rw[←hw3];exact(Nw.refl _).alloc _
 rw[hw3] at hb3
 obtain⟨B,hB⟩:∃x,w2.heap.size=x:=⟨_,rfl⟩
 rw[hB] at hb3
 have HE:=hD0 (aI0 hw3 hB)
 have H3:=hD0 (aI0 (g3.at' hb2) (aI0 hb3 (aI0 (HRc2.out.nw g3) (HN2.out.trans g3))))
 clear hb2 hc2 hw3 hB hb3 g3 g2 HRc HRc2 HN2 HWt H1
 go_wp2
 rw[HE.out.1,HE.out.2]
 clear HE m0 m1 m2 m3 m4 hrl c2 cl
 have HAcc:=hD0 (Z8b ⟨r0,r1,r2,r3,r4⟩ q)
 have HSt:=hD0 (Z6k ⟨r0,r1,r2,r3,r4⟩ q)
 have HAl:=hD0 (Z8a ⟨r0,r1,r2,r3,r4⟩ q)
 obtain⟨Ac,hAc⟩:∃f,bkA ⟨r0,r1,r2,r3,r4⟩ q=f:=⟨_,rfl⟩
 rw[hAc] at HAcc HSt HAl
 have HA0:=hD0 (show Ac 0=[] by rw[←hAc];rfl)
 clear hAc
 go_loopw [7,8] (fun u i wr=>∃m:Nat,i=.int .i64 m∧m≤n∧U5 wr w.heap.size u (Ac m)∧Nw w3 wr) (fun _ i _=>n-(intOf i).toNat)
 case atStart=>exact⟨0,rfl,Nat.zero_le _,by rw[HA0.out];exact World.ownsRow_nil _ _ _ _,Nw.refl _⟩
 case round =>
  obtain⟨m,rfl,hm,hI,hG⟩:=hrel
  obtain⟨ua,uc,rfl⟩:=(Zu.is hI).sl
  obtain⟨un,hun⟩:∃x,(Ac m).length=x:=⟨_,rfl⟩
  rw[hun] at hI
  have HI:=hD0 (aI0 hI hun)
  have HG:=hD0 hG
  rw[hun]
  clear hI hun
  have hbh:=hG.at' H3.out.1
  have c2:=Z2 (j:=2) hbh
  have cl:=hlt hbh
  by_cases hmn:m<n
  rotate_left
  ·have dm:decide ((m:Int)<(n:Int))=false:=by rw[decide_eq_false_iff_not];omega
   have dm':decide (m<n)=false:=by rw[decide_eq_false_iff_not];omega
   have HM:=hD0 (show m=n by omega)
   clear hbh hG hm hmn
   go_wp2
   go_ret
   exact⟨_,rfl,H3.out.2.2.2.trans HG.out,by rw[HR.out,←HAl.out,HNn.out,←HM.out];exact HI.out.1⟩
  have dm:decide ((m:Int)<(n:Int))=true:=by rw[decide_eq_true_iff];omega
  have hmi:(m:Int)<(n:Int):=by omega
  have hmq:m<q.length:=by rw[HNn.out];exact hmn
  have hce:=(H3.out.2.2.1.nw hG).cell m hmq
  have hrl:=(H3.out.2.2.1.nw hG).lt
  have hst:=HSt.out m hmq
  have hid:=HNe.out m hmq
  have hidk:=HRk.out
  obtain⟨O,hO⟩:∃O,q[m]=O:=⟨_,rfl⟩
  rw[hO] at hst hce hid
  have m0:=hce 0 _ rfl
  have m1:=hce 1 _ rfl
  have m2:=hce 2 _ rfl
  have m3:=hce 3 _ rfl
  have m4:=hce 4 _ rfl
  simp only[Nat.add_zero] at m0
  obtain⟨o0,o1,o2,o3,o4⟩:=O
  by_cases hkm:m=k
  ·have hnx:Ac (m+1)=Ac m:=by
    rw[hst,if_neg]
    subst hkm
    obtain⟨h1,h2⟩:=hidk
    rw[hO] at h2
    unfold bkF
    rw[h2];simp
   have HX:=hD0 hnx
   subst hkm
   have dk2:((m:Int)==(m:Int))=true:=by simp
   clear hst hid hidk hO hnx hce hbh hG hmq
   go_wp2
   go_roundw
   case rel=>exact⟨m+1,by go_num,by omega,by rw[HX.out];exact Yo HI.out.1 ((Nw.refl _).alloc _),HG.out.alloc _⟩
   case measure=>simp[intOf];omega
  have dk2:((m:Int)==(k:Int))=false:=by simp;omega
  have hid':=hid hkm
  have hst':Ac (m+1)=if blk ⟨r0,r1,r2,r3,r4⟩ ⟨o0,o1,o2,o3,o4⟩=true then Yf o1 (Ac m)else Ac m:=by
   rw[hst]
   unfold bkF
   rw[hid'];rfl
  have HSt':=hD0 hst'
  have HO1:=hD0 (Zi o0 o1 o2 o3 o4)
  have HO2:=hD0 (Zg o0 o1 o2 o3 o4)
  have HR1:=hD0 (Zi r0 r1 r2 r3 r4)
  have HCp:=hD0 (Z7l o2 r3)
  obtain⟨w4,hw4⟩:∃x,wr.alloc (.cells #[.int .i64 o0,.int .i64 o1,.int .i64 o2,.int .i64 o3,.int .i64 o4] 56)=x:=⟨_,rfl⟩
  have hb4:=Z4 wr (.cells #[.int .i64 o0,.int .i64 o1,.int .i64 o2,.int .i64 o3,.int .i64 o4] 56)
  have g4:Nw wr w4:=by rw[←hw4];exact(Nw.refl _).alloc _
  rw[hw4] at hb4
  obtain⟨B4,hB4⟩:∃x,wr.heap.size=x:=⟨_,rfl⟩
  rw[hB4] at hb4
  have HE:=hD0 (aI0 hw4 hB4)
  have hbr:=(hG.trans g4).at' H3.out.2.1
  have HG4:=hD0 (aI0 (hG.trans g4) (Yo HI.out.1 g4))
  have HPu:=hD0 (fun(y:World) (hy:Nw w4 y)=>Zap o1 (.slice ua un uc) (Ac m) y (by have:=HAcc.out m;have:=HNn.out;omega) (Yo HG4.out.2 hy) ((H3.out.2.2.2.trans (HG4.out.1.trans hy)).sz))
  have s0:∀y,Nw w4 y→y.cell? ⟨B4,0,none⟩=some (.int .i64 o0):=fun y hy=>hy.kp (Z2 (j:=0) hb4)
  have s1:∀y,Nw w4 y→y.cell? ⟨B4,1,none⟩=some (.int .i64 o1):=fun y hy=>hy.kp (Z2 (j:=1) hb4)
  have s2:∀y,Nw w4 y→y.cell? ⟨B4,2,none⟩=some (.int .i64 o2):=fun y hy=>hy.kp (Z2 (j:=2) hb4)
  have s3:∀y,Nw w4 y→y.cell? ⟨B4,3,none⟩=some (.int .i64 o3):=fun y hy=>hy.kp (Z2 (j:=3) hb4)
  have s4:∀y,Nw w4 y→y.cell? ⟨B4,4,none⟩=some (.int .i64 o4):=fun y hy=>hy.kp (Z2 (j:=4) hb4)
  have t0:∀y,Nw w4 y→y.cell? ⟨B,0,none⟩=some (.int .i64 r0):=fun y hy=>hy.kp (Z2 (j:=0) hbr)
  have t1:∀y,Nw w4 y→y.cell? ⟨B,1,none⟩=some (.int .i64 r1):=fun y hy=>hy.kp (Z2 (j:=1) hbr)
  have t2:∀y,Nw w4 y→y.cell? ⟨B,2,none⟩=some (.int .i64 r2):=fun y hy=>hy.kp (Z2 (j:=2) hbr)
  have t3:∀y,Nw w4 y→y.cell? ⟨B,3,none⟩=some (.int .i64 r3):=fun y hy=>hy.kp (Z2 (j:=3) hbr)
  have t4:∀y,Nw w4 y→y.cell? ⟨B,4,none⟩=some (.int .i64 r4):=fun y hy=>hy.kp (Z2 (j:=4) hbr)
  have HMn:=hD0 hmn
  clear hst hst' hid hid' hidk hO hce hbh hG hmq hbr hb4 g4 hw4 hB4 hkm hmn hm
  go_wp2_with fail
  rw[HE.out.1,HE.out.2]
  clear c2 cl m0 m1 m2 m3 m4 hrl HE
  have hN:Nw w4 w4:=Nw.refl _
  obtain⟨A,hA⟩:∃x,(o2 != 0)=x:=⟨_,rfl⟩
  obtain⟨C,hC⟩:∃x,cpI o2 r3=x:=⟨_,rfl⟩
  obtain⟨S,hS⟩:∃x,decide (0<o4)=x:=⟨_,rfl⟩
  obtain⟨M,hM⟩:∃x,(r2 != 0)=x:=⟨_,rfl⟩
  obtain⟨D,hD⟩:∃x,decide (o4<r4)=x:=⟨_,rfl⟩
  have HBk:=hD0 (show blk ⟨r0,r1,r2,r3,r4⟩ ⟨o0,o1,o2,o3,o4⟩=((A&&!C) || (A&&S&&(!M || D)) || (!M&&!A&&D)) by
   unfold blk
   simp only[hA,hC,hS,hD]
   rw[show(r2==0)=!M by rw[←hM];simp[bne],show(o2==0)=!A by rw[←hA];simp[bne]])
  rw[hA] at HO1
  rw[hS] at HO2
  rw[hM] at HR1
  rw[hC] at HCp
  clear hA hS hM hC
  cases A
  case false =>
   cases M
   case false =>
    cases D
    case false =>
     go_wp2_with (first | (go_at_call 26;(first | (with_reducible refine(HO1.out _).mono ?_) | (with_reducible refine(HR1.out _).mono ?_));rintro e y ⟨rfl,g⟩;replace hN:=hN.trans g;clear g) | (go_at_call 25;(with_reducible refine(HO2.out _).mono ?_);rintro e y ⟨rfl,g⟩;replace hN:=hN.trans g;clear g) | (go_at_call 27;(with_reducible refine(HCp.out _).mono ?_);rintro e y ⟨rfl,g⟩;replace hN:=hN.trans g;clear g) | (go_at_call 70;(with_reducible refine(HPu.out _ hN).mono ?_);rintro e y ⟨pv,rfl,g,hP⟩;have HP:=hD0 hP;clear hP;replace hN:=hN.trans g;clear g))
     have HNy:=hD0 hN
     clear hN
     go_roundw
     case rel=>exact⟨m+1,by go_num,HMn.out,by rw[HSt'.out,if_neg (by rw[HBk.out];simp)];exact Yo HG4.out.2 HNy.out,HG4.out.1.trans HNy.out⟩
     case measure=>have:=HMn.out;simp[intOf];omega
    case true =>
     go_wp2_with (first | (go_at_call 26;(first | (with_reducible refine(HO1.out _).mono ?_) | (with_reducible refine(HR1.out _).mono ?_));rintro e y ⟨rfl,g⟩;replace hN:=hN.trans g;clear g) | (go_at_call 25;(with_reducible refine(HO2.out _).mono ?_);rintro e y ⟨rfl,g⟩;replace hN:=hN.trans g;clear g) | (go_at_call 27;(with_reducible refine(HCp.out _).mono ?_);rintro e y ⟨rfl,g⟩;replace hN:=hN.trans g;clear g) | (go_at_call 70;(with_reducible refine(HPu.out _ hN).mono ?_);rintro e y ⟨pv,rfl,g,hP⟩;have HP:=hD0 hP;clear hP;replace hN:=hN.trans g;clear g))
     have HNy:=hD0 hN
     clear hN
     go_roundw
     case rel=>exact⟨m+1,by go_num,HMn.out,by rw[HSt'.out,if_pos (by rw[HBk.out];simp)];exact HP.out,HG4.out.1.trans HNy.out⟩
     case measure=>have:=HMn.out;simp[intOf];omega
   case true =>
    go_wp2_with (first | (go_at_call 26;(first | (with_reducible refine(HO1.out _).mono ?_) | (with_reducible refine(HR1.out _).mono ?_));rintro e y ⟨rfl,g⟩;replace hN:=hN.trans g;clear g) | (go_at_call 25;(with_reducible refine(HO2.out _).mono ?_);rintro e y ⟨rfl,g⟩;replace hN:=hN.trans g;clear g) | (go_at_call 27;(with_reducible refine(HCp.out _).mono ?_);rintro e y ⟨rfl,g⟩;replace hN:=hN.trans g;clear g) | (go_at_call 70;(with_reducible refine(HPu.out _ hN).mono ?_);rintro e y ⟨pv,rfl,g,hP⟩;have HP:=hD0 hP;clear hP;replace hN:=hN.trans g;clear g))
    have HNy:=hD0 hN
    clear hN
    go_roundw
    case rel=>exact⟨m+1,by go_num,HMn.out,by rw[HSt'.out,if_neg (by rw[HBk.out];simp)];exact Yo HG4.out.2 HNy.out,HG4.out.1.trans HNy.out⟩
    case measure=>have:=HMn.out;simp[intOf];omega
  case true =>
   cases C
   case false =>
    cases S
    case false =>
     cases M
     case false =>
      go_wp2_with (first | (go_at_call 26;(first | (with_reducible refine(HO1.out _).mono ?_) | (with_reducible refine(HR1.out _).mono ?_));rintro e y ⟨rfl,g⟩;replace hN:=hN.trans g;clear g) | (go_at_call 25;(with_reducible refine(HO2.out _).mono ?_);rintro e y ⟨rfl,g⟩;replace hN:=hN.trans g;clear g) | (go_at_call 27;(with_reducible refine(HCp.out _).mono ?_);rintro e y ⟨rfl,g⟩;replace hN:=hN.trans g;clear g) | (go_at_call 70;(with_reducible refine(HPu.out _ hN).mono ?_);rintro e y ⟨pv,rfl,g,hP⟩;have HP:=hD0 hP;clear hP;replace hN:=hN.trans g;clear g))
      have HNy:=hD0 hN
      clear hN
      go_roundw
      case rel=>exact⟨m+1,by go_num,HMn.out,by rw[HSt'.out,if_pos (by rw[HBk.out];simp)];exact HP.out,HG4.out.1.trans HNy.out⟩
      case measure=>have:=HMn.out;simp[intOf];omega
     case true =>
      go_wp2_with (first | (go_at_call 26;(first | (with_reducible refine(HO1.out _).mono ?_) | (with_reducible refine(HR1.out _).mono ?_));rintro e y ⟨rfl,g⟩;replace hN:=hN.trans g;clear g) | (go_at_call 25;(with_reducible refine(HO2.out _).mono ?_);rintro e y ⟨rfl,g⟩;replace hN:=hN.trans g;clear g) | (go_at_call 27;(with_reducible refine(HCp.out _).mono ?_);rintro e y ⟨rfl,g⟩;replace hN:=hN.trans g;clear g) | (go_at_call 70;(with_reducible refine(HPu.out _ hN).mono ?_);rintro e y ⟨pv,rfl,g,hP⟩;have HP:=hD0 hP;clear hP;replace hN:=hN.trans g;clear g))
      have HNy:=hD0 hN
      clear hN
      go_roundw
      case rel=>exact⟨m+1,by go_num,HMn.out,by rw[HSt'.out,if_pos (by rw[HBk.out];simp)];exact HP.out,HG4.out.1.trans HNy.out⟩
      case measure=>have:=HMn.out;simp[intOf];omega
    case true =>
     cases M
     case false =>
      go_wp2_with (first | (go_at_call 26;(first | (with_reducible refine(HO1.out _).mono ?_) | (with_reducible refine(HR1.out _).mono ?_));rintro e y ⟨rfl,g⟩;replace hN:=hN.trans g;clear g) | (go_at_call 25;(with_reducible refine(HO2.out _).mono ?_);rintro e y ⟨rfl,g⟩;replace hN:=hN.trans g;clear g) | (go_at_call 27;(with_reducible refine(HCp.out _).mono ?_);rintro e y ⟨rfl,g⟩;replace hN:=hN.trans g;clear g) | (go_at_call 70;(with_reducible refine(HPu.out _ hN).mono ?_);rintro e y ⟨pv,rfl,g,hP⟩;have HP:=hD0 hP;clear hP;replace hN:=hN.trans g;clear g))
      have HNy:=hD0 hN
      clear hN
      go_roundw
      case rel=>exact⟨m+1,by go_num,HMn.out,by rw[HSt'.out,if_pos (by rw[HBk.out];simp)];exact HP.out,HG4.out.1.trans HNy.out⟩
      case measure=>have:=HMn.out;simp[intOf];omega
     case true =>
      cases D
      case false =>
       go_wp2_with (first | (go_at_call 26;(first | (with_reducible refine(HO1.out _).mono ?_) | (with_reducible refine(HR1.out _).mono ?_));rintro e y ⟨rfl,g⟩;replace hN:=hN.trans g;clear g) | (go_at_call 25;(with_reducible refine(HO2.out _).mono ?_);rintro e y ⟨rfl,g⟩;replace hN:=hN.trans g;clear g) | (go_at_call 27;(with_reducible refine(HCp.out _).mono ?_);rintro e y ⟨rfl,g⟩;replace hN:=hN.trans g;clear g) | (go_at_call 70;(with_reducible refine(HPu.out _ hN).mono ?_);rintro e y ⟨pv,rfl,g,hP⟩;have HP:=hD0 hP;clear hP;replace hN:=hN.trans g;clear g))
       have HNy:=hD0 hN
       clear hN
       go_roundw
       case rel=>exact⟨m+1,by go_num,HMn.out,by rw[HSt'.out,if_pos (by rw[HBk.out];simp)];exact HP.out,HG4.out.1.trans HNy.out⟩
       case measure=>have:=HMn.out;simp[intOf];omega
      case true =>
       go_wp2_with (first | (go_at_call 26;(first | (with_reducible refine(HO1.out _).mono ?_) | (with_reducible refine(HR1.out _).mono ?_));rintro e y ⟨rfl,g⟩;replace hN:=hN.trans g;clear g) | (go_at_call 25;(with_reducible refine(HO2.out _).mono ?_);rintro e y ⟨rfl,g⟩;replace hN:=hN.trans g;clear g) | (go_at_call 27;(with_reducible refine(HCp.out _).mono ?_);rintro e y ⟨rfl,g⟩;replace hN:=hN.trans g;clear g) | (go_at_call 70;(with_reducible refine(HPu.out _ hN).mono ?_);rintro e y ⟨pv,rfl,g,hP⟩;have HP:=hD0 hP;clear hP;replace hN:=hN.trans g;clear g))
       have HNy:=hD0 hN
       clear hN
       go_roundw
       case rel=>exact⟨m+1,by go_num,HMn.out,by rw[HSt'.out,if_pos (by rw[HBk.out];simp)];exact HP.out,HG4.out.1.trans HNy.out⟩
       case measure=>have:=HMn.out;simp[intOf];omega
   case true =>
    cases S
    case false =>
     cases M
     case false =>
      go_wp2_with (first | (go_at_call 26;(first | (with_reducible refine(HO1.out _).mono ?_) | (with_reducible refine(HR1.out _).mono ?_));rintro e y ⟨rfl,g⟩;replace hN:=hN.trans g;clear g) | (go_at_call 25;(with_reducible refine(HO2.out _).mono ?_);rintro e y ⟨rfl,g⟩;replace hN:=hN.trans g;clear g) | (go_at_call 27;(with_reducible refine(HCp.out _).mono ?_);rintro e y ⟨rfl,g⟩;replace hN:=hN.trans g;clear g) | (go_at_call 70;(with_reducible refine(HPu.out _ hN).mono ?_);rintro e y ⟨pv,rfl,g,hP⟩;have HP:=hD0 hP;clear hP;replace hN:=hN.trans g;clear g))
      have HNy:=hD0 hN
      clear hN
      go_roundw
      case rel=>exact⟨m+1,by go_num,HMn.out,by rw[HSt'.out,if_neg (by rw[HBk.out];simp)];exact Yo HG4.out.2 HNy.out,HG4.out.1.trans HNy.out⟩
      case measure=>have:=HMn.out;simp[intOf];omega
     case true =>
      go_wp2_with (first | (go_at_call 26;(first | (with_reducible refine(HO1.out _).mono ?_) | (with_reducible refine(HR1.out _).mono ?_));rintro e y ⟨rfl,g⟩;replace hN:=hN.trans g;clear g) | (go_at_call 25;(with_reducible refine(HO2.out _).mono ?_);rintro e y ⟨rfl,g⟩;replace hN:=hN.trans g;clear g) | (go_at_call 27;(with_reducible refine(HCp.out _).mono ?_);rintro e y ⟨rfl,g⟩;replace hN:=hN.trans g;clear g) | (go_at_call 70;(with_reducible refine(HPu.out _ hN).mono ?_);rintro e y ⟨pv,rfl,g,hP⟩;have HP:=hD0 hP;clear hP;replace hN:=hN.trans g;clear g))
      have HNy:=hD0 hN
      clear hN
      go_roundw
      case rel=>exact⟨m+1,by go_num,HMn.out,by rw[HSt'.out,if_neg (by rw[HBk.out];simp)];exact Yo HG4.out.2 HNy.out,HG4.out.1.trans HNy.out⟩
      case measure=>have:=HMn.out;simp[intOf];omega
    case true =>
     cases M
     case false =>
      go_wp2_with (first | (go_at_call 26;(first | (with_reducible refine(HO1.out _).mono ?_) | (with_reducible refine(HR1.out _).mono ?_));rintro e y ⟨rfl,g⟩;replace hN:=hN.trans g;clear g) | (go_at_call 25;(with_reducible refine(HO2.out _).mono ?_);rintro e y ⟨rfl,g⟩;replace hN:=hN.trans g;clear g) | (go_at_call 27;(with_reducible refine(HCp.out _).mono ?_);rintro e y ⟨rfl,g⟩;replace hN:=hN.trans g;clear g) | (go_at_call 70;(with_reducible refine(HPu.out _ hN).mono ?_);rintro e y ⟨pv,rfl,g,hP⟩;have HP:=hD0 hP;clear hP;replace hN:=hN.trans g;clear g))
      have HNy:=hD0 hN
      clear hN
      go_roundw
      case rel=>exact⟨m+1,by go_num,HMn.out,by rw[HSt'.out,if_pos (by rw[HBk.out];simp)];exact HP.out,HG4.out.1.trans HNy.out⟩
      case measure=>have:=HMn.out;simp[intOf];omega
     case true =>
      cases D
      case false =>
       go_wp2_with (first | (go_at_call 26;(first | (with_reducible refine(HO1.out _).mono ?_) | (with_reducible refine(HR1.out _).mono ?_));rintro e y ⟨rfl,g⟩;replace hN:=hN.trans g;clear g) | (go_at_call 25;(with_reducible refine(HO2.out _).mono ?_);rintro e y ⟨rfl,g⟩;replace hN:=hN.trans g;clear g) | (go_at_call 27;(with_reducible refine(HCp.out _).mono ?_);rintro e y ⟨rfl,g⟩;replace hN:=hN.trans g;clear g) | (go_at_call 70;(with_reducible refine(HPu.out _ hN).mono ?_);rintro e y ⟨pv,rfl,g,hP⟩;have HP:=hD0 hP;clear hP;replace hN:=hN.trans g;clear g))
       have HNy:=hD0 hN
       clear hN
       go_roundw
       case rel=>exact⟨m+1,by go_num,HMn.out,by rw[HSt'.out,if_neg (by rw[HBk.out];simp)];exact Yo HG4.out.2 HNy.out,HG4.out.1.trans HNy.out⟩
       case measure=>have:=HMn.out;simp[intOf];omega
      case true =>
       go_wp2_with (first | (go_at_call 26;(first | (with_reducible refine(HO1.out _).mono ?_) | (with_reducible refine(HR1.out _).mono ?_));rintro e y ⟨rfl,g⟩;replace hN:=hN.trans g;clear g) | (go_at_call 25;(with_reducible refine(HO2.out _).mono ?_);rintro e y ⟨rfl,g⟩;replace hN:=hN.trans g;clear g) | (go_at_call 27;(with_reducible refine(HCp.out _).mono ?_);rintro e y ⟨rfl,g⟩;replace hN:=hN.trans g;clear g) | (go_at_call 70;(with_reducible refine(HPu.out _ hN).mono ?_);rintro e y ⟨pv,rfl,g,hP⟩;have HP:=hD0 hP;clear hP;replace hN:=hN.trans g;clear g))
       have HNy:=hD0 hN
       clear hN
       go_roundw
       case rel=>exact⟨m+1,by go_num,HMn.out,by rw[HSt'.out,if_pos (by rw[HBk.out];simp)];exact HP.out,HG4.out.1.trans HNy.out⟩
       case measure=>have:=HMn.out;simp[intOf];omega
theorem Zad{W:Int}{q:List Rq}(h:Ok W q){R:Rq}(hR:R∈q):edR q R=Yj R.txn (Yi q R.id):=by
 unfold edR
 by_cases hs:0<R.sn
 ·rw[if_pos hs]
 ·rw[if_neg hs]
  unfold Yi
  rw[Z0g h hR]
  simp only[if_neg hs]
  rfl
theorem Z6c{t:Int}{l:List Int}{k:Nat}(h:k<l.length):Yj t (l.take (k+1))=Yj t (l.take k)++[(t,l[k])]:=by
 rw[List.take_succ_eq_append_getElem h]
 simp only[Yj,List.map_append,List.map_cons,List.map_nil]
def CsB(bg i B:Nat)(y rt:Int)(z:World):Prop:=z.cell? ⟨bg,i,none⟩=some (.int .i64 y)∧z.cell? ⟨B,1,none⟩=some (.int .i64 rt)
structure EdM(W0 w6:World)(K:Nat→Prop)(acc:List (Int × Int))(v:Value)(w:World):Prop where
 own:Z9 w W0.heap.size v acc
 nw:Nw W0 w
 tch:Zf (fun j=>W0.heap.size≤j∧¬K j) w6 w
 off:∀j,K j→v.ownBlock≠some j
theorem EdM.push{W0 w6 wr:World}{K:Nat→Prop}{acc:List (Int × Int)}{v:Value}(h:EdM W0 w6 K acc v wr)(hK:∀j,K j→j<w6.heap.size)(hl:acc.length≤90000){z:World}(g:Nw wr z)(rt y:Int) :
  ∃ga cc w8,(Builtin.append_ #[22,22] 22 #[v,.slice (some ⟨z.heap.size,0,none⟩) 1 1]).run prog (z.alloc (.cells #[.int .i64 rt,.int .i64 y] 36))=.ok (.slice (some ⟨ga,0,none⟩) (acc.length+1) cc) w8∧EdM W0 w6 K (acc++[(rt,y)]) (.slice (some ⟨ga,0,none⟩) (acc.length+1) cc) w8:=by
 have hal6:=Z4 z (.cells #[.int .i64 rt,.int .i64 y] 36)
 have g6:Nw wr (z.alloc (.cells #[.int .i64 rt,.int .i64 y] 36)):=g.trans ((Nw.refl z).alloc _)
 obtain⟨v',w8,hr6,hO6,hg6,hp6,ga6,cc6,rfl⟩:=Zu.push Y6 (Yo h.own g6) (rt,y) z.heap.size 1 (fun j u hu=>by
  rw[Z2 hal6]
  simpa [Zc] using hu) (by omega) (h.nw.trans g6).sz
 refine⟨ga6,cc6,w8,hr6,hO6,(h.nw.trans g6).gro hg6 (fun b e=>Va h.own e),?_,fun j hj e=>?_⟩
 ·exact(h.tch.trans (Zf.nw g6)).grown hg6 (fun b e=>.inl ⟨Va h.own e,fun k=>h.off b k e⟩)
 ·rcases hp6 with p | p
  ·exact h.off j hj (by rw[←p];exact e)
  ·rw[p] at e
   have h1:=hK j hj
   have h2:=Option.some.inj e
   have h3:=(h.tch.trans (Zf.nw g6)).size
   omega
theorem Z4c{w0:World}{v:Value}{l:List Hv}(h:Rd 4 Vu w0 v l)(hx:∀x∈l,Z2h w0 x)(hl:l.length≤8) :
  Calls prog 29 #[v] w0 fun e w'=>∃v',e=.returned v'∧Z9 w' w0.heap.size v' (sortE (Vk l l.length))∧Nw w0 w':=by
 have HX:=hD0 hx
 obtain⟨a,c,rfl,hd⟩:=h
 have HD:=hD0 hd
 obtain⟨n,hn⟩:∃n,l.length=n:=⟨_,rfl⟩
 have HN:=hD0 hn
 rw[hn] at hl ⊢
 clear hd hn hx
 go_enter func29,ntmps29
 go_wp2_with fail
 go_loopw [3,4] (fun v3 v4 wr=>∃(k:Nat) (a b c:_),v3=.slice a b c∧v4=.int .i64 k∧k≤n∧Hid (EdI w0 l (.slice a b c) k wr)) (fun _ v4 _=>n-(intOf v4).toNat)
 case atStart=>exact⟨0,none,0,0,rfl,rfl,Nat.zero_le _,hD0 ⟨World.ownsRow_nil _ _ _ _,Nw.refl _⟩⟩
 case round =>
  obtain⟨k,sa,sb,sc,rfl,rfl,hkn,HI⟩:=hrel
  by_cases hlt:k<n
  ·have hkl:k<l.length:=by rw[HN.out];exact hlt
   rcases HD.out with⟨q,_⟩ | ⟨eb,eo,rfl,hrc⟩
   ·rw[q] at hkl;simp at hkl
   obtain⟨x,hxk⟩:∃x,l[k]=x:=⟨_,rfl⟩
   have hxm:x∈l:=hxk▸gM0 hkl
   have z0:=hrc.cell k hkl 0 (.int .i64 x.h.t) (by rw[hxk];rfl)
   have z1:=hrc.cell k hkl 1 (.int .i64 x.h.r) (by rw[hxk];rfl)
   have z2:=hrc.cell k hkl 2 x.v (by rw[hxk];rfl)
   have z3:=hrc.cell k hkl 3 (.int .i64 x.h.W) (by rw[hxk];rfl)
   have hebl:=hrc.lt
   have HO:=hD0 (HX.out x hxm)
   obtain⟨⟨ht,hr,hW,q⟩,qv⟩:=x
   obtain⟨qa,qc,e,hqd⟩:=HO.out.at_
   simp only at e
   subst e
   have HQD:=hD0 hqd
   have Zr:=Zp hlt
   have hw:=Zo k (k+1) (by omega) rfl
   obtain⟨k1,hk1⟩:∃m,k+1=m:=⟨_,rfl⟩
   have HK1:=hD0 (aI0 hk1 hlt)
   have HXK:=hD0 (show ∃h:k<l.length,l[k]=_ from⟨hkl,hxk⟩)
   rw[hk1] at hw
   obtain⟨m,hm⟩:∃m,q.length=m:=⟨_,rfl⟩
   have HM:=hD0 hm
   have hm12:m≤12:=hm▸HO.out.len
   simp only[hm] at z2
   simp only[Nat.add_zero] at z0 z1 z2 z3
   have HZ:=hD0 (show ∀z,Nw w0 z→z.cell? ⟨eb,eo+k*4,none⟩=some (.int .i64 ht)∧z.cell? ⟨eb,eo+k*4+1,none⟩=some (.int .i64 hr)∧z.cell? ⟨eb,eo+k*4+2,none⟩=some (.slice qa m qc)∧z.cell? ⟨eb,eo+k*4+3,none⟩=some (.int .i64 hW)∧eb<z.heap.size from fun z g=>⟨g.kp z0,g.kp z1,g.kp z2,g.kp z3,lL0 hebl g.sz⟩)
   have HI0:=hD0 (show Z9 wr w0.heap.size (.slice sa sb sc) (Vk l k++Vg q 0)∧Nw w0 wr from⟨by
    have:=HI.out.own
    simpa [Vg] using this,HI.out.nw⟩)
   clear hk1 hxk hkl hrc hqd hlt hm z0 z1 z2 z3 hebl HI
   go_wp2_with fail
   go_loopw [3,5] (fun v3 v5 wr=>∃(j:Nat) (a b c:_),v3=.slice a b c∧v5=.int .i64 j∧j≤m∧Hid (Z9 wr w0.heap.size (.slice a b c) (Vk l k++Vg q j)∧Nw w0 wr)) (fun _ v5 _=>m-(intOf v5).toNat)
   case atStart=>exact⟨0,_,_,_,rfl,rfl,Nat.zero_le _,HI0⟩
   case round =>
    clear HI0
    obtain⟨j,sa,sb,sc,rfl,rfl,hjm,HJ⟩:=hrel
    obtain⟨z0,z1,z2,z3,z4⟩:=HZ.out wr HJ.out.2
    by_cases hltj:j<m
    ·have hjq:j<q.length:=by rw[HM.out];exact hltj
     have hqd:=HQD.out
     rcases hqd with⟨e,_⟩ | ⟨qb,qo,rfl,hqc⟩
     ·have e':q=[]:=e
      rw[e'] at hjq;simp at hjq
     obtain⟨R,hR⟩:∃R,q[j]=R:=⟨_,rfl⟩
     have hRm:R∈q:=hR▸gM0 hjq
     have hqw:=hqc.nw HJ.out.2
     have r0:=hqw.cell j hjq 0 (.int .i64 R.id) (by rw[hR];rfl)
     have r1:=hqw.cell j hjq 1 (.int .i64 R.txn) (by rw[hR];rfl)
     have r2:=hqw.cell j hjq 2 (.int .i64 R.md) (by rw[hR];rfl)
     have r3:=hqw.cell j hjq 3 (.int .i64 R.wt) (by rw[hR];rfl)
     have r4:=hqw.cell j hjq 4 (.int .i64 R.sn) (by rw[hR];rfl)
     have hqbl:=hqw.lt
     simp only[Nat.add_zero] at r0 r1 r2 r3 r4
     have hltj':=Zp hltj
     have hwj:=Zo j (j+1) (by omega) rfl
     obtain⟨j1,hj1⟩:∃m,j+1=m:=⟨_,rfl⟩
     have HJ1:=hD0 (aI0 hj1 hltj)
     have HED:=hD0 (show Vg q j1=Vg q j++Yj R.txn (Yi q R.id)by rw[←hj1,←Zad HO.out.ok hRm,←hR];exact Z2o hjq)
     rw[hj1] at hwj
     obtain⟨ri,rt,rm,rw_,rs⟩:=R
     simp only at r0 r1 r2 r3 r4 HED
     clear hj1 hR hjq hqc hqw hRm hltj
     go_upto_region 9 with fail
     have hal:=Z4 wr (.cells #[.int .i64 ri,.int .i64 rt,.int .i64 rm,.int .i64 rw_,.int .i64 rs] 56)
     have g5:Nw wr (wr.alloc (.cells #[.int .i64 ri,.int .i64 rt,.int .i64 rm,.int .i64 rw_,.int .i64 rs] 56)):=(Nw.refl wr).alloc _
     obtain⟨w5,hw5⟩:∃w5,wr.alloc (.cells #[.int .i64 ri,.int .i64 rt,.int .i64 rm,.int .i64 rw_,.int .i64 rs] 56)=w5:=⟨_,rfl⟩
     obtain⟨B,hB⟩:∃B,wr.heap.size=B:=⟨_,rfl⟩
     have HJo:=hD0 (show ∀b,(Value.slice sa sb sc).ownBlock=some b→b<B from fun b e=>by
      rw[←hB];exact Ut HJ.out.1 e)
     rw[hB] at hal ⊢
     rw[hw5] at hal g5 ⊢
     have HJ5:=hD0 (show Z9 w5 w0.heap.size (.slice sa sb sc) (Vk l k++Vg q j)∧Nw w0 w5 from⟨Yo HJ.out.1 g5,HJ.out.2.trans g5⟩)
     have HAL:=hD0 hal
     have HBl:=hD0 (fun(z:World) (g:Nw w5 z)=>Z3g ht hr hW ri (.slice (some ⟨qb,qo,none⟩) m qc) q z (Nat.le_trans HO.out.len (by decide)) HO.out.ok (by
      have:=HO.out.at_.nw (HJ5.out.2.trans g)
      rw[←HM.out];exact this))
     unfold hdV at HBl
     have ta0:∀z,Nw w5 z→z.cell? ⟨eb,eo+k*4,none⟩=some (.int .i64 ht):=fun z g=>(HZ.out z (HJ5.out.2.trans g)).1
     have ta1:∀z,Nw w5 z→z.cell? ⟨eb,eo+k*4+1,none⟩=some (.int .i64 hr):=fun z g=>(HZ.out z (HJ5.out.2.trans g)).2.1
     have ta2:∀z,Nw w5 z→z.cell? ⟨eb,eo+k*4+2,none⟩=some (.slice (some ⟨qb,qo,none⟩) m qc):=fun z g=>(HZ.out z (HJ5.out.2.trans g)).2.2.1
     have ta3:∀z,Nw w5 z→z.cell? ⟨eb,eo+k*4+3,none⟩=some (.int .i64 hW):=fun z g=>(HZ.out z (HJ5.out.2.trans g)).2.2.2.1
     have tb0:∀z,Nw w5 z→z.cell? ⟨B,0,none⟩=some (.int .i64 ri):=fun z g=>g.kp (Z2 (j:=0) HAL.out)
     clear hal g5 hw5 hB r0 r1 r2 r3 r4 HJ hqbl z0 z1 z2 z3 z4
     go_wp2_with fail
     refine Zb [] (Nw w5) (by kernel_rfl) ?_
     change Za _ _ _ _ _ _ 8 #[false,false,false,false,false,false,false,false] _ w5.drew
     obtain⟨y4,hy4⟩:∃y,w5.drew=y:=⟨_,rfl⟩
     rw[hy4]
     have hN0:Nw w5 y4:=by rw[←hy4];exact(Nw.refl w5).dr
     clear hy4
     have hS0:=hN0
     refine Z0 0 rfl (by kernel_rfl) (by kernel_rfl) (by kernel_rfl) (fun v c a w h=>h) ?_
     (first | (refine⟨undef,Or.inr ⟨by rfl,rfl⟩,?_⟩) | (apply Exists.intro;refine⟨Or.inl ⟨by rfl,?_⟩,?_⟩;(intro x hx';go_simp;first | done | with_reducible rfl)))
     (try simp only[Act.put,List.getElem_toArray,List.getElem_cons_zero,List.getElem_cons_succ,List.setIfInBounds_toArray,List.set_cons_zero,List.set_cons_succ])
     refine Z0 1 rfl (by kernel_rfl) (by kernel_rfl) (by kernel_rfl) (fun v c a w h=>h) ?_
     (first | (refine⟨undef,Or.inr ⟨by rfl,rfl⟩,?_⟩) | (apply Exists.intro;refine⟨Or.inl ⟨by rfl,?_⟩,?_⟩;(intro x hx';go_simp;first | done | with_reducible rfl)))
     (try simp only[Act.put,List.getElem_toArray,List.getElem_cons_zero,List.getElem_cons_succ,List.setIfInBounds_toArray,List.set_cons_zero,List.set_cons_succ])
     refine Z0 2 rfl (by kernel_rfl) (by kernel_rfl) (by kernel_rfl) (fun v c a w h=>h) ?_
     (first | (refine⟨undef,Or.inr ⟨by rfl,rfl⟩,?_⟩) | (apply Exists.intro;refine⟨Or.inl ⟨by rfl,?_⟩,?_⟩;(intro x hx';go_simp;first | done | with_reducible rfl)))
     (try simp only[Act.put,List.getElem_toArray,List.getElem_cons_zero,List.getElem_cons_succ,List.setIfInBounds_toArray,List.set_cons_zero,List.set_cons_succ])
     refine Z1 3 rfl (by kernel_rfl) (by kernel_rfl) (by kernel_rfl) (by kernel_rfl) (fun v c a w h=>h) hS0 ?_
     (first | (refine⟨undef,Or.inr ⟨by rfl,rfl⟩,?_⟩) | (apply Exists.intro;refine⟨Or.inl ⟨by rfl,?_⟩,?_⟩;(intro x hx';go_simp;first | done | with_reducible rfl)))
     (try simp only[Act.put,List.getElem_toArray,List.getElem_cons_zero,List.getElem_cons_succ,List.setIfInBounds_toArray,List.set_cons_zero,List.set_cons_succ])
     refine Z0 4 rfl (by kernel_rfl) (by kernel_rfl) (by kernel_rfl) (fun v c a w h=>h) ?_
     (first | (refine⟨undef,Or.inr ⟨by rfl,rfl⟩,?_⟩) | (apply Exists.intro;refine⟨Or.inl ⟨by rfl,?_⟩,?_⟩;(intro x hx';go_simp;first | done | with_reducible rfl)))
     (try simp only[Act.put,List.getElem_toArray,List.getElem_cons_zero,List.getElem_cons_succ,List.setIfInBounds_toArray,List.set_cons_zero,List.set_cons_succ])
     refine Z1 5 rfl (by kernel_rfl) (by kernel_rfl) (by kernel_rfl) (by kernel_rfl) (fun v c a w h=>h) hS0 ?_
     (first | (refine⟨undef,Or.inr ⟨by rfl,rfl⟩,?_⟩) | (apply Exists.intro;refine⟨Or.inl ⟨by rfl,?_⟩,?_⟩;(intro x hx';go_simp;first | done | with_reducible rfl)))
     (try simp only[Act.put,List.getElem_toArray,List.getElem_cons_zero,List.getElem_cons_succ,List.setIfInBounds_toArray,List.set_cons_zero,List.set_cons_succ])
     refine Z3 6 (by kernel_rfl) rfl (fun K hK=>?_)
     rw[if_pos (by rfl)]
     (try simp only[List.getElem_toArray,List.getElem_cons_zero,List.getElem_cons_succ])
     go_simp
     refine(HBl.out y4 hN0).mono ?_
     rintro e w6 ⟨v6,rfl,g6,hI6⟩
     refine hK _ _ (.inr (hN0.trans g6)) ?_
     clear hK K hS0 ta0 ta1 ta2 ta3 tb0
     (try simp only[Act.put,List.getElem_toArray,List.getElem_cons_zero,List.getElem_cons_succ,List.setIfInBounds_toArray,List.set_cons_zero,List.set_cons_succ])
     refine Z0 7 rfl (by kernel_rfl) (by kernel_rfl) (by kernel_rfl) (fun v c a w h=>h) ?_
     (first | (refine⟨undef,Or.inr ⟨by rfl,rfl⟩,?_⟩) | (apply Exists.intro;refine⟨Or.inl ⟨by rfl,?_⟩,?_⟩;(intro x hx';go_simp;first | done | with_reducible rfl)))
     (try simp only[Act.put,List.getElem_toArray,List.getElem_cons_zero,List.getElem_cons_succ,List.setIfInBounds_toArray,List.set_cons_zero,List.set_cons_succ])
     refine Z5 (by kernel_rfl) ?_ _
     refine NoPanic.normal ?_
     (try simp only[Act.put,List.getElem_toArray,List.getElem_cons_zero,List.getElem_cons_succ,List.setIfInBounds_toArray,List.set_cons_zero,List.set_cons_succ])
     obtain⟨bl,hbl⟩:∃bl,Yi q ri=bl:=⟨_,rfl⟩
     rw[hbl] at hI6
     have hbl12:bl.length≤12:=by rw[←hbl];exact Nat.le_trans (Vq q ri) (by rw[HM.out];exact hm12)
     obtain⟨ba,bc,rfl,hbb⟩:=(Zu.is hI6).box
     obtain⟨nb,hnb⟩:∃nb,bl.length=nb:=⟨_,rfl⟩
     rw[hnb] at hbb hI6 hbl12 ⊢
     obtain⟨K,hK⟩:∃K:Nat→Prop,K=fun j=>j=B∨(Value.slice ba nb bc).ownBlock=some j:=⟨_,rfl⟩
     have HNB:=hD0 hnb
     have HI6:=hD0 (show IS w6 (.slice ba nb bc) bl from Zu.is hI6)
     have HBB:=hD0 hbb
     have HKK:=hD0 (show(∀j,K j→j<w6.heap.size)∧K B∧(∀g,(Value.slice ba nb bc).ownBlock=some g→K g) from by
      subst hK
      exact⟨fun j hj=>hj.elim (fun e=>by subst e;exact lL0 (Go.Proofs.YtbnpnccpobkodaaGreat.hlt HAL.out) (hN0.trans g6).sz) (fun e=>Ut hI6 e),.inl rfl,fun g e=>.inr e⟩)
     have HM6:=hD0 (show EdM w0 w6 K (Vk l k++Vg q j++Yj rt (bl.take 0)) (.slice sa sb sc) w6 from⟨by
      rw[show Vk l k++Vg q j++Yj rt (bl.take 0)=Vk l k++Vg q j from by simp[Yj]]
      exact Yo HJ5.out.1 (hN0.trans g6),HJ5.out.2.trans (hN0.trans g6),Zf.refl _ _,fun b hb e=>by
      have h1:=HJo.out b e
      subst hK
      rcases hb with rfl | hb
      ·exact Nat.lt_irrefl _ h1
      ·have h2:=Va hI6 hb
       have h3:=hN0.sz
       have h4:=Go.Proofs.YtbnpnccpobkodaaGreat.hlt HAL.out
       omega⟩)
     have HB1:=hD0 (show w6.cell? ⟨B,1,none⟩=some (.int .i64 rt) from(hN0.trans g6).kp (Z2 (j:=1) HAL.out))
     have HBL:=hD0 hbl
     clear hI6 hbb hnb hK hN0 g6 hbl
     go_wp2_with fail
     go_loopw [3,8] (fun v3 v8 wr=>∃(i:Nat) (a b c:_),v3=.slice a b c∧v8=.int .i64 i∧i≤nb∧Hid (EdM w0 w6 K (Vk l k++Vg q j++Yj rt (bl.take i)) (.slice a b c) wr)) (fun _ v8 _=>nb-(intOf v8).toNat)
     case atStart=>exact⟨0,_,_,_,rfl,rfl,Nat.zero_le _,HM6⟩
     case round =>
      clear HM6
      obtain⟨i,sa,sb,sc,rfl,rfl,hib,HE⟩:=hrel
      by_cases hlti:i<nb
      ·have hil:i<bl.length:=by rw[HNB.out];exact hlti
       obtain⟨bg,rfl,hbg⟩:=HBB.out (by omega)
       have cy6:=Z1y HI6.out hil
       obtain⟨y,hy⟩:∃y,bl[i]=y:=⟨_,rfl⟩
       rw[hy] at cy6
       have hBw:B<wr.heap.size:=lL0 (HKK.out.1 B HKK.out.2.1) HE.out.tch.size
       have t0:∀z,CsB bg i B y rt z→z.cell? ⟨bg,i,none⟩=some (.int .i64 y):=fun z g=>g.1
       have t1:∀z,CsB bg i B y rt z→z.cell? ⟨B,1,none⟩=some (.int .i64 rt):=fun z g=>g.2
       have HC6:=hD0 (show ∀z,Zf (fun j=>w0.heap.size≤j∧¬K j) w6 z→CsB bg i B y rt z from fun z t=>⟨(t.cell (HKK.out.1 bg (HKK.out.2.2 bg hbg)) (fun e=>e.2 (HKK.out.2.2 bg hbg)) (o:=i)).trans cy6,(t.cell (HKK.out.1 B HKK.out.2.1) (fun e=>e.2 HKK.out.2.1) (o:=1)).trans HB1.out⟩)
       have hlti':=Zp hlti
       have hwi:=Zo i (i+1) (by omega) rfl
       obtain⟨i1,hi1⟩:∃m,i+1=m:=⟨_,rfl⟩
       have HI1:=hD0 (aI0 hi1 hlti)
       rw[hi1] at hwi
       obtain⟨acc,hacc⟩:∃acc,Vk l k++Vg q j++Yj rt (bl.take i)=acc:=⟨_,rfl⟩
       have HTs:=hD0 (show Vk l k++Vg q j++Yj rt (bl.take i1)=acc++[(rt,y)] from by rw[←hacc,←hi1,←hy,Z6c hil,List.append_assoc (Vk l k++Vg q j)])
       rw[hacc] at HE
       have HLe:=hD0 (show acc.length≤90000 from by
        rw[←hacc]
        have h1:=Z03 (l:=l) (by rw[HN.out];exact hl) (fun x hx=>(HX.out x hx).len) k
        have h2:(Vg q j).length≤144:=Z02 HO.out.len j
        have h3:(bl.take i).length≤12:=Nat.le_trans (List.length_take_le _ _) (by omega)
        rw[List.length_append,List.length_append,U1]
        omega)
       clear hi1 hil hy cy6 hlti hacc
       go_wp2_with fail
       refine Zb [] (CsB bg i B y rt) (by kernel_rfl) ?_
       change Za _ _ _ _ _ _ 11 #[false,false,false,false,false,false,false,false,false,false,false] _ wr.drew
       obtain⟨y4,hy4⟩:∃y,wr.drew=y:=⟨_,rfl⟩
       rw[hy4]
       have hN4:Nw wr y4:=by rw[←hy4];exact(Nw.refl wr).dr
       clear hy4
       have hS0:=HC6.out y4 (HE.out.tch.trans (Zf.nw hN4))
       refine Z0 0 rfl (by kernel_rfl) (by kernel_rfl) (by kernel_rfl) (fun v c a w h=>h) ?_
       (first | (refine⟨undef,Or.inr ⟨by rfl,rfl⟩,?_⟩) | (apply Exists.intro;refine⟨Or.inl ⟨by rfl,?_⟩,?_⟩;(intro x hx';go_simp;first | done | with_reducible rfl)))
       (try simp only[Act.put,List.getElem_toArray,List.getElem_cons_zero,List.getElem_cons_succ,List.setIfInBounds_toArray,List.set_cons_zero,List.set_cons_succ])
       refine Z0 1 rfl (by kernel_rfl) (by kernel_rfl) (by kernel_rfl) (fun v c a w h=>h) ?_
       (first | (refine⟨undef,Or.inr ⟨by rfl,rfl⟩,?_⟩) | (apply Exists.intro;refine⟨Or.inl ⟨by rfl,?_⟩,?_⟩;(intro x hx';go_simp;first | done | with_reducible rfl)))
       (try simp only[Act.put,List.getElem_toArray,List.getElem_cons_zero,List.getElem_cons_succ,List.setIfInBounds_toArray,List.set_cons_zero,List.set_cons_succ])
       refine Z1 2 rfl (by kernel_rfl) (by kernel_rfl) (by kernel_rfl) (by kernel_rfl) (fun v c a w h=>h) hS0 ?_
       (first | (refine⟨undef,Or.inr ⟨by rfl,rfl⟩,?_⟩) | (apply Exists.intro;refine⟨Or.inl ⟨by rfl,?_⟩,?_⟩;(intro x hx';go_simp;first | done | with_reducible rfl)))
       (try simp only[Act.put,List.getElem_toArray,List.getElem_cons_zero,List.getElem_cons_succ,List.setIfInBounds_toArray,List.set_cons_zero,List.set_cons_succ])
       refine Z0 3 rfl (by kernel_rfl) (by kernel_rfl) (by kernel_rfl) (fun v c a w h=>h) ?_
       (first | (refine⟨undef,Or.inr ⟨by rfl,rfl⟩,?_⟩) | (apply Exists.intro;refine⟨Or.inl ⟨by rfl,?_⟩,?_⟩;(intro x hx';go_simp;first | done | with_reducible rfl)))
       (try simp only[Act.put,List.getElem_toArray,List.getElem_cons_zero,List.getElem_cons_succ,List.setIfInBounds_toArray,List.set_cons_zero,List.set_cons_succ])
       refine Z0 4 rfl (by kernel_rfl) (by kernel_rfl) (by kernel_rfl) (fun v c a w h=>h) ?_
       (first | (refine⟨undef,Or.inr ⟨by rfl,rfl⟩,?_⟩) | (apply Exists.intro;refine⟨Or.inl ⟨by rfl,?_⟩,?_⟩;(intro x hx';go_simp;first | done | with_reducible rfl)))
       (try simp only[Act.put,List.getElem_toArray,List.getElem_cons_zero,List.getElem_cons_succ,List.setIfInBounds_toArray,List.set_cons_zero,List.set_cons_succ])
       refine Z0 5 rfl (by kernel_rfl) (by kernel_rfl) (by kernel_rfl) (fun v c a w h=>h) ?_
       (first | (refine⟨undef,Or.inr ⟨by rfl,rfl⟩,?_⟩) | (apply Exists.intro;refine⟨Or.inl ⟨by rfl,?_⟩,?_⟩;(intro x hx';go_simp;first | done | with_reducible rfl)))
       (try simp only[Act.put,List.getElem_toArray,List.getElem_cons_zero,List.getElem_cons_succ,List.setIfInBounds_toArray,List.set_cons_zero,List.set_cons_succ])
       refine Z1 6 rfl (by kernel_rfl) (by kernel_rfl) (by kernel_rfl) (by kernel_rfl) (fun v c a w h=>h) hS0 ?_
       (first | (refine⟨undef,Or.inr ⟨by rfl,rfl⟩,?_⟩) | (apply Exists.intro;refine⟨Or.inl ⟨by rfl,?_⟩,?_⟩;(intro x hx';go_simp;first | done | with_reducible rfl)))
       (try simp only[Act.put,List.getElem_toArray,List.getElem_cons_zero,List.getElem_cons_succ,List.setIfInBounds_toArray,List.set_cons_zero,List.set_cons_succ])
       refine Z0 7 rfl (by kernel_rfl) (by kernel_rfl) (by kernel_rfl) (fun v c a w h=>h) ?_
       (first | (refine⟨undef,Or.inr ⟨by rfl,rfl⟩,?_⟩) | (apply Exists.intro;refine⟨Or.inl ⟨by rfl,?_⟩,?_⟩;(intro x hx';go_simp;first | done | with_reducible rfl)))
       (try simp only[Act.put,List.getElem_toArray,List.getElem_cons_zero,List.getElem_cons_succ,List.setIfInBounds_toArray,List.set_cons_zero,List.set_cons_succ])
       obtain⟨ga,cc,w8,hr8,hM8⟩:=HE.out.push HKK.out.1 HLe.out hN4 rt y
       have hS8:=HC6.out w8 hM8.tch
       have HS8:=hD0 (show EdM w0 w6 K (Vk l k++Vg q j++Yj rt (bl.take i1)) _ w8 from by rw[HTs.out];exact hM8)
       have HR8:=hD0 hr8
       clear hr8 hM8
       refine Z3 8 (by kernel_rfl) rfl (fun K hK=>?_)
       rw[if_pos (by rfl)]
       (try simp only[List.getElem_toArray,List.getElem_cons_zero,List.getElem_cons_succ])
       go_simp
       refine hK _ _ (.inr (HC6.out _ (HE.out.tch.trans (Zf.nw (hN4.trans ((Nw.refl y4).alloc _)))))) ?_
       clear hK
       (try simp only[Act.put,List.getElem_toArray,List.getElem_cons_zero,List.getElem_cons_succ,List.setIfInBounds_toArray,List.set_cons_zero,List.set_cons_succ])
       refine Z3 9 (by kernel_rfl) rfl (fun K hK=>?_)
       refine Yn (by rfl) (.tmp 46) (.tmp 54) 22 rfl _ _ _ _ rfl rfl HR8.out ?_
       refine hK _ _ (.inr hS8) ?_
       clear hK HR8
       (try simp only[Act.put,List.getElem_toArray,List.getElem_cons_zero,List.getElem_cons_succ,List.setIfInBounds_toArray,List.set_cons_zero,List.set_cons_succ])
       refine Z0 10 rfl (by kernel_rfl) (by kernel_rfl) (by kernel_rfl) (fun v c a w h=>h) ?_
       (first | (refine⟨undef,Or.inr ⟨by rfl,rfl⟩,?_⟩) | (apply Exists.intro;refine⟨Or.inl ⟨by rfl,?_⟩,?_⟩;(intro x hx';go_simp;first | done | with_reducible rfl)))
       (try simp only[Act.put,List.getElem_toArray,List.getElem_cons_zero,List.getElem_cons_succ,List.setIfInBounds_toArray,List.set_cons_zero,List.set_cons_succ])
       refine Z5 (by kernel_rfl) ?_ _
       refine NoPanic.normal ?_
       (try simp only[Act.put,List.getElem_toArray,List.getElem_cons_zero,List.getElem_cons_succ,List.setIfInBounds_toArray,List.set_cons_zero,List.set_cons_succ])
       clear hS0 hS8 hN4 t0 t1
       go_wp2_with fail
       exact⟨⟨i1,_,_,_,rfl,rfl,by rw[←HI1.out.1];exact HI1.out.2,HS8⟩,by rw[←HI1.out.1];exact Zh HI1.out.2⟩
      ·obtain rfl:i=nb:=Nat.le_antisymm hib (Nat.le_of_not_lt hlti)
       have hlti':¬i<i:=Nat.lt_irrefl i
       have HI2:=hD0 (show Z9 wr w0.heap.size (.slice sa sb sc) (Vk l k++Vg q j1)∧Nw w0 wr from⟨by
        have:=HE.out.own
        rw[List.take_of_length_le (by rw[HNB.out];exact Nat.le_refl i),List.append_assoc] at this
        rw[HED.out,HBL.out]
        exact this,HE.out.nw⟩)
       clear hlti HE
       go_wp2_with fail
       exact⟨⟨j1,_,_,_,rfl,rfl,by rw[←HJ1.out.1];exact HJ1.out.2,HI2⟩,by rw[←HJ1.out.1];exact Zh HJ1.out.2⟩
    ·obtain rfl:j=m:=Nat.le_antisymm hjm (Nat.le_of_not_lt hltj)
     have hltj':¬j<j:=Nat.lt_irrefl j
     have HI2:=hD0 (show EdI w0 l (.slice sa sb sc) k1 wr from⟨by
      obtain⟨h1,h2⟩:=HXK.out
      rw[←HK1.out.1,Z2q h1,h2]
      have:=HJ.out.1
      rw[←HM.out] at this
      exact this,HJ.out.2⟩)
     clear hltj HJ
     go_wp2_with fail
     exact⟨⟨k1,_,_,_,rfl,rfl,by rw[←HK1.out.1];exact HK1.out.2,HI2⟩,by rw[←HK1.out.1];exact Zh HK1.out.2⟩
  ·obtain rfl:k=n:=Nat.le_antisymm hkn (Nat.le_of_not_lt hlt)
   have Zr:¬k<k:=Nat.lt_irrefl k
   have HS:=hD0 (Up (Z9.at_ HI.out.own) (Nat.le_trans (Z03 (l:=l) (by rw[HN.out];exact hl) (fun x hx=>(HX.out x hx).len) k) (by decide)))
   have HI2:=hD0 HI.out.nw
   clear hlt HI
   go_wp2_with fail
   refine HS.out.mono ?_
   rintro e w2 ⟨v2,rfl,hO2,g2⟩
   have HO2:=hD0 (aI0 (show Z9 w2 w0.heap.size v2 (sortE (Vk l k)) from Z52 hO2 HI2.out.sz) (HI2.out.trans g2))
   clear hO2 g2 HS
   go_wp2_with fail
   go_ret
   exact⟨_,rfl,HO2.out.1,HO2.out.2⟩
def HB(w:World)(B:Nat)(t r:Int)(v:Value)(W:Int):Prop:=w.heap[B]?=some (.cells #[.int .i64 t,.int .i64 r,v,.int .i64 W] 43)
section
open Go.ChangeShapes Go.WideShapes Go.ChangeAt Go.RowKit Go.Deep
theorem Z4x{α:Type}{n:Nat}{Q:Nat→α→Prop}(h:∀i,i<n→∃x,Q i x):∃l:List α,l.length=n∧∀i (hi:i<l.length),Q i l[i]:=by
 induction n with
 | zero=>exact⟨[],rfl,fun i hi=>by simp at hi⟩
 | succ n ih =>
  obtain⟨l,hl,hq⟩:=ih fun i hi=>h i (by omega)
  obtain⟨x,hx⟩:=h n (by omega)
  refine⟨l++[x],by simp[hl],fun i hi=>?_⟩
  rw[List.length_append,List.length_singleton] at hi
  by_cases q:i<l.length
  ·rw[List.getElem_append_left q];exact hq i q
  ·have:i=n:=by omega
   subst this
   rw[List.getElem_append_right (by omega)]
   simpa using hx
theorem len4{cs:List Value}(h:cs.length=4):∃v0 v1 v2 v3,cs=[v0,v1,v2,v3]:=by
 match cs,h with
 | [v0,v1,v2,v3],_=>exact⟨v0,v1,v2,v3,rfl⟩
theorem Zc2{cs:List Value}(h:cs.length=5):∃v0 v1 v2 v3 v4,cs=[v0,v1,v2,v3,v4]:=by
 match cs,h with
 | [v0,v1,v2,v3,v4],_=>exact⟨v0,v1,v2,v3,v4,rfl⟩
theorem Z3w:prog.cellsOf 3=1:=by kernel_rfl
theorem Z5j:prog.cellsOf 54=1:=by kernel_rfl
theorem Z8e:prog.cellsOf 40=2:=by kernel_rfl
theorem Z4s:prog.cellsOf 56=5:=by kernel_rfl
theorem Z8f:prog.cellsOf 41=1:=by kernel_rfl
theorem Z4r:prog.cellsOf 43=4:=by kernel_rfl
section
variable {H:Type} {enc:TypeId × Value→H} {w:World} {base:Nat} {spare:Nat→Bool} {held:Bool}
theorem Yd{α:Type}{xs:List α}{i:Nat}(h:i<xs.length):∃y,xs[i]?=some y:=⟨_,List.getElem?_eq_getElem h⟩
def Z2f(R:Rq):Prop:=(-9223372036854775808≤R.id∧R.id≤9223372036854775807)∧(-9223372036854775808≤R.txn∧R.txn≤9223372036854775807)∧(-9223372036854775808≤R.sn∧R.sn≤9223372036854775807)
theorem Z7d{n:Int}(h:(Lit.int .i64 n).wf=true):-9223372036854775808≤n∧n≤9223372036854775807:=by
 simp[Lit.wf,IntKind.min,IntKind.max,IntKind.signed,IntKind.bits] at h
 omega
theorem Z91{fuel:Nat}{cs:List Value}{x:DataW H × List MemPlace}(h:DataW.trod enc prog w base spare held fuel 56 cs=some x):∃R:Rq,cs=Z0r R∧Z2f R:=by
 obtain⟨xs,n,_,_,hl,hxl,hf⟩:=DataW.trod_struct underlying56 h
 rw[Z4s] at hl
 obtain⟨v0,v1,v2,v3,v4,rfl⟩:=Zc2 hl
 have f0:DataW.trod enc prog w base spare held n 3 (([v0,v1,v2,v3,v4].drop 0).take (prog.cellsOf 3))=xs[0]?:=hf 0 _ rfl
 have f1:DataW.trod enc prog w base spare held n 3 (([v0,v1,v2,v3,v4].drop 1).take (prog.cellsOf 3))=xs[1]?:=hf 1 _ rfl
 have f2:DataW.trod enc prog w base spare held n 54 (([v0,v1,v2,v3,v4].drop 2).take (prog.cellsOf 54))=xs[2]?:=hf 2 _ rfl
 have f3:DataW.trod enc prog w base spare held n 54 (([v0,v1,v2,v3,v4].drop 3).take (prog.cellsOf 54))=xs[3]?:=hf 3 _ rfl
 have f4:DataW.trod enc prog w base spare held n 3 (([v0,v1,v2,v3,v4].drop 4).take (prog.cellsOf 3))=xs[4]?:=hf 4 _ rfl
 simp at hxl
 obtain⟨y0,e0⟩:=Yd (xs:=xs) (i:=0) (by omega)
 obtain⟨y1,e1⟩:=Yd (xs:=xs) (i:=1) (by omega)
 obtain⟨y2,e2⟩:=Yd (xs:=xs) (i:=2) (by omega)
 obtain⟨y3,e3⟩:=Yd (xs:=xs) (i:=3) (by omega)
 obtain⟨y4,e4⟩:=Yd (xs:=xs) (i:=4) (by omega)
 rw[e0] at f0
 rw[e1] at f1
 rw[e2] at f2
 rw[e3] at f3
 rw[e4] at f4
 simp only[Z3w,Z5j,List.drop_succ_cons,List.drop_zero,List.take_succ_cons,List.take_zero] at f0 f1 f2 f3 f4
 obtain⟨a0,q0,_,u0⟩:=DataW.trod_int underlying3 f0
 obtain⟨a1,q1,_,u1⟩:=DataW.trod_int underlying3 f1
 obtain⟨a2,q2,_,u2⟩:=DataW.trod_int underlying54 f2
 obtain⟨a3,q3,_,u3⟩:=DataW.trod_int underlying54 f3
 obtain⟨a4,q4,_,u4⟩:=DataW.trod_int underlying3 f4
 obtain rfl:=(List.cons.inj q0).1
 obtain rfl:=(List.cons.inj q1).1
 obtain rfl:=(List.cons.inj q2).1
 obtain rfl:=(List.cons.inj q3).1
 obtain rfl:=(List.cons.inj q4).1
 exact⟨⟨a0,a1,a2,a3,a4⟩,rfl,Z7d u0,Z7d u1,Z7d u4⟩
theorem Z7g{fuel:Nat}{v:Value}{x:DataW H × List MemPlace}(h:DataW.trod enc prog w base spare held fuel 41 [v]=some x):∃l,Ur w v l∧Z4q v∧∀R∈l,Z2f R:=by
 rcases open_slice underlying41 h with⟨hcs,_⟩ | ⟨a,len,cap,m,n,D,Pl,hcs,_,hl,hm,hmm,_,hi⟩
 ·simp only[List.cons.injEq,and_true] at hcs
  subst hcs
  exact⟨[],Rd.nil w,Nat.le_refl _,fun R hR=>by simp at hR⟩
 ·simp only[List.cons.injEq,and_true] at hcs
  subst hcs
  have hlm:len≤m:=by rw[hmm];split<;>omega
  have each:∀i,i<len→∃R:Rq,Z2f R∧∀j u,(Z0r R)[j]?=some u→w.cell? (a.add (i*5+j))=some u:=by
   intro i hil
   obtain⟨cs',hc,ht⟩:=hi i (by omega)
   rw[Z4s] at hc
   obtain⟨R,rfl,hF⟩:=Z91 ht
   obtain⟨_,hcl,hat⟩:=World.cells?_some hc
   have key:∀j,j<5→w.cell? (a.add (i*5+j))=(Z0r R)[j]?:=fun j hj=>by rw[←Go.Deep.add_add];exact hat j hj
   refine⟨R,hF,fun j u hj=>?_⟩
   have hj6:j<5:=by have:=(List.getElem?_eq_some_iff.1 hj).1;simpa [Z0r] using this
   rw[key j hj6];exact hj
  obtain⟨l,hll,hq⟩:=Z4x each
  refine⟨l,?_,hl,fun R hR=>by obtain⟨i,hi,rfl⟩:=List.getElem_of_mem hR;exact(hq i (by omega)).1⟩
  subst hll
  rcases Nat.eq_zero_or_pos l.length with h0 | h0
  ·obtain rfl:=List.length_eq_zero_iff.1 h0
   exact⟨some a,cap,rfl,.inl ⟨rfl,fun e=>by cases e⟩⟩
  ·have hu:=(hq 0 h0).2 0 _ rfl
   obtain⟨b,o,spot⟩:=a
   have hs:spot=none:=by simpa [Addr.add] using World.cell?_spot hu
   subst hs
   refine⟨some ⟨b,o,none⟩,cap,rfl,.inr ⟨b,o,rfl,⟨?_,fun i hi c u hu=>?_⟩⟩⟩
   ·rw[Addr.add_lit] at hu
    exact World.block_lt_of_cell? _ _ hu
   ·have:=(hq i hi).2 c u hu
    rw[Addr.add_lit,←Nat.add_assoc] at this
    exact this
end
end
section
open Go.ChangeShapes Go.WideShapes Go.ChangeAt Go.RowKit Go.Deep
structure Z5g(w:World)(x:Hv):Prop where
 at_:Ur w x.v x.h.q
 cap:Z4q x.v
 fit:∀R∈x.h.q,Z2f R
theorem Z5g.nw{w w':World}{x:Hv}(h:Z5g w x)(g:Nw w w'):Z5g w' x:=⟨h.at_.nw g,h.cap,h.fit⟩
structure HdsIn(w:World)(a:Option Addr)(len cap:Nat)(l:List Hv):Prop where
 hl:l.length=len
 rd:Rd 4 Vu w (.slice a len cap) l
 hc:len≤cap
 all:∀x∈l,Z5g w x
theorem HdsIn.nw{w w':World}{a:Option Addr}{len cap:Nat}{l:List Hv}(h:HdsIn w a len cap l)(g:Nw w w'):HdsIn w' a len cap l:=⟨h.hl,h.rd.nw g,h.hc,fun x hx=>(h.all x hx).nw g⟩
section
variable {H:Type} {enc:TypeId × Value→H} {w:World} {base:Nat} {spare:Nat→Bool} {held:Bool}
theorem Z7f{fuel:Nat}{cs:List Value}{x:DataW H × List MemPlace}(h:DataW.trod enc prog w base spare held fuel 43 cs=some x):∃y:Hv,cs=Vu y∧Z5g w y:=by
 obtain⟨xs,n,_,_,hl,hxl,hf⟩:=DataW.trod_struct underlying43 h
 rw[Z4r] at hl
 obtain⟨v0,v1,v2,v3,rfl⟩:=len4 hl
 have f0:DataW.trod enc prog w base spare held n 40 (([v0,v1,v2,v3].drop 0).take (prog.cellsOf 40))=xs[0]?:=hf 0 _ rfl
 have f1:DataW.trod enc prog w base spare held n 41 (([v0,v1,v2,v3].drop 2).take (prog.cellsOf 41))=xs[1]?:=hf 1 _ rfl
 have f2:DataW.trod enc prog w base spare held n 3 (([v0,v1,v2,v3].drop 3).take (prog.cellsOf 3))=xs[2]?:=hf 2 _ rfl
 simp at hxl
 obtain⟨y0,e0⟩:=Yd (xs:=xs) (i:=0) (by omega)
 obtain⟨y1,e1⟩:=Yd (xs:=xs) (i:=1) (by omega)
 obtain⟨y2,e2⟩:=Yd (xs:=xs) (i:=2) (by omega)
 rw[e0] at f0
 rw[e1] at f1
 rw[e2] at f2
 simp only[Z3w,Z8e,Z8f,List.drop_succ_cons,List.drop_zero,List.take_succ_cons,List.take_zero] at f0 f1 f2
 obtain⟨q,hq,hc,hF⟩:=Z7g f1
 obtain⟨a3,q3,_,_⟩:=DataW.trod_int underlying3 f2
 obtain⟨xs',n',_,_,hl',hxl',hf'⟩:=DataW.trod_struct underlying40 f0
 have g0:DataW.trod enc prog w base spare held n' 3 (([v0,v1].drop 0).take (prog.cellsOf 3))=xs'[0]?:=hf' 0 _ rfl
 have g1:DataW.trod enc prog w base spare held n' 3 (([v0,v1].drop 1).take (prog.cellsOf 3))=xs'[1]?:=hf' 1 _ rfl
 simp at hxl'
 obtain⟨z0,r0⟩:=Yd (xs:=xs') (i:=0) (by omega)
 obtain⟨z1,r1⟩:=Yd (xs:=xs') (i:=1) (by omega)
 rw[r0] at g0
 rw[r1] at g1
 simp only[Z3w,List.drop_succ_cons,List.drop_zero,List.take_succ_cons,List.take_zero] at g0 g1
 obtain⟨a0,q0,_,_⟩:=DataW.trod_int underlying3 g0
 obtain⟨a1,q1,_,_⟩:=DataW.trod_int underlying3 g1
 obtain rfl:=(List.cons.inj q0).1
 obtain rfl:=(List.cons.inj q1).1
 obtain rfl:=(List.cons.inj q3).1
 exact⟨⟨⟨a0,a1,a3,q⟩,v2⟩,rfl,hq,hc,hF⟩
theorem open_hds{fuel:Nat}{a:Option Addr}{len cap:Nat}{x:DataW H × List MemPlace}(h:DataW.trod enc prog w base spare held fuel 25 (Value.slice a len cap).cells.toList=some x) :
  ∃l,HdsIn w a len cap l:=by
 rcases open_slice underlying25 h with⟨hcs,_⟩ | ⟨ad,len',cap',m,n,D,Pl,hcs,_,hl,hm,hmm,_,hi⟩
 ·simp[Value.cells] at hcs
  obtain⟨rfl,rfl,rfl⟩:=hcs
  exact⟨[],rfl,Rd.nil w,Nat.le_refl _,fun R hR=>by simp at hR⟩
 ·simp[Value.cells] at hcs
  obtain⟨rfl,rfl,rfl⟩:=hcs
  have hlm:len≤m:=by rw[hmm];split<;>omega
  have each:∀i,i<len→∃y:Hv,Z5g w y∧∀j u,(Vu y)[j]?=some u→w.cell? (ad.add (i*4+j))=some u:=by
   intro i hil
   obtain⟨cs',hc,ht⟩:=hi i (by omega)
   rw[Z4r] at hc
   obtain⟨y,rfl,hF⟩:=Z7f ht
   obtain⟨_,hcl,hat⟩:=World.cells?_some hc
   have key:∀j,j<4→w.cell? (ad.add (i*4+j))=(Vu y)[j]?:=fun j hj=>by rw[←Go.Deep.add_add];exact hat j hj
   refine⟨y,hF,fun j u hj=>?_⟩
   have hj6:j<4:=by have:=(List.getElem?_eq_some_iff.1 hj).1;simpa [Vu] using this
   rw[key j hj6];exact hj
  obtain⟨l,hll,hq⟩:=Z4x each
  refine⟨l,hll,?_,hl,fun R hR=>by obtain⟨i,hi,rfl⟩:=List.getElem_of_mem hR;exact(hq i (by omega)).1⟩
  subst hll
  rcases Nat.eq_zero_or_pos l.length with h0 | h0
  ·obtain rfl:=List.length_eq_zero_iff.1 h0
   exact⟨some ad,cap,rfl,.inl ⟨rfl,fun e=>by cases e⟩⟩
  ·have hu:=(hq 0 h0).2 0 _ rfl
   obtain⟨b,o,spot⟩:=ad
   have hs:spot=none:=by simpa [Addr.add] using World.cell?_spot hu
   subst hs
   refine⟨some ⟨b,o,none⟩,cap,rfl,.inr ⟨b,o,rfl,⟨?_,fun i hi c u hu=>?_⟩⟩⟩
   ·rw[Addr.add_lit] at hu
    exact World.block_lt_of_cell? _ _ hu
   ·have:=(hq i hi).2 c u hu
    rw[Addr.add_lit,←Nat.add_assoc] at this
    exact this
end
end
end Go.Proofs.YtbnpnccpobkodaaGreat
