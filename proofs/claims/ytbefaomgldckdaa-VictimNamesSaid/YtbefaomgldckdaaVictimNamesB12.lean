/- Texts merged: WcQ, VbD, WoE, VaO, VaR, VaF, WeC, QvT, QvU, WdJ, VaK, VaL -/
import Derived.Test.YtbefaomgldckdaaVictimNamesB11
import Derived.ChangeOld
import Derived.Below
import Derived.Deep.Slices
import Derived.Deep.Fields
import Derived.ChangeSame
import Derived.Lib.SmallJoins
set_option linter.unusedVariables false
set_option maxRecDepth 100000
set_option maxHeartbeats 16000000
namespace Go.Proofs.Ytbefaomgldckdaa
open Go.RowKit _root_.Go.Proofs.Try
def Z0k(w:World)(f:Value)(p:(Int × Int)→Bool):Prop:=∃(g:Nat) (lb:Array Value),f=.func (.func g) #[] lb∧(∀args w,(callFunc g args).run prog w=.ok (.enter g args) w)∧∀(R:Int × Int) (w1:World),Nw w w1→Calls prog g (#[egV R]++lb) w1 fun e w'=>e=.returned (.bool (p R))∧Nw w1 w'
def Z2d:Value→Prop
 | .slice _ n c=>n≤c
 | _=>True
theorem Za.capE{w:World}{g0:Nat}{v:Value}{q:List (Int × Int)}(h:Za w g0 v q):Z2d v:=by
 rcases h.2 with⟨rfl,_⟩ | ⟨g',cap',cur,rfl,_,_,q4,_⟩
 ·exact Nat.le_refl _
 ·exact q4
theorem Za.atE{w:World}{g0:Nat}{v:Value}{q:List (Int × Int)}(h:Za w g0 v q){k:Nat}(hk:k<q.length):∃g cap,v=.slice (some ⟨g,0,none⟩) q.length cap∧g0≤g∧g<w.heap.size∧True:=by
 rcases Yv h with⟨_,e⟩ | ⟨g,cap,rfl⟩
 ·omega
 ·exact⟨g,cap,rfl,oge h rfl,olt h rfl,trivial⟩
theorem Z1h{w:World}{g0 g cap n:Nat}{q:List (Int × Int)}(h:Za w g0 (.slice (some ⟨g,0,none⟩) n cap) q)(hn:n=q.length)(k:Nat)(hk:k<q.length)(j:Nat)(hj:j<2)(u:Value)(new:Int × Int)(e:(Zi q[k]).set j u=Zi new) :
  Za (w.setCell ⟨g,k*2+j,none⟩ u) g0 (.slice (some ⟨g,0,none⟩) n cap) (q.set k new):=by
 subst hn
 have h1:=(World.ownsRow.stored h (k*2+j) u).1
 unfold Za Y4
 rw[List.length_set,←Ui (row:=Zi) (sz:=2) (fun _=>rfl) q k hk j hj u new e]
 exact h1
theorem Vi{w:World}{g0 g cap n:Nat}{q:List (Int × Int)}(h:Za w g0 (.slice (some ⟨g,0,none⟩) n cap) q)(hn:n=q.length)(k:Nat)(hk:k<q.length)(j:Nat)(u:Value)(hu:(Zi q[k])[j]?=some u):w.cell? ⟨g,k*2+j,none⟩=some u:=by
 subst hn
 have hj:j<2:=by have:=(List.getElem?_eq_some_iff.1 hu).1;simpa [Zi] using this
 refine(World.ownsRow.cellAt h (k*2+j) (by omega)).trans ?_
 rw[Y3 (sz:=2) (fun _=>rfl) q k j hk hj];exact hu
theorem Z1g{w:World}{g0 g cap n:Nat}{q:List (Int × Int)}(h:Za w g0 (.slice (some ⟨g,0,none⟩) n cap) q)(hn:n=q.length)(j:Nat):w.frozen? ⟨g,j,none⟩=false:=by
 subst hn
 exact World.ownsRow.frozenAt h j
def Z00(p:(Int × Int)→Bool):List (Int × Int)→Int
 | []=>-1
 | a::r=>if p a=true then 0 else if Z00 p r = -1 then -1 else Z00 p r+1
theorem Yp(p:(Int × Int)→Bool):∀q:List (Int × Int),(Z00 p q = -1∧∀a∈q,p a=false)∨∃k:Nat,Z00 p q=k∧∃h:k<q.length,p q[k]=true∧∀i (hi:i<q.length),i<k→p q[i]=false
 | []=>.inl ⟨rfl,by simp⟩
 | a::r=>by
  unfold Z00
  cases e:p a with
  | true=>exact .inr ⟨0,rfl,by simp,e,fun i _ h=>by omega⟩
  | false =>
   rcases Yp p r with⟨h1,h2⟩ | ⟨k,h1,h2,h3,h4⟩
   ·rw[h1]
    refine .inl ⟨rfl,fun x hx=>?_⟩
    rcases List.mem_cons.1 hx with rfl | hx
    ·exact e
    ·exact h2 x hx
   ·rw[h1]
    refine .inr ⟨k+1,?_,by simpa using h2,h3,fun i hi hik=>?_⟩
    ·simp only[Bool.false_eq_true,if_false]
     rw[if_neg (by omega)];rfl
    ·cases i with
     | zero=>exact e
     | succ i=>exact h4 i (by simpa using hi) (by omega)
theorem Z4x{p:(Int × Int)→Bool}{q:List (Int × Int)}{k:Nat}(hk:k<q.length)(h:p q[k]=true)(hb:∀i (hi:i<q.length),i<k→p q[i]=false):Z00 p q=k:=by
 rcases Yp p q with⟨_,h2⟩ | ⟨j,h1,h2,h3,h4⟩
 ·rw[h2 _ (gM0 hk)] at h;cases h
 ·rw[h1]
  rcases Nat.lt_trichotomy j k with g | g | g
  ·rw[hb j h2 g] at h3;cases h3
  ·rw[g]
  ·rw[h4 k hk g] at h;cases h
theorem Z3n{p:(Int × Int)→Bool}{q:List (Int × Int)}(h:∀i (hi:i<q.length),p q[i]=false):Z00 p q = -1:=by
 rcases Yp p q with⟨h1,_⟩ | ⟨j,h1,h2,h3,_⟩
 ·exact h1
 ·rw[h j h2] at h3;cases h3
theorem Z6c(v f:Value)(p:(Int × Int)→Bool)(q:List (Int × Int))(w:World)(hl:q.length≤1000)(h:Zl w v q)(hf:Z0k w f p) :
  Calls prog 38 #[v,f] w fun e w'=>e=.returned (.int .i64 (Z00 p q))∧Nw w w':=by
 obtain⟨g,lb,rfl,eg,hT⟩:=hf
 have HT:=hD0 hT
 clear hT
 obtain⟨a,c,rfl,⟨rfl,_⟩ | ⟨b,o,rfl,hc⟩⟩:=h
 ·go_enter func38,ntmps38
  go_wp2
  refine wp_loop_rounds 1 ?_
  repeat (rw[rounds_succ];go_wp2)
  go_ret
  exact⟨rfl,Nw.refl _⟩
 ·have H:=hD0 hc
  clear hc
  obtain⟨V,hV⟩:∃V,Z00 p q=V:=⟨_,rfl⟩
  rw[hV]
  have HV:=hD0 hV
  clear hV
  go_enter func38,ntmps38
  go_wp2
  go_loopw [8] (fun i wr=>∃k:Nat,k≤q.length∧i=.int .i64 k∧(∀i (hi:i<q.length),i<k→p q[i]=false)∧Nw w wr) (fun i _=>q.length-(intOf i).toNat)
  case atStart=>exact⟨0,Nat.zero_le _,rfl,fun _ _ h=>by omega,Nw.refl _⟩
  case round =>
   obtain⟨k,hk,rfl,hF,hN⟩:=hrel
   by_cases hlt:k<q.length
   ·have hce:=(H.out.nw hN).cell k hlt
    obtain⟨R,hR⟩:∃R,q[k]=R:=⟨_,rfl⟩
    rw[hR] at hce
    have HC:=hD0 (HT.out R)
    have HS:=hD0 hR
    have HF:=hD0 hF
    have HN:=hD0 hN
    clear hR hF hN
    obtain⟨B,hB⟩:∃B,p R=B:=⟨_,rfl⟩
    rw[hB] at HC
    have HB:=hD0 hB
    clear hB
    obtain⟨b0,b1⟩:=R
    have e0:=hce 0 _ rfl
    have e1:=hce 1 _ rfl
    simp only[Nat.add_zero] at e0
    clear hce
    cases B
    case true =>
     go_wp2_with (go_at_fn g;refine(HC.out _ HN.out).mono ?_;rintro e w1 ⟨rfl,g1⟩)
     go_ret
     exact⟨by rw[←HV.out,Z4x hlt (by rw[HS.out];exact HB.out) HF.out];rfl,HN.out.trans g1⟩
    case false =>
     go_wp2_with (go_at_fn g;refine(HC.out _ HN.out).mono ?_;rintro e w1 ⟨rfl,g1⟩)
     go_roundw
     case rel =>
      refine⟨k+1,by omega,by go_num,fun i hi hik=>?_,HN.out.trans g1⟩
      by_cases q:i<k
      ·exact HF.out i hi q
      ·have:i=k:=by omega
       subst this
       rw[HS.out];exact HB.out
     case measure=>simp[intOf];omega
   ·have HF:=hD0 hF
    have HN:=hD0 hN
    clear hF hN
    go_wp2
    go_ret
    exact⟨by rw[←HV.out,Z3n fun i hi=>HF.out i hi (by omega)];rfl,HN.out⟩
abbrev ezQ:Value:=.agg #[.int .i64 0,.int .i64 0]
theorem Z2h(w:World)(g o n c:Nat)(hn:0<n)(hc:∀j,j<n*2→(w.cell? ⟨g,o+j,none⟩).isSome=true)(hf:∀j,w.frozen? ⟨g,j,none⟩=false) :
  ∃vs,∀ty,(Builtin.clear_ #[33] ty #[.slice (some ⟨g,o,none⟩) n c]).run prog w=.ok (.tuple #[]) (w.setCells g o vs):=by
 obtain⟨m,rfl⟩:∃m,n=m+1:=⟨n-1,by omega⟩
 refine⟨(Builtin.zeroCells ezQ.cells (m+1)).toList,fun ty=>?_⟩
 have hlen:(Builtin.zeroCells ezQ.cells (m+1)).toList.length=(m+1)*2:=by simp[Builtin.zeroCells,Value.cells]
 have hst:=run_storeCells_cells (P:=prog) g o (Builtin.zeroCells ezQ.cells (m+1)).toList 0 w (by rw[hlen];simpa using hc) (by intro j _;exact hf _) (by
  intro v hv
  obtain⟨i,hi,rfl⟩:=List.getElem_of_mem hv
  simp only[Builtin.zeroCells,Array.toList_map,List.getElem_map]
  have h5:∀i:Nat,i<2→(ezQ.cells[i]!).oneCell'=true:=by decide
  exact h5 _ (Nat.mod_lt _ (by decide)))
 simp only[Nat.add_zero] at hst
 simp[Builtin.clear_,run_underlying underlying33,hst]
theorem Nw.rlsE{a b:World}(h:Nw a b):(∀k o,k<a.heap.size→b.cell? ⟨k,o,none⟩=a.cell? ⟨k,o,none⟩)∧(∀k o,k<a.heap.size→b.frozen? ⟨k,o,none⟩=a.frozen? ⟨k,o,none⟩):=⟨fun _ _ h1=>h.cell h1,fun _ _ h1=>h.froz h1⟩
theorem Z3p{w:World}{g0 g n cap:Nat}{l:List (Int × Int)}(h:Za w g0 (.slice (some ⟨g,0,none⟩) n cap) l)(hn:n=l.length)(j:Nat)(hj:j<l.length*2):(w.cell? ⟨g,j,none⟩).isSome=true:=by
 subst hn
 have e:w.cell? ⟨g,j,none⟩=(Z7 Zi l)[j]?:=World.ownsRow.cellAt h j hj
 rw[e,List.getElem?_eq_getElem (by rw[Y9 (sz:=2) (fun _=>rfl)];exact hj)];rfl
theorem Ua(g:Nat):∀(vs:List Value) (o:Nat) (w:World),Zc (fun k=>k=g) w (w.setCells g o vs)
 | [],_,w=>Zc.refl _ w
 | v::r,o,w=>by
  rw[World.setCells]
  exact(Zw w ⟨g,o,none⟩ v).trans (Ua g r (o+1) _)
def Z30(w:World)(g a:Nat)(s:Int × Int):World:=(w.setCell ⟨g,a*2,none⟩ (.int .i64 s.1)).setCell ⟨g,a*2+1,none⟩ (.int .i64 s.2)
theorem Z3m{w:World}{g0 g n cap a:Nat}{R:List (Int × Int)}(h:Za w g0 (.slice (some ⟨g,0,none⟩) n cap) R)(hn:n=R.length)(ha:a<R.length)(s:Int × Int):Za (Z30 w g a s) g0 (.slice (some ⟨g,0,none⟩) n cap) (R.set a s):=by
 have l1:∀x:Int × Int,n=(R.set a x).length:=fun x=>by rw[List.length_set];exact hn
 have k1:∀x:Int × Int,a<(R.set a x).length:=fun x=>by rw[List.length_set];exact ha
 have h0:=Z1h h hn a ha 0 (by decide) (.int .i64 s.1) (s.1,R[a].2) rfl
 have h1:=Z1h h0 (l1 _) a (k1 _) 1 (by decide) (.int .i64 s.2) s (by rw[List.getElem_set_self];rfl)
 rw[List.set_set] at h1
 exact h1
theorem Z3o(w:World)(g a:Nat)(s:Int × Int):Zc (fun k=>k=g) w (Z30 w g a s):=by
 unfold Z30
 exact((Zc.refl (fun k=>k=g) w).set (p:=⟨g,a*2,none⟩) (.inl rfl) _).set (p:=⟨g,a*2+1,none⟩) (.inl rfl) _
abbrev Y2(p:(Int × Int)→Bool)(l:List (Int × Int)):List (Int × Int):=l.filter fun s=>!p s
structure Z17(p:(Int × Int)→Bool)(w wr:World)(g0 g n cap a b:Nat)(l R:List (Int × Int)):Prop where
 ab:a<b
 bn:b≤l.length
 len:R.length=l.length
 front:R.take a=Y2 p (l.take b)
 rest:R.drop b=l.drop b
 row:Za wr g0 (.slice (some ⟨g,0,none⟩) n cap) R
 tch:Zc (fun k=>k=g) w wr
theorem Z0t{α:Type}{l:List α}{b:Nat}(h:b<l.length):l.take (b+1)=l.take b++[l[b]]:=by
 rw[List.take_add_one,List.getElem?_eq_getElem h];rfl
theorem Z1f{p:(Int × Int)→Bool}{L:List (Int × Int)}{s:Int × Int}(h:p s=true):Y2 p (L++[s])=Y2 p L:=by
 simp only[Y2,List.filter_append,List.filter_cons,h,Bool.not_true,Bool.false_eq_true,if_false,List.filter_nil,List.append_nil]
theorem Z6f{p:(Int × Int)→Bool}{L:List (Int × Int)}{s:Int × Int}(h:p s=false):Y2 p (L++[s])=Y2 p L++[s]:=by
 simp only[Y2,List.filter_append,List.filter_cons,h,Bool.not_false,if_true,List.filter_nil]
theorem Z3l{α:Type}{R l:List α}{b:Nat}(h:R.drop b=l.drop b)(hb:b<l.length)(hR:R.length=l.length):∃hr:b<R.length,R[b]=l[b]:=by
 refine⟨by omega,?_⟩
 have:=congrArg (fun x=>x[0]?) h
 simp only[List.getElem?_drop,Nat.add_zero] at this
 rw[List.getElem?_eq_getElem hb,List.getElem?_eq_getElem (by omega)] at this
 exact Option.some.inj this
theorem Z08{α:Type}{R l:List α}{b:Nat}(h:R.drop b=l.drop b):R.drop (b+1)=l.drop (b+1):=by
 rw[←List.drop_drop,←List.drop_drop,h]
section
variable {p:(Int × Int)→Bool} {w wr wr':World} {g0 g n cap a b:Nat} {l R:List (Int × Int)}
theorem Z17.skip(h:Z17 p w wr g0 g n cap a b l R)(hb:b<l.length)(he:p l[b]=true)(g':Nw wr wr'):Z17 p w wr' g0 g n cap a (b+1) l R :=
 ⟨by have:=h.ab;omega,hb,h.len,by rw[h.front,Z0t hb,Z1f he],Z08 h.rest,onw h.row g',h.tch.trans (Zc.nw g')⟩
theorem Z17.move(h:Z17 p w wr g0 g n cap a b l R)(hn:n=l.length)(hb:b<l.length)(he:p l[b]=false)(g':Nw wr wr'):Z17 p w (Z30 wr' g a l[b]) g0 g n cap (a+1) (b+1) l (R.set a l[b]):=by
 have hab:=h.ab
 have hR:=h.len
 have ha:a<R.length:=by omega
 refine⟨by omega,hb,by simp[hR],?_,?_,?_,?_⟩
 ·rw[Z0t (by simpa using ha),Z0t hb]
  have e1:(R.set a l[b]).take a=R.take a:=List.take_set_of_le (Nat.le_refl a)
  rw[e1,h.front,Z6f he]
  simp
 ·rw[List.drop_set_of_lt (by omega)];exact Z08 h.rest
 ·exact Z3m (onw h.row g') (by omega) ha _
 ·exact(h.tch.trans (Zc.nw g')).trans (Z3o _ _ _ _)
end
theorem Z01{p:(Int × Int)→Bool}{l:List (Int × Int)}{j:Nat}(hj:j<l.length)(he:p l[j]=true)(hF:∀i (hi:i<l.length),i<j→p l[i]=false):l.take j=Y2 p (l.take (j+1)):=by
 rw[Z0t hj,Z1f he]
 symm
 rw[Y2,List.filter_eq_self]
 intro s hs
 obtain⟨i,hi,rfl⟩:=List.getElem_of_mem hs
 simp at hi
 simp[hF i (by omega) (by omega)]
theorem Z1e{p:(Int × Int)→Bool}{l:List (Int × Int)}(h:∀s∈l,p s=false):Y2 p l=l:=by
 rw[Y2,List.filter_eq_self]
 intro s hs
 simp[h s hs]
theorem Z4s(p:(Int × Int)→Bool)(f:Value)(g0:Nat)(v:Value)(l:List (Int × Int))(w:World)(hl:l.length≤1000)(h:Za w g0 v l)(hf:Z0k w f p)(hfr:∀w1,Zc (fun k=>v.ownBlock=some k) w w1→Z0k w1 f p) :
  Calls prog 25 #[v,f] w fun e w'=>∃v',e=.returned v'∧Zl w' v' (Y2 p l)∧Z2d v'∧(∀b o n c,v'=.slice (some ⟨b,o,none⟩) n c→v.ownBlock=some b∨(Y2 p l)=[])∧Zc (fun k=>v.ownBlock=some k) w w':=by
 have HI0:=Z6c v f p l w hl (Za.at_ h) hf
 have hf':=hf
 obtain⟨gf,lb,rfl,eg,_⟩:=hf'
 obtain⟨hfo,-⟩:True∧True:=⟨trivial,trivial⟩
 obtain⟨px,hpx⟩:∃px,Z00 p l=px:=⟨_,rfl⟩
 rw[hpx] at HI0
 have HI:=hD0 HI0
 clear HI0
 rcases Yp p l with⟨h1,h2⟩ | ⟨j,h1,hj,he,hF⟩
 ·obtain rfl:=hpx.symm.trans h1
  obtain⟨a,c,rfl⟩:=(Za.at_ h).form
  have HR:=hD0 h
  clear h hfr hf
  go_enter func25,ntmps25
  go_wp2_with (go_at_call 38;refine HI.out.mono ?_;rintro e w1 ⟨rfl,g1⟩)
  go_ret
  exact⟨_,rfl,by rw[Z1e h2];exact Za.at_ (onw HR.out g1),Za.capE HR.out,fun b o n k e=>by
   rcases Yv HR.out with⟨e2,z⟩ | ⟨g,cap,e2⟩
   ·exact .inr (by rw[Z1e h2];exact List.length_eq_zero_iff.1 z)
   ·have e3:=e2.symm.trans e
    simp only[Value.slice.injEq,Option.some.injEq,Addr.mk.injEq] at e3
    refine .inl ?_
    rw[e2,←e3.1.1];rfl,Zc.nw g1⟩
 obtain rfl:=hpx.symm.trans h1
 obtain⟨g,cap,rfl,hg0,hgl,_⟩:=Za.atE h hj
 have hcap:=Za.capE h
 have hcap:l.length≤cap:=hcap
 have d0:((j:Int)==-1)=false:=by simp
 have HX:=hD0 (aI0 he hF)
 have HFr:=hD0 hfr
 have H:=hD0 h
 clear he hF hfr hf h
 go_enter func25,ntmps25
 go_wp2_with (go_at_call 38;refine HI.out.mono ?_;rintro e w1 ⟨rfl,g1⟩)
 have HD:Hid (Z17 p w w1 g0 g l.length cap j (j+1) l l):=hD0 ⟨by omega,hj,rfl,Z01 hj HX.out.1 HX.out.2,rfl,onw H.out g1,Zc.nw g1⟩
 clear HX H HI g1
 case _ =>
  go_loopw [5,6] (fun i k wr=>∃(a b:Nat) (R:List (Int × Int)),i=.int .i64 a∧k=.int .i64 b∧Z17 p w wr g0 g l.length cap a b l R) (fun _ k _=>l.length-(intOf k).toNat)
  case atStart=>exact⟨j,j+1,l,rfl,by go_num,HD.out⟩
  case round =>
   obtain⟨a,b,R,rfl,rfl,hD⟩:=hrel
   have hab:=hD.ab
   have hbn:=hD.bn
   by_cases hlt:b<l.length
   ·obtain⟨hrb,hRb⟩:=Z3l hD.rest hlt hD.len
    obtain⟨s,hs⟩:∃s,l[b]=s:=⟨_,rfl⟩
    rw[hs] at hRb
    have Z2:∀c u,(Zi s)[c]?=some u→wr.cell? ⟨g,b*2+c,none⟩=some u:=fun c u hu=>Vi hD.row hD.len.symm b hrb c u (by rw[hRb];exact hu)
    have c0:=Z2 0 _ rfl
    have c1:=Z2 1 _ rfl
    simp only[Nat.add_zero] at c0
    have hgl:=olt hD.row rfl
    have hT:=HFr.out wr (hD.tch.mono fun i _ e=>by rw[e];rfl)
    obtain⟨gf',lb',eqf,_,hTT⟩:=hT
    simp only[Value.func.injEq,Fn.func.injEq,true_and] at eqf
    obtain⟨rfl,rfl⟩:=eqf
    have HE:=hD0 (hTT s)
    obtain⟨B,hB⟩:∃B,p s=B:=⟨_,rfl⟩
    rw[hB] at HE
    have HB:=hD0 (show p l[b]=B by rw[hs];exact hB)
    have HS:=hD0 hs
    have HR:=hD0 hD
    clear hB Z2 hs hRb hTT
    have g6:Nw wr (wr.alloc (.cells #[.int .i64 s.1,.int .i64 s.2] 32)):=(Nw.refl wr).alloc _
    have hq6:=hD0 (aI0 (Z2 (j:=0) (Z5 wr (.cells #[.int .i64 s.1,.int .i64 s.2] 32))) (Z2 (j:=1) (Z5 wr (.cells #[.int .i64 s.1,.int .i64 s.2] 32))))
    cases B
    case true =>
     clear hD
     go_wp2_with (go_at_fn gf;refine(HE.out _ g6).mono ?_;rintro e w1 ⟨rfl,g1⟩)
     go_roundw
     case rel=>exact⟨a,b+1,R,rfl,by go_num,HR.out.skip hlt HB.out (g6.trans g1)⟩
     case measure=>simp[intOf];omega
    case false =>
     have har:a<R.length:=by have:=hD.len;omega
     have k0:∀c,c<2→∃u,wr.cell? ⟨g,a*2+c,none⟩=some u:=fun c hc=>by
      have:c<(Zi R[a]).length:=hc
      exact⟨_,Vi hD.row hD.len.symm a har c _ (List.getElem?_eq_getElem this)⟩
     obtain⟨y0,a0⟩:=k0 0 (by omega)
     obtain⟨y1,a1⟩:=k0 1 (by omega)
     simp only[Nat.add_zero] at a0
     have fz:=fun c=>Z1g hD.row hD.len.symm c
     have z0:=fz (a*2)
     have z1:=fz (a*2+1)
     have hRl:=hD.len
     have hai:(a:Int)<(l.length:Int):=by omega
     clear k0 fz hD
     go_wp2_with (go_at_fn gf;refine(HE.out _ g6).mono ?_;rintro e w1 ⟨rfl,g1⟩;obtain⟨hc1,hf1⟩:=g1.rlsE)
     go_roundw
     case rel=>exact⟨a+1,b+1,_,by go_num,by go_num,by have:=HR.out.move rfl hlt HB.out (g6.trans g1);rw[HS.out] at this;exact this⟩
     case measure=>simp[intOf];omega
   ·have hbe:b=l.length:=by omega
    subst hbe
    have HR:=hD0 hD
    have hlen:=hD.len
    have hcc:∀q,q<(l.length-a)*2→(wr.cell? ⟨g,a*2+q,none⟩).isSome=true:=fun q hq=>Z3p hD.row hlen.symm (a*2+q) (by omega)
    obtain⟨vs,hvs⟩:=Z2h wr g (a*2) (l.length-a) (cap-a) (by omega) hcc (fun q=>Z1g hD.row hlen.symm q)
    have e1:((l.length:Int)-(a:Int)).toNat=l.length-a:=by omega
    have hne:¬cap=a:=by omega
    clear hD hcc
    go_wp2
    go_ret
    have hfr:=HR.out.front
    rw[List.take_length] at hfr
    have hpl:(Y2 p l).length=a:=by rw[←hfr,List.length_take];omega
    have hT:=Ua g vs (a*2) wr
    refine⟨_,rfl,⟨_,cap,by rw[hpl];rfl,.inr ⟨g,0,rfl,lL0 (olt HR.out.row rfl) hT.size,fun i hi c u hu=>?_⟩⟩,by show a≤cap;omega,fun b o n c e=>by
     injection e with e _ _
     injection e with e
     injection e with e _ _
     rw[←e];exact .inl rfl,(HR.out.tch.trans hT).mono fun i _ e=>by rw[e];rfl⟩
    have hc:c<2:=by have:=(List.getElem?_eq_some_iff.1 hu).1;simpa [Zi] using this
    rw[Nat.zero_add,World.cell?_setCells_out g vs _ wr _ (fun _ _=>.inl (show i*2+c<a*2 by omega))]
    have hiR:i<R.length:=by omega
    refine Vi HR.out.row hlen.symm i hiR c u ?_
    have hx:(Y2 p l)[i]=R[i]:=by
     have:∀(M:List (Int × Int)) (e:R.take a=M) (h:i<M.length),M[i]=R[i]:=fun M e h=>by subst e;simp
     exact this _ hfr hi
    rw[←hx];exact hu
theorem Z13(e:Int × Int){w:World}{B:Nat}{t:Int}(h:w.cell? ⟨B,0,none⟩=some (.int .i64 t)):Calls prog 27 #[egV e,.pointer (some ⟨B,0,none⟩)] w fun e' w'=>e'=.returned (.bool (decide (e.1=t) || decide (e.2=t)))∧Nw w w':=by
 obtain⟨a,b⟩:=e
 have g1:Nw w (w.alloc (.cells #[.int .i64 a,.int .i64 b] 32)):=(Nw.refl w).alloc _
 have hc:=g1.kp h
 have hal:=Z5 w (.cells #[.int .i64 a,.int .i64 b] 32)
 by_cases q:a=t
 ·have h1:(a==t)=true:=by simpa using q
  have e1:(decide (a=t) || decide (b=t))=true:=by simp[q]
  rw[e1]
  clear e1 q
  go_enter func27,ntmps27
  go_wp2
  go_ret
  exact⟨rfl,g1⟩
 ·have h1:(a==t)=false:=by simpa using q
  have e1:(decide (a=t) || decide (b=t))=(b==t):=by
   rw[decide_eq_false q,Bool.false_or]
   rfl
  rw[e1]
  clear e1
  go_enter func27,ntmps27
  go_wp2
  go_ret
  exact⟨rfl,g1⟩
theorem Z28{w:World}{B:Nat}{t:Int}(h:w.cell? ⟨B,0,none⟩=some (.int .i64 t)):Z0k w (.func (.func 27) #[] #[.pointer (some ⟨B,0,none⟩)]) (fun e=>decide (e.1=t) || decide (e.2=t)):=by
 refine⟨27,_,rfl,enters_of func27 (by kernel_rfl) rfl,fun x w1 g=>?_⟩
 simp only[List.append_toArray,List.cons_append,List.nil_append]
 exact Z13 x (g.kp h)
theorem Z56(l:List (Int × Int))(t:Int):Y2 (fun e=>decide (e.1=t) || decide (e.2=t)) l=Y1 l t:=by
 unfold Y2 Y1
 congr 1
 funext e
 simp
theorem Z14{w:World}{v:Value}{l:List (Int × Int)}(h:Zl w v l)(hl:l.length≤1000)(t:Int) :
  Calls prog 13 #[v,.int .i64 t] w fun e w'=>∃v',e=.returned v'∧Zl w' v' (Y1 l t)∧Z2d v'∧(∀b o n c,v'=.slice (some ⟨b,o,none⟩) n c→w.heap.size≤b∨Y1 l t=[])∧Nw w w':=by
 have g1:Nw w (w.alloc (.cells #[.int .i64 t] 3)):=(Nw.refl w).alloc _
 have hal:=Z5 w (.cells #[.int .i64 t] 3)
 obtain⟨w1,hw1⟩:∃x,w.alloc (.cells #[.int .i64 t] 3)=x:=⟨_,rfl⟩
 rw[hw1] at g1 hal
 have HW1:=hD0 hw1
 obtain⟨B,hB⟩:∃B,w.heap.size=B:=⟨_,rfl⟩
 have HB:=hD0 hB
 rw[hB] at hal
 have HAL:=hD0 (aI0 hal g1)
 have HC:=hD0 (Z4q v l w1 (Nat.le_trans hl (by decide)) (h.nw g1))
 obtain⟨a,c,rfl⟩:=h.form
 clear h hw1 hB g1 hal
 go_enter func13,ntmps13
 go_upto_region 1 with fail
 rw[HW1.out,HB.out]
 go_wp2_with fail
 refine HC.out.mono ?_
 rintro e w2 ⟨v2,rfl,g2,hO⟩
 have hc2:=g2.kp (Z2 (j:=0) HAL.out.1)
 have hB2:B<w1.heap.size:=hlt HAL.out.1
 have HD:=hD0 (Z4s (fun e=>decide (e.1=t) || decide (e.2=t)) _ _ v2 l w2 hl hO (Z28 hc2) (fun w3 ht=>Z28 ((ht.cell (lL0 hB2 g2.sz) (fun e=>by
  have:=oge hO e
  omega)).trans hc2)))
 have HG:=hD0 (aI0 (HAL.out.2.trans g2) (fun k (e:v2.ownBlock=some k)=>Nat.le_trans HAL.out.2.sz (oge hO e)))
 clear g2 hO hc2 hB2 HC
 go_wp2_with fail
 refine HD.out.mono ?_
 rintro e w3 ⟨v3,rfl,h3,hcp,hnb,ht⟩
 rw[Z56] at h3 hnb
 have HZ:=hD0 (aI0 h3 (aI0 hcp (aI0 (show ∀b o n c,v3=.slice (some ⟨b,o,none⟩) n c→w.heap.size≤b∨Y1 l t=[] from fun b o n c e=>(hnb b o n c e).elim (fun q=>.inl (HG.out.2 b q)) .inr) (Ze HG.out.1 ht (fun i e=>HG.out.2 i e)))))
 clear h3 hcp ht hnb HD
 go_wp2
 go_ret
 exact⟨_,rfl,HZ.out.1,HZ.out.2.1,HZ.out.2.2.1,HZ.out.2.2.2⟩
theorem Z65{l:List (Int × Int)}{c:List Int}{b:Bool}(h:Ym l c b)(hF:∀e∈l,Z6 e.1∧Z6 e.2):∀x∈c,Z6 x:=by
 intro x hx
 obtain⟨i,hi,rfl⟩:=List.getElem_of_mem hx
 exact(hF _ (Vg h hi (Nat.lt_of_le_of_lt (Nat.zero_le _) hi))).1
theorem Yr{w0:World}{v va:Value}{l ages:List (Int × Int)}(h:Zl w0 v l)(hl:l.length≤900)(hF:∀e∈l,Z6 e.1∧Z6 e.2)(ha:Zl w0 va ages)(hal:ages.length≤1000)(hfa:∀e∈ages,Z6 e.1) :
  Calls prog 7 #[v,va] w0 fun e w'=>∃v' vs,e=.returned v'∧InO w' w0.heap.size v' vs∧Vic ages l vs∧Nw w0 w':=by
 have HBy:=hD0 (Z05 ha hal hfa)
 have HB:=hD0 (aI0 hl (aI0 hF h))
 obtain⟨la,lc,rfl,_⟩:=h
 obtain⟨ga,gc,rfl,_⟩:=ha
 clear hF hfa
 go_enter func7,ntmps7
 go_wp2_with fail
 refine HBy.out.mono ?_
 rintro e w1 ⟨f,rfl,hC,g1⟩
 have HCm:=hD0 (fun(z:World) (g:Nw w1 z) (v:Value) (c:List Int) (hn:Z18 z v c) (hcl:c.length≤200000) (hcf:∀x∈c,Z6 x)=>V6 hn (hC.nw g) hcl hcf)
 obtain⟨kf,lb,rfl,_⟩:=hC
 have HG1:=hD0 g1
 have H0:=hD0 (show VcI w1 ages l l [] (.slice la l.length lc) (.slice none 0 0) w1 from⟨HB.out.2.2.nw g1,World.ownsRow_nil _ _ _ _,fun b o n c _=>.inl (fun e=>nomatch e),Nw.refl _,fun e he=>he,by rw[Z3w];exact Nat.le_refl _,fun vs' q=>q⟩)
 clear g1 HBy
 go_wp2_with fail
 go_loopw [0,6] (fun v0 v6 wr=>∃(k:Nat) (l':List (Int × Int)) (vs:List Int) (a0:Option Addr) (c0:Nat) (a5:Option Addr) (b5 c5:Nat),v0=.slice a0 k c0∧v6=.slice a5 b5 c5∧Hid (VcI w1 ages l l' vs (.slice a0 k c0) (.slice a5 b5 c5) wr∧l'.length=k)) (fun v0 _ _=>Z9h v0)
 case atStart=>exact⟨_,l,[],_,_,_,_,_,rfl,rfl,hD0 ⟨H0.out,rfl⟩⟩
 case round =>
  clear H0
  obtain⟨k,l',vs,a0,c0,a5,b5,c5,rfl,rfl,HI⟩:=hrel
  have hl':l'.length≤900:=by have:=HI.out.1.len;have:=HB.out.1;omega
  have HL:=hD0 hl'
  have HFi:=hD0 (fun(e:Int × Int) (he:e∈l')=>HB.out.2.1 e (HI.out.1.sub e he))
  have HC:=hD0 (Z3f HI.out.1.at_ (Nat.le_trans HL.out (by decide)) HFi.out)
  clear hl'
  go_wp2_with fail
  refine HC.out.mono ?_
  rintro e w2 ⟨v2,c,is,rfl,hI2,hP,g2⟩
  have HG2:=hD0 g2
  have HP:=hD0 hP
  have HI2:=hD0 hI2
  have hcl:c.length≤200000:=by
   have:=Z4i hP
   have:=HL.out
   omega
  have HGr:=hD0 (HCm.out w2 (HI.out.1.nw.trans HG2.out) v2 c hI2.nm hcl (Z65 hP HFi.out))
  obtain⟨va2,vc2,rfl,_⟩:=hI2.box
  clear g2 HC hI2 hcl
  cases is with
  | false =>
   have hc:=hP.2.1 rfl
   subst hc
   have HGr:=hD0 (show Calls prog 10 #[.slice va2 ([]:List Int).length vc2,.func (.func kf) #[] lb] w2 fun e w'=>e=.returned (.tuple #[.int .i64 0,.bool false])∧Nw w2 w' from HGr.out)
   have HR:=hD0 (show ∀z,Nw w2 z→InO z w0.heap.size (.slice a5 b5 c5) vs∧Vic ages l vs∧Nw w0 z from fun z g=>⟨Z55 (onw HI.out.1.own (HG2.out.trans g)) (fun b e=>Nat.le_trans HG1.out.sz (oge HI.out.1.own e)),by
    have:=HI.out.1.vic [] (.done HP.out)
    rwa [List.append_nil] at this,HG1.out.trans (HI.out.1.nw.trans (HG2.out.trans g))⟩)
   clear hP HI HI2
   go_wp2_with fail
   refine HGr.out.mono ?_
   rintro e w3 ⟨rfl,g3⟩
   have HR3:=hD0 (HR.out w3 g3)
   clear g3 HR HGr
   go_wp2_with fail
   go_ret
   exact⟨_,vs,by rfl,HR3.out.1,HR3.out.2.1,HR3.out.2.2⟩
  | true =>
   obtain⟨a,r,hc,_⟩:=hP.2.2 rfl
   subst hc
   have HGr:=hD0 (show Calls prog 10 #[.slice va2 (a::r).length vc2,.func (.func kf) #[] lb] w2 fun e w'=>e=.returned (.tuple #[.int .i64 (Zf ages a r),.bool true])∧Nw w2 w' from HGr.out)
   obtain⟨q,hq⟩:∃q,Zf ages a r=q:=⟨_,rfl⟩
   have HQ:=hD0 hq
   rw[hq] at HGr
   clear hP hq
   go_wp2_with fail
   refine HGr.out.mono ?_
   rintro e w3 ⟨rfl,g3⟩
   obtain⟨gb,cc,w6,hr6,hO6,hE6,hb6,hN6⟩:=HI.out.1.push (Nat.le_trans HB.out.1 (by decide)) q (HG2.out.trans g3)
   obtain⟨n5,hn5⟩:∃n,vs.length+1=n:=⟨_,rfl⟩
   rw[hn5] at hr6 hO6
   have HR6:=hD0 hr6
   have H6:=hD0 (aI0 hO6 (aI0 hE6 (aI0 hb6 hN6)))
   have hb5:b5=vs.length:=by
    obtain⟨_,_,e,_⟩:=(Y4.is HI.out.1.own).box
    simp only[Value.slice.injEq] at e
    exact e.2.1
   have HW:=hD0 (Z14 hE6 (Nat.le_trans HL.out (by decide)) q)
   clear g3 hr6 hO6 hE6 hb6 hN6 HGr hb5 hn5
   go_wp2_with (at_builtin;refine Zr (by rfl) (.tmp 27) (.tmp 29) 28 rfl _ _ _ _ rfl rfl HR6.out ?_)
   refine HW.out.mono ?_
   rintro e w7 ⟨v7,rfl,hE7,_,hnb,g7⟩
   have hE7':=hE7
   obtain⟨a7,c7,he7,_⟩:=hE7
   have HV:=hD0 (show VcI w1 ages l (Y1 l' q) (vs++[q]) v7 (.slice (some ⟨gb,0,none⟩) n5 cc) w7∧(Y1 l' q).length<l'.length from by
    have hd:(Y1 l' q).length<l'.length:=Z3j HP.out (by rw[←HQ.out];exact(Vs ages a r).1)
    refine⟨⟨hE7',onw H6.out.1 g7,fun b o n c e=>?_,H6.out.2.2.2.trans g7,fun e he=>HI.out.1.sub e (Z3i.1 he).1,?_,fun vs' hv=>?_⟩,hd⟩
    ·rcases hnb b o n c e with k | k
     ·refine .inl (fun k2=>?_)
      have k3:gb=b:=Option.some.inj k2
      have:=H6.out.2.2.1
      omega
     ·exact .inr k
    ·have:=HI.out.1.len
     rw[List.length_append,List.length_singleton]
     omega
    ·rw[List.append_assoc]
     refine HI.out.1.vic _ ?_
     have:=Vic.step (ages:=ages) HP.out (vs:=vs') (by rw[HQ.out];exact hv)
     rw[HQ.out] at this
     exact this)
   have HM:=hD0 (show(Y1 l' q).length<k from by rw[←HI.out.2];exact HV.out.2)
   subst he7
   clear hE7' hnb g7 HW HI H6 HP HQ HI2
   go_wp2_with fail
   exact⟨⟨_,Y1 l' q,vs++[q],_,_,_,_,_,rfl,rfl,hD0 ⟨HV.out.1,rfl⟩⟩,HM.out⟩
section
open Go.ChangeShapes Go.WideShapes Go.ChangeAt Go.RowKit
structure Z9n(w:World)(a:Option Addr)(len cap:Nat)(l:List (Int × Int)):Prop where
 hl:l.length=len
 rd:Zl w (.slice a len cap) l
 hc:len≤cap
 fit:∀e∈l,Z6 e.1∧Z6 e.2
end
section
open Go.ChangeShapes Go.WideShapes Go.ChangeAt Go.RowKit
structure Z9l(w:World)(a:Option Addr)(len cap:Nat)(l:List (Int × Int)):Prop where
 hl:l.length=len
 rd:Zl w (.slice a len cap) l
 hc:len≤cap
 fit:∀e∈l,Z6 e.1∧Z6 e.2
structure Z9q(w:World)(a:Option Addr)(len cap:Nat)(l:List Int):Prop where
 hl:l.length=len
 rd:Z18 w (.slice a len cap) l
 hc:len≤cap
 fit:∀e∈l,Z6 e
structure Z9k(w:World)(a:Option Addr)(len cap:Nat)(l:List Int):Prop where
 hl:l.length=len
 rd:Z18 w (.slice a len cap) l
 hc:len≤cap
 fit:∀e∈l,Z6 e
end
structure Z8c(l:List (Int × Int))(n:Nat):Prop where
 pos:0<n
 low:n≤12
 has:∀i:Nat,i<n→((i:Int),(((i+1)%n:Nat):Int))∈l
 only:∀x y,(x,y)∈l→(∃i:Nat,i<n∧x=i∧y=((i+1)%n:Nat))∨(x=100∧∃j:Nat,j<n∧y=j)
section
variable {l:List (Int × Int)} {n:Nat} (h:Z8c l n)
include h
end
abbrev vxE:List (Int × Int):=[(1,2),(2,1)]
abbrev vxA:List (Int × Int):=[(1,5),(2,3)]
theorem Z71:Ym vxE [1,2] true:=by
 have m12:((1:Int),(2:Int))∈vxE:=by simp
 have m21:((2:Int),(1:Int))∈vxE:=by simp
 have r11:Yf vxE 1 1:=.tail (.single m12) m21
 have f21:Far vxE 2 1 1:=⟨.one m21,fun m w=>Yk w⟩
 refine⟨⟨fun _=>⟨1,r11⟩,fun _=>rfl⟩,(fun h=>nomatch h),fun _=>⟨1,[2],rfl,r11,fun v r=>?_,⟨.step m12 (.one m21),fun m w=>?_⟩,.step m12 f21 (fun y hy _=>?_) (.last m21)⟩⟩
 ·obtain⟨y,hy⟩:=Y8 r
  simp at hy
  omega
 ·have:=Yk w
  cases w with
  | one k=>simp at k
  | step _ k=>have:=Yk k;simp only[List.length_cons,List.length_nil];omega
 ·simp at hy
  show(2:Int)≤y
  omega
theorem Ur:Ym [] [] false:=Z0p (fun⟨x,r⟩=>by
 obtain⟨y,hy⟩:=Y8 r
 cases hy)
theorem Z8a:Vic vxA vxE [1]:=by
 have e:Zf vxA 1 [2]=1:=by kernel_rfl
 have d:Y1 vxE 1=[]:=by kernel_rfl
 have:=Vic.step (ages:=vxA) Z71 (vs:=[]) (by rw[e,d];exact .done Ur)
 rwa [e] at this
theorem Z72:∀e∈vxE,Z6 e.1∧Z6 e.2:=by
 intro e he
 unfold Z6
 simp at he
 rcases he with rfl | rfl<;>simp
theorem Z70:∀e∈vxA,Z6 e.1:=by
 intro e he
 unfold Z6
 simp at he
 rcases he with rfl | rfl<;>simp
theorem Z8n(w:World)(x:Int):IS (w.alloc (.cells #[.int .i64 x] 3)) (.slice (some ⟨w.heap.size,0,none⟩) 1 1) [x]:=by
 have h:=World.ownsRow_lit (base:=0) (size:=1) (e:=3) w #[.int .i64 x] 1 (Nat.zero_le _) (by unfold maxLen;omega) (by simp)
 unfold IS
 simpa using h
theorem Z47(w:World):Calls prog 4 #[] w fun e w'=>e=.returned (.bool true)∧Nw w w':=by
 have hal:=Z5 w (.cells #[.int .i64 1,.int .i64 2,.int .i64 2,.int .i64 1] 32)
 have g1:Nw w (w.alloc (.cells #[.int .i64 1,.int .i64 2,.int .i64 2,.int .i64 1] 32)):=(Nw.refl w).alloc _
 obtain⟨w1,hw1⟩:∃x,w.alloc (.cells #[.int .i64 1,.int .i64 2,.int .i64 2,.int .i64 1] 32)=x:=⟨_,rfl⟩
 rw[hw1] at hal g1
 have hal2:=Z5 w1 (.cells #[.int .i64 1,.int .i64 5,.int .i64 2,.int .i64 3] 24)
 have g2:Nw w1 (w1.alloc (.cells #[.int .i64 1,.int .i64 5,.int .i64 2,.int .i64 3] 24)):=(Nw.refl w1).alloc _
 obtain⟨w2,hw2⟩:∃x,w1.alloc (.cells #[.int .i64 1,.int .i64 5,.int .i64 2,.int .i64 3] 24)=x:=⟨_,rfl⟩
 rw[hw2] at hal2 g2
 obtain⟨B1,hB1⟩:∃x,w.heap.size=x:=⟨_,rfl⟩
 obtain⟨B2,hB2⟩:∃x,w1.heap.size=x:=⟨_,rfl⟩
 have hs:w.heap.size+1=B2:=by rw[←hB2,←hw1];simp
 rw[hB1] at hal
 rw[hB2] at hal2
 have hE:Zl w2 (.slice (some ⟨B1,0,none⟩) 2 2) vxE:=Rd.nw (Yo (row:=Zi) (sz:=2) (fun _=>rfl) (l:=vxE) hal 2) g2
 have hA:Zl w2 (.slice (some ⟨B2,0,none⟩) 2 2) vxA:=Yo (row:=Zi) (sz:=2) (fun _=>rfl) (l:=vxA) hal2 2
 have HC:=hD0 (Yr hE (by decide) Z72 hA (by decide) Z70)
 have HG:=hD0 (g1.trans g2)
 have HW1:=hD0 (aI0 hw1 (aI0 hw2 (aI0 hB1 (hB1▸hs))))
 clear hw1 hw2 hal hal2 g1 g2 hE hA hB1 hB2 hs
 go_enter func4,ntmps4
 go_wp2_with fail
 rw[HW1.out.1,HW1.out.2.1,HW1.out.2.2.1,HW1.out.2.2.2]
 refine HC.out.mono ?_
 rintro e w3 ⟨v3,vs,rfl,hIo,hV,g3⟩
 have hI:=Y4.is hIo
 clear hIo
 obtain rfl:=Vd hV Z8a
 have g4:Nw w3 (w3.alloc (.cells #[.int .i64 1] 3)):=(Nw.refl w3).alloc _
 have HS:=hD0 (Z23 _ v3 (.slice (some ⟨w3.heap.size,0,none⟩) 1 1) [1] (hI.nw g4) (Z8n w3 1))
 have HG2:=hD0 ((HG.out.trans g3).trans g4)
 clear hI hV g3 g4 HC HW1
 go_wp2_with fail
 refine HS.out.mono ?_
 rintro e w5 ⟨rfl,g5⟩
 have HZ:=hD0 (HG2.out.trans g5)
 clear g5
 go_wp2
 go_ret
 exact⟨rfl,HZ.out⟩
structure EdM(W0 w6:World)(K:Nat→Prop)(acc:List (Int × Int))(v:Value)(w:World):Prop where
 own:Za w W0.heap.size v acc
 nw:Nw W0 w
 tch:Zc (fun j=>W0.heap.size≤j∧¬K j) w6 w
 off:∀j,K j→v.ownBlock≠some j
def HB(w:World)(B:Nat)(t r:Int)(v:Value)(W:Int):Prop:=w.heap[B]?=some (.cells #[.int .i64 t,.int .i64 r,v,.int .i64 W] 60)
section
open Go.ChangeShapes Go.WideShapes Go.ChangeAt Go.RowKit Go.Deep
section
variable {H:Type} {enc:TypeId × Value→H} {w:World} {base:Nat} {spare:Nat→Bool} {held:Bool}
def Z7g(R:Rq):Prop:=(-9223372036854775808≤R.id∧R.id≤9223372036854775807)∧(-9223372036854775808≤R.txn∧R.txn≤9223372036854775807)∧(-9223372036854775808≤R.sn∧R.sn≤9223372036854775807)
end
end
section
open Go.ChangeShapes Go.WideShapes Go.ChangeAt Go.RowKit Go.Deep
structure Z95(w:World)(x:Hv):Prop where
 at_:Z2b w x.v x.h.q
 cap:Z77 x.v
 fit:∀R∈x.h.q,Z7g R
structure Z9j(w:World)(a:Option Addr)(len cap:Nat)(l:List Hv):Prop where
 hl:l.length=len
 rd:Rd 4 Z51 w (.slice a len cap) l
 hc:len≤cap
 all:∀x∈l,Z95 w x
section
variable {H:Type} {enc:TypeId × Value→H} {w:World} {base:Nat} {spare:Nat→Bool} {held:Bool}
end
end
theorem Z4u{l:List Hv}(hl:l.length≤6)(h:∀x∈l,x.h.q.length≤12)(n:Nat):(edL l n).length≤900:=by
 have h1:=V5 (fun x:Hv=>edH x.h.q x.h.q.length) 144 (l.take n) fun x hx=>Z0q (h x (List.mem_of_mem_take hx)) _
 have h2:(l.take n).length≤6:=Nat.le_trans (by rw[List.length_take];omega) hl
 unfold edL
 omega
theorem Z6d{l:List Hv}(ho:∀x∈l,Ok x.h.W x.h.q)(hf:∀x∈l,∀R∈x.h.q,Z7g R):∀e∈sortE (edL l l.length),Z6 e.1∧Z6 e.2:=by
 intro e he
 rw[Yq] at he
 unfold edL at he
 rw[List.take_of_length_le (Nat.le_refl _)] at he
 obtain⟨x,hx,he⟩:=List.mem_flatMap.1 he
 obtain⟨R,hR,_,e1,o,ho',_,_,e2⟩:=(Z6b (ho x hx) e).1 he
 refine⟨?_,?_⟩
 ·rw[e1];exact(hf x hx R hR).2.1
 ·rw[←e2];exact(hf x hx o ho').2.1
theorem Z6z{w0:World}{v va:Value}{hs:List Hv}{ages:List (Int × Int)}(h:Rd 4 Z51 w0 v hs)(hx:∀x∈hs,Z48 w0 x)(hf:∀x∈hs,∀R∈x.h.q,Z7g R)(hl:hs.length≤6)(ha:Zl w0 va ages)(hal:ages.length≤1000)(hfa:∀e∈ages,Z6 e.1) :
  Calls prog 9 #[v,va] w0 fun e w'=>∃v' vs,e=.returned v'∧InO w' w0.heap.size v' vs∧Vic ages (sortE (edL hs hs.length)) vs∧Nw w0 w':=by
 have HE:=hD0 (Z3k h hx (Nat.le_trans hl (by decide)))
 have HA:=hD0 (aI0 ha hal)
 have HF:=hD0 (aI0 (Z6d (fun x hx'=>(hx x hx').ok) hf) (show(sortE (edL hs hs.length)).length≤900 from Nat.le_trans (Z0e _) (Z4u hl (fun x hx'=>(hx x hx').len) _)))
 obtain⟨la,lc,rfl,_⟩:=h
 obtain⟨ga,gc,rfl,_⟩:=ha
 go_enter func9,ntmps9
 go_wp2_with fail
 refine HE.out.mono ?_
 rintro e w1 ⟨v1,rfl,hO1,g1⟩
 have HV:=hD0 (Yr (Za.at_ hO1) HF.out.2 HF.out.1 (HA.out.1.nw g1) HA.out.2 hfa)
 have HG1:=hD0 g1
 clear hO1 g1 HE
 go_wp2_with fail
 refine HV.out.mono ?_
 rintro e w2 ⟨v2,vs,rfl,hI,hV,g2⟩
 have HR:=hD0 (aI0 (show InO w2 w0.heap.size v2 vs from Z55 hI (fun b e=>Nat.le_trans HG1.out.sz (oge hI e))) (aI0 hV (HG1.out.trans g2)))
 clear hI hV g2 HV
 go_wp2_with fail
 go_ret
 exact⟨_,vs,rfl,HR.out.1,HR.out.2.1,HR.out.2.2⟩
abbrev vnA:List (Int × Int):=[(3,9),(3,1),(4,9)]
theorem Z8x:Zf vnA 3 [4,5]=4:=by kernel_rfl
theorem Z8y:Zf vnA 7 [6]=7:=by kernel_rfl
theorem Z8v:Yc vnA 3=9:=by kernel_rfl
theorem Z8w:Yc vnA 8=0:=by kernel_rfl
abbrev vn1:List (Int × Int):=[(1,2)]
theorem Z6v:Vic vnA vn1 []:=.done (Z0p fun⟨x,r⟩=>by
 obtain⟨y,hy⟩:=Y8 r
 obtain⟨z,hz⟩:=Z5b r
 simp at hy hz
 omega)
abbrev vn3:List (Int × Int):=[(1,1),(2,3),(3,2)]
theorem Z6x:Ym vn3 [1] true:=by
 have m:((1:Int),(1:Int))∈vn3:=by simp
 have r:Yf vn3 1 1:=.single m
 refine⟨⟨fun _=>⟨1,r⟩,fun _=>rfl⟩,(fun h=>nomatch h),fun _=>⟨1,[],rfl,r,fun v r=>?_,⟨.one m,fun m w=>Yk w⟩,.last m⟩⟩
 obtain⟨y,hy⟩:=Y8 r
 simp at hy
 omega
abbrev vn2:List (Int × Int):=[(2,3),(3,2)]
theorem Z6w:Ym vn2 [2,3] true:=by
 have m23:((2:Int),(3:Int))∈vn2:=by simp
 have m32:((3:Int),(2:Int))∈vn2:=by simp
 have r22:Yf vn2 2 2:=.tail (.single m23) m32
 have f32:Far vn2 3 2 1:=⟨.one m32,fun m w=>Yk w⟩
 refine⟨⟨fun _=>⟨2,r22⟩,fun _=>rfl⟩,(fun h=>nomatch h),fun _=>⟨2,[3],rfl,r22,fun v r=>?_,⟨.step m23 (.one m32),fun m w=>?_⟩,.step m23 f32 (fun y hy _=>?_) (.last m32)⟩⟩
 ·obtain⟨y,hy⟩:=Y8 r
  simp at hy
  omega
 ·have:=Yk w
  cases w with
  | one k=>simp at k
  | step _ k=>have:=Yk k;simp only[List.length_cons,List.length_nil];omega
 ·simp at hy
  show(3:Int)≤y
  omega
theorem Z6y:Vic vnA vn3 [1,3]:=by
 have e1:Zf vnA 1 []=1:=by kernel_rfl
 have e2:Zf vnA 2 [3]=3:=by kernel_rfl
 have d1:Y1 vn3 1=vn2:=by kernel_rfl
 have d2:Y1 vn2 3=[]:=by kernel_rfl
 have s2:=Vic.step (ages:=vnA) Z6w (vs:=[]) (by rw[e2,d2];exact .done Ur)
 rw[e2] at s2
 have s1:=Vic.step (ages:=vnA) Z6x (vs:=[3]) (by rw[e1,d1];exact s2)
 rwa [e1] at s1
theorem Z5p{l:List (Int × Int)}(h:∀e∈l,0≤e.1∧e.1≤10∧0≤e.2∧e.2≤10):∀e∈l,Z6 e.1∧Z6 e.2:=fun e he=>by
 have:=h e he
 unfold Z6
 omega
theorem Z3b{l:List Int}(h:∀e∈l,0≤e∧e≤10):∀e∈l,Z6 e:=fun e he=>by
 have:=h e he
 unfold Z6
 omega
theorem Ve:∀e∈vnA,Z6 e.1:=fun e he=>by
 have:0≤e.1∧e.1≤10:=by
  simp at he
  rcases he with rfl | rfl | rfl<;>simp
 unfold Z6
 omega
theorem Z7f(w:World)(x y:Int):IS (w.alloc (.cells #[.int .i64 x,.int .i64 y] 3)) (.slice (some ⟨w.heap.size,0,none⟩) 2 2) [x,y]:=by
 have h:=World.ownsRow_lit (base:=0) (size:=1) (e:=3) w #[.int .i64 x,.int .i64 y] 2 (Nat.zero_le _) (by unfold maxLen;omega) (by simp)
 unfold IS
 simpa using h
theorem Z8z(w:World)(x y z:Int):IS (w.alloc (.cells #[.int .i64 x,.int .i64 y,.int .i64 z] 3)) (.slice (some ⟨w.heap.size,0,none⟩) 3 3) [x,y,z]:=by
 have h:=World.ownsRow_lit (base:=0) (size:=1) (e:=3) w #[.int .i64 x,.int .i64 y,.int .i64 z] 3 (Nat.zero_le _) (by unfold maxLen;omega) (by simp)
 unfold IS
 simpa using h
theorem names14(w:World):Calls prog 3 #[] w fun e w'=>e=.returned (.bool true)∧Nw w w':=by
 have HLv:=hD0 (Z47 w)
 go_enter func3,ntmps3
 go_wp2_with fail
 refine HLv.out.mono ?_
 rintro e w0 ⟨rfl,g0⟩
 have HG0:=hD0 g0
 clear g0 HLv
 go_upto_region 4 with fail
 have hal:=Z5 w0 (.cells #[.int .i64 3,.int .i64 9,.int .i64 3,.int .i64 1,.int .i64 4,.int .i64 9] 24)
 have gA:Nw w0 (w0.alloc (.cells #[.int .i64 3,.int .i64 9,.int .i64 3,.int .i64 1,.int .i64 4,.int .i64 9] 24)):=(Nw.refl _).alloc _
 obtain⟨y0,hy0⟩:∃x,w0.alloc (.cells #[.int .i64 3,.int .i64 9,.int .i64 3,.int .i64 1,.int .i64 4,.int .i64 9] 24)=x:=⟨_,rfl⟩
 obtain⟨B,hB⟩:∃x,w0.heap.size=x:=⟨_,rfl⟩
 rw[hy0,hB] at hal ⊢
 rw[hy0] at gA
 have HAt:=hD0 (show Zl y0 (.slice (some ⟨B,0,none⟩) 3 3) vnA from Yo (row:=Zi) (sz:=2) (fun _=>rfl) (l:=vnA) hal 3)
 have K0:=hD0 (HG0.out.trans gA)
 have E0:=hD0 (Nw.refl y0)
 clear hal gA hy0 hB HG0
 have ga:Nw y0 (y0.alloc (.cells #[.int .i64 3,.int .i64 4,.int .i64 5] 3)):=(Nw.refl _).alloc _
 have HC:=hD0 (Vw (a:=3) (r:=[4,5]) (Z8z y0 3 4 5).nm (HAt.out.nw (E0.out.trans ga)) (by simp) (by simp) Ve (Z3b (by simp)))
 have GA:=hD0 ga
 clear ga
 go_wp2_with fail
 refine HC.out.mono ?_
 rintro e y1 ⟨rfl,gk⟩
 have K1:=hD0 (K0.out.trans (GA.out.trans gk))
 have E1:=hD0 (E0.out.trans (GA.out.trans gk))
 rw[Z8x]
 clear gk HC GA
 have ga:Nw y1 y1:=Nw.refl _
 have HC:=hD0 (Z2w (w0:=y1) (Rd.nil y1) rfl (HAt.out.nw E1.out) (by simp) Ve)
 have GA:=hD0 ga
 clear ga
 go_wp2_with fail
 refine HC.out.mono ?_
 rintro e y2 ⟨rfl,gk⟩
 have K2:=hD0 (K1.out.trans (GA.out.trans gk))
 have E2:=hD0 (E1.out.trans (GA.out.trans gk))
 clear gk HC GA
 have ga:Nw y2 (y2.alloc (.cells #[.int .i64 7,.int .i64 6] 3)):=(Nw.refl _).alloc _
 have HC:=hD0 (Vw (a:=7) (r:=[6]) (Z7f y2 7 6).nm (HAt.out.nw (E2.out.trans ga)) (by simp) (by simp) Ve (Z3b (by simp)))
 have GA:=hD0 ga
 clear ga
 go_wp2_with fail
 refine HC.out.mono ?_
 rintro e y3 ⟨rfl,gk⟩
 have K3:=hD0 (K2.out.trans (GA.out.trans gk))
 have E3:=hD0 (E2.out.trans (GA.out.trans gk))
 rw[Z8y]
 clear gk HC GA
 have ga:Nw y3 y3:=Nw.refl _
 have HC:=hD0 (Z29 (HAt.out.nw (E3.out.trans ga)) (by simp) 3)
 have GA:=hD0 ga
 clear ga
 go_wp2_with fail
 refine HC.out.mono ?_
 rintro e y4 ⟨rfl,gk⟩
 have K4:=hD0 (K3.out.trans (GA.out.trans gk))
 have E4:=hD0 (E3.out.trans (GA.out.trans gk))
 rw[Z8v]
 clear gk HC GA
 have ga:Nw y4 y4:=Nw.refl _
 have HC:=hD0 (Z29 (HAt.out.nw (E4.out.trans ga)) (by simp) 8)
 have GA:=hD0 ga
 clear ga
 go_wp2_with fail
 refine HC.out.mono ?_
 rintro e y5 ⟨rfl,gk⟩
 have K5:=hD0 (K4.out.trans (GA.out.trans gk))
 have E5:=hD0 (E4.out.trans (GA.out.trans gk))
 rw[Z8w]
 clear gk HC GA
 have ga:Nw y5 (y5.alloc (.cells #[.int .i64 1,.int .i64 2] 32)):=(Nw.refl _).alloc _
 have HC:=hD0 (Yr (Yo (row:=Zi) (sz:=2) (fun _=>rfl) (l:=vn1) (Z5 y5 (.cells #[.int .i64 1,.int .i64 2] 32)) 1) (by simp) (Z5p (by simp)) (HAt.out.nw (E5.out.trans ga)) (by simp) Ve)
 have GA:=hD0 ga
 clear ga
 go_wp2_with fail
 refine HC.out.mono ?_
 rintro e y6 ⟨v6,vs,rfl,hI,hV,gk⟩
 have K6:=hD0 (K5.out.trans (GA.out.trans gk))
 have E6:=hD0 (E5.out.trans (GA.out.trans gk))
 obtain rfl:=Vd hV Z6v
 obtain⟨ra,rc,rfl,_⟩:=(Y4.is hI).box
 clear hI hV
 clear gk HC GA
 have ga:Nw y6 (y6.alloc (.cells #[.int .i64 1,.int .i64 1,.int .i64 2,.int .i64 3,.int .i64 3,.int .i64 2] 32)):=(Nw.refl _).alloc _
 have HC:=hD0 (Yr (Yo (row:=Zi) (sz:=2) (fun _=>rfl) (l:=vn3) (Z5 y6 (.cells #[.int .i64 1,.int .i64 1,.int .i64 2,.int .i64 3,.int .i64 3,.int .i64 2] 32)) 3) (by simp) (Z5p (by simp)) (HAt.out.nw (E6.out.trans ga)) (by simp) Ve)
 have GA:=hD0 ga
 clear ga
 go_wp2_with fail
 refine HC.out.mono ?_
 rintro e y7 ⟨v7,vs,rfl,hI,hV,gk⟩
 have K7:=hD0 (K6.out.trans (GA.out.trans gk))
 have E7:=hD0 (E6.out.trans (GA.out.trans gk))
 obtain rfl:=Vd hV Z6y
 have H7:=hD0 (Y4.is hI)
 clear hI hV
 clear gk HC GA
 have ga:Nw y7 (y7.alloc (.cells #[.int .i64 1,.int .i64 3] 3)):=(Nw.refl _).alloc _
 have HC:=hD0 (Z23 (y7.alloc (.cells #[.int .i64 1,.int .i64 3] 3)) _ _ [1,3] (H7.out.nw ga) (Z7f y7 1 3))
 have GA:=hD0 ga
 clear ga
 go_wp2_with fail
 refine HC.out.mono ?_
 rintro e y8 ⟨rfl,gk⟩
 have K8:=hD0 (K7.out.trans (GA.out.trans gk))
 have E8:=hD0 (E7.out.trans (GA.out.trans gk))
 clear gk HC GA
 have ga:Nw y8 y8:=Nw.refl _
 have HC:=hD0 (Z6z (w0:=y8) (hs:=[]) (ages:=[]) (Rd.nil y8) (fun x hx=>nomatch hx) (fun x hx=>nomatch hx) (by simp) (Rd.nil y8) (by simp) (fun e he=>nomatch he))
 have GA:=hD0 ga
 clear ga
 go_wp2_with fail
 refine HC.out.mono ?_
 rintro e y9 ⟨v9,vs,rfl,hI,hV,gk⟩
 have K9:=hD0 (K8.out.trans (GA.out.trans gk))
 have E9:=hD0 (E8.out.trans (GA.out.trans gk))
 obtain rfl:=Vd hV (show Vic [] (sortE (edL [] ([]:List Hv).length)) [] from .done Ur)
 obtain⟨ra2,rc2,rfl,_⟩:=(Y4.is hI).box
 clear hI hV
 clear gk HC GA
 go_wp2_with fail
 go_ret
 exact⟨rfl,K9.out⟩
end Go.Proofs.Ytbefaomgldckdaa
