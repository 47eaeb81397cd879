/- Texts merged: WcQ, VbD, WoE, VaO, VaR, VaF -/
import Derived.Test.YtbnpnccpobkodaaVictimRingB10
import Derived.ChangeOld
import Derived.Below
import Derived.Deep.Slices
set_option linter.unusedVariables false
set_option maxRecDepth 100000
set_option maxHeartbeats 16000000
namespace Go.Proofs.Ytbnpnccpobkodaa
open Go.RowKit _root_.Go.Proofs.Try
def Z03(w:World)(f:Value)(p:(Int × Int)→Bool):Prop:=∃(g:Nat) (lb:Array Value),f=.func (.func g) #[] lb∧(∀args w,(callFunc g args).run prog w=.ok (.enter g args) w)∧∀(R:Int × Int) (w1:World),Nw w w1→Calls prog g (#[egV R]++lb) w1 fun e w'=>e=.returned (.bool (p R))∧Nw w1 w'
def Z1m:Value→Prop
 | .slice _ n c=>n≤c
 | _=>True
theorem Zb.capE{w:World}{g0:Nat}{v:Value}{q:List (Int × Int)}(h:Zb w g0 v q):Z1m v:=by
 rcases h.2 with⟨rfl,_⟩ | ⟨g',cap',cur,rfl,_,_,q4,_⟩
 ·exact Nat.le_refl _
 ·exact q4
theorem Zb.atE{w:World}{g0:Nat}{v:Value}{q:List (Int × Int)}(h:Zb w g0 v q){k:Nat}(hk:k<q.length):∃g cap,v=.slice (some ⟨g,0,none⟩) q.length cap∧g0≤g∧g<w.heap.size∧True:=by
 rcases V5 h with⟨_,e⟩ | ⟨g,cap,rfl⟩
 ·omega
 ·exact⟨g,cap,rfl,oge h rfl,olt h rfl,trivial⟩
theorem Z0u{w:World}{g0 g cap n:Nat}{q:List (Int × Int)}(h:Zb w g0 (.slice (some ⟨g,0,none⟩) n cap) q)(hn:n=q.length)(k:Nat)(hk:k<q.length)(j:Nat)(hj:j<2)(u:Value)(new:Int × Int)(e:(Zh q[k]).set j u=Zh new) :
  Zb (w.setCell ⟨g,k*2+j,none⟩ u) g0 (.slice (some ⟨g,0,none⟩) n cap) (q.set k new):=by
 subst hn
 have h1:=(World.ownsRow.stored h (k*2+j) u).1
 unfold Zb Y5
 rw[List.length_set,←U6 (row:=Zh) (sz:=2) (fun _=>rfl) q k hk j hj u new e]
 exact h1
theorem Vc{w:World}{g0 g cap n:Nat}{q:List (Int × Int)}(h:Zb w g0 (.slice (some ⟨g,0,none⟩) n cap) q)(hn:n=q.length)(k:Nat)(hk:k<q.length)(j:Nat)(u:Value)(hu:(Zh q[k])[j]?=some u):w.cell? ⟨g,k*2+j,none⟩=some u:=by
 subst hn
 have hj:j<2:=by have:=(List.getElem?_eq_some_iff.1 hu).1;simpa [Zh] using this
 refine(World.ownsRow.cellAt h (k*2+j) (by omega)).trans ?_
 rw[Y2 (sz:=2) (fun _=>rfl) q k j hk hj];exact hu
theorem Z0t{w:World}{g0 g cap n:Nat}{q:List (Int × Int)}(h:Zb w g0 (.slice (some ⟨g,0,none⟩) n cap) q)(hn:n=q.length)(j:Nat):w.frozen? ⟨g,j,none⟩=false:=by
 subst hn
 exact World.ownsRow.frozenAt h j
def Ug(p:(Int × Int)→Bool):List (Int × Int)→Int
 | []=>-1
 | a::r=>if p a=true then 0 else if Ug p r = -1 then -1 else Ug p r+1
theorem Yr(p:(Int × Int)→Bool):∀q:List (Int × Int),(Ug p q = -1∧∀a∈q,p a=false)∨∃k:Nat,Ug p q=k∧∃h:k<q.length,p q[k]=true∧∀i (hi:i<q.length),i<k→p q[i]=false
 | []=>.inl ⟨rfl,by simp⟩
 | a::r=>by
  unfold Ug
  cases e:p a with
  | true=>exact .inr ⟨0,rfl,by simp,e,fun i _ h=>by omega⟩
  | false =>
   rcases Yr p r with⟨h1,h2⟩ | ⟨k,h1,h2,h3,h4⟩
   ·rw[h1]
    refine .inl ⟨rfl,fun x hx=>?_⟩
    rcases List.mem_cons.1 hx with rfl | hx
    ·exact e
    ·exact h2 x hx
   ·rw[h1]
    refine .inr ⟨k+1,?_,by simpa using h2,h3,fun i hi hik=>?_⟩
    ·simp only[Bool.false_eq_true,if_false]
     rw[if_neg (by omega)];rfl
    ·cases i with
     | zero=>exact e
     | succ i=>exact h4 i (by simpa using hi) (by omega)
theorem Z3r{p:(Int × Int)→Bool}{q:List (Int × Int)}{k:Nat}(hk:k<q.length)(h:p q[k]=true)(hb:∀i (hi:i<q.length),i<k→p q[i]=false):Ug p q=k:=by
 rcases Yr p q with⟨_,h2⟩ | ⟨j,h1,h2,h3,h4⟩
 ·rw[h2 _ (gM0 hk)] at h;cases h
 ·rw[h1]
  rcases Nat.lt_trichotomy j k with g | g | g
  ·rw[hb j h2 g] at h3;cases h3
  ·rw[g]
  ·rw[h4 k hk g] at h;cases h
theorem Z2s{p:(Int × Int)→Bool}{q:List (Int × Int)}(h:∀i (hi:i<q.length),p q[i]=false):Ug p q = -1:=by
 rcases Yr p q with⟨h1,_⟩ | ⟨j,h1,h2,h3,_⟩
 ·exact h1
 ·rw[h j h2] at h3;cases h3
theorem Z4w(v f:Value)(p:(Int × Int)→Bool)(q:List (Int × Int))(w:World)(hl:q.length≤1000)(h:Zt w v q)(hf:Z03 w f p) :
  Calls prog 46 #[v,f] w fun e w'=>e=.returned (.int .i64 (Ug p q))∧Nw w w':=by
 obtain⟨g,lb,rfl,eg,hT⟩:=hf
 have HT:=hD0 hT
 clear hT
 obtain⟨a,c,rfl,⟨rfl,_⟩ | ⟨b,o,rfl,hc⟩⟩:=h
 ·go_enter func46,ntmps46
  go_wp2
  refine wp_loop_rounds 1 ?_
  repeat (rw[rounds_succ];go_wp2)
  go_ret
  exact⟨rfl,Nw.refl _⟩
 ·have H:=hD0 hc
  clear hc
  obtain⟨V,hV⟩:∃V,Ug p q=V:=⟨_,rfl⟩
  rw[hV]
  have HV:=hD0 hV
  clear hV
  go_enter func46,ntmps46
  go_wp2
  go_loopw [8] (fun i wr=>∃k:Nat,k≤q.length∧i=.int .i64 k∧(∀i (hi:i<q.length),i<k→p q[i]=false)∧Nw w wr) (fun i _=>q.length-(intOf i).toNat)
  case atStart=>exact⟨0,Nat.zero_le _,rfl,fun _ _ h=>by omega,Nw.refl _⟩
  case round =>
   obtain⟨k,hk,rfl,hF,hN⟩:=hrel
   by_cases hlt:k<q.length
   ·have hce:=(H.out.nw hN).cell k hlt
    obtain⟨R,hR⟩:∃R,q[k]=R:=⟨_,rfl⟩
    rw[hR] at hce
    have HC:=hD0 (HT.out R)
    have HS:=hD0 hR
    have HF:=hD0 hF
    have HN:=hD0 hN
    clear hR hF hN
    obtain⟨B,hB⟩:∃B,p R=B:=⟨_,rfl⟩
    rw[hB] at HC
    have HB:=hD0 hB
    clear hB
    obtain⟨b0,b1⟩:=R
    have e0:=hce 0 _ rfl
    have e1:=hce 1 _ rfl
    simp only[Nat.add_zero] at e0
    clear hce
    cases B
    case true =>
     go_wp2_with (go_at_fn g;refine(HC.out _ HN.out).mono ?_;rintro e w1 ⟨rfl,g1⟩)
     go_ret
     exact⟨by rw[←HV.out,Z3r hlt (by rw[HS.out];exact HB.out) HF.out];rfl,HN.out.trans g1⟩
    case false =>
     go_wp2_with (go_at_fn g;refine(HC.out _ HN.out).mono ?_;rintro e w1 ⟨rfl,g1⟩)
     go_roundw
     case rel =>
      refine⟨k+1,by omega,by go_num,fun i hi hik=>?_,HN.out.trans g1⟩
      by_cases q:i<k
      ·exact HF.out i hi q
      ·have:i=k:=by omega
       subst this
       rw[HS.out];exact HB.out
     case measure=>simp[intOf];omega
   ·have HF:=hD0 hF
    have HN:=hD0 hN
    clear hF hN
    go_wp2
    go_ret
    exact⟨by rw[←HV.out,Z2s fun i hi=>HF.out i hi (by omega)];rfl,HN.out⟩
abbrev ezQ:Value:=.agg #[.int .i64 0,.int .i64 0]
theorem Z1o(w:World)(g o n c:Nat)(hn:0<n)(hc:∀j,j<n*2→(w.cell? ⟨g,o+j,none⟩).isSome=true)(hf:∀j,w.frozen? ⟨g,j,none⟩=false) :
  ∃vs,∀ty,(Builtin.clear_ #[22] ty #[.slice (some ⟨g,o,none⟩) n c]).run prog w=.ok (.tuple #[]) (w.setCells g o vs):=by
 obtain⟨m,rfl⟩:∃m,n=m+1:=⟨n-1,by omega⟩
 refine⟨(Builtin.zeroCells ezQ.cells (m+1)).toList,fun ty=>?_⟩
 have hlen:(Builtin.zeroCells ezQ.cells (m+1)).toList.length=(m+1)*2:=by simp[Builtin.zeroCells,Value.cells]
 have hst:=run_storeCells_cells (P:=prog) g o (Builtin.zeroCells ezQ.cells (m+1)).toList 0 w (by rw[hlen];simpa using hc) (by intro j _;exact hf _) (by
  intro v hv
  obtain⟨i,hi,rfl⟩:=List.getElem_of_mem hv
  simp only[Builtin.zeroCells,Array.toList_map,List.getElem_map]
  have h5:∀i:Nat,i<2→(ezQ.cells[i]!).oneCell'=true:=by decide
  exact h5 _ (Nat.mod_lt _ (by decide)))
 simp only[Nat.add_zero] at hst
 simp[Builtin.clear_,run_underlying underlying22,hst]
theorem Nw.rlsE{a b:World}(h:Nw a b):(∀k o,k<a.heap.size→b.cell? ⟨k,o,none⟩=a.cell? ⟨k,o,none⟩)∧(∀k o,k<a.heap.size→b.frozen? ⟨k,o,none⟩=a.frozen? ⟨k,o,none⟩):=⟨fun _ _ h1=>h.cell h1,fun _ _ h1=>h.froz h1⟩
theorem Z2u{w:World}{g0 g n cap:Nat}{l:List (Int × Int)}(h:Zb w g0 (.slice (some ⟨g,0,none⟩) n cap) l)(hn:n=l.length)(j:Nat)(hj:j<l.length*2):(w.cell? ⟨g,j,none⟩).isSome=true:=by
 subst hn
 have e:w.cell? ⟨g,j,none⟩=(Z5 Zh l)[j]?:=World.ownsRow.cellAt h j hj
 rw[e,List.getElem?_eq_getElem (by rw[Y7 (sz:=2) (fun _=>rfl)];exact hj)];rfl
theorem Vx(g:Nat):∀(vs:List Value) (o:Nat) (w:World),Zd (fun k=>k=g) w (w.setCells g o vs)
 | [],_,w=>Zd.refl _ w
 | v::r,o,w=>by
  rw[World.setCells]
  exact(Zv w ⟨g,o,none⟩ v).trans (Vx g r (o+1) _)
def Z28(w:World)(g a:Nat)(s:Int × Int):World:=(w.setCell ⟨g,a*2,none⟩ (.int .i64 s.1)).setCell ⟨g,a*2+1,none⟩ (.int .i64 s.2)
theorem Z2r{w:World}{g0 g n cap a:Nat}{R:List (Int × Int)}(h:Zb w g0 (.slice (some ⟨g,0,none⟩) n cap) R)(hn:n=R.length)(ha:a<R.length)(s:Int × Int):Zb (Z28 w g a s) g0 (.slice (some ⟨g,0,none⟩) n cap) (R.set a s):=by
 have l1:∀x:Int × Int,n=(R.set a x).length:=fun x=>by rw[List.length_set];exact hn
 have k1:∀x:Int × Int,a<(R.set a x).length:=fun x=>by rw[List.length_set];exact ha
 have h0:=Z0u h hn a ha 0 (by decide) (.int .i64 s.1) (s.1,R[a].2) rfl
 have h1:=Z0u h0 (l1 _) a (k1 _) 1 (by decide) (.int .i64 s.2) s (by rw[List.getElem_set_self];rfl)
 rw[List.set_set] at h1
 exact h1
theorem Z2t(w:World)(g a:Nat)(s:Int × Int):Zd (fun k=>k=g) w (Z28 w g a s):=by
 unfold Z28
 exact((Zd.refl (fun k=>k=g) w).set (p:=⟨g,a*2,none⟩) (.inl rfl) _).set (p:=⟨g,a*2+1,none⟩) (.inl rfl) _
abbrev Y1(p:(Int × Int)→Bool)(l:List (Int × Int)):List (Int × Int):=l.filter fun s=>!p s
structure Z0n(p:(Int × Int)→Bool)(w wr:World)(g0 g n cap a b:Nat)(l R:List (Int × Int)):Prop where
 ab:a<b
 bn:b≤l.length
 len:R.length=l.length
 front:R.take a=Y1 p (l.take b)
 rest:R.drop b=l.drop b
 row:Zb wr g0 (.slice (some ⟨g,0,none⟩) n cap) R
 tch:Zd (fun k=>k=g) w wr
theorem Z08{α:Type}{l:List α}{b:Nat}(h:b<l.length):l.take (b+1)=l.take b++[l[b]]:=by
 rw[List.take_add_one,List.getElem?_eq_getElem h];rfl
theorem Z0s{p:(Int × Int)→Bool}{L:List (Int × Int)}{s:Int × Int}(h:p s=true):Y1 p (L++[s])=Y1 p L:=by
 simp only[Y1,List.filter_append,List.filter_cons,h,Bool.not_true,Bool.false_eq_true,if_false,List.filter_nil,List.append_nil]
theorem Z4x{p:(Int × Int)→Bool}{L:List (Int × Int)}{s:Int × Int}(h:p s=false):Y1 p (L++[s])=Y1 p L++[s]:=by
 simp only[Y1,List.filter_append,List.filter_cons,h,Bool.not_false,if_true,List.filter_nil]
theorem Z2q{α:Type}{R l:List α}{b:Nat}(h:R.drop b=l.drop b)(hb:b<l.length)(hR:R.length=l.length):∃hr:b<R.length,R[b]=l[b]:=by
 refine⟨by omega,?_⟩
 have:=congrArg (fun x=>x[0]?) h
 simp only[List.getElem?_drop,Nat.add_zero] at this
 rw[List.getElem?_eq_getElem hb,List.getElem?_eq_getElem (by omega)] at this
 exact Option.some.inj this
theorem Uo{α:Type}{R l:List α}{b:Nat}(h:R.drop b=l.drop b):R.drop (b+1)=l.drop (b+1):=by
 rw[←List.drop_drop,←List.drop_drop,h]
section
variable {p:(Int × Int)→Bool} {w wr wr':World} {g0 g n cap a b:Nat} {l R:List (Int × Int)}
theorem Z0n.skip(h:Z0n p w wr g0 g n cap a b l R)(hb:b<l.length)(he:p l[b]=true)(g':Nw wr wr'):Z0n p w wr' g0 g n cap a (b+1) l R :=
 ⟨by have:=h.ab;omega,hb,h.len,by rw[h.front,Z08 hb,Z0s he],Uo h.rest,Vl h.row g',h.tch.trans (Zd.nw g')⟩
theorem Z0n.move(h:Z0n p w wr g0 g n cap a b l R)(hn:n=l.length)(hb:b<l.length)(he:p l[b]=false)(g':Nw wr wr'):Z0n p w (Z28 wr' g a l[b]) g0 g n cap (a+1) (b+1) l (R.set a l[b]):=by
 have hab:=h.ab
 have hR:=h.len
 have ha:a<R.length:=by omega
 refine⟨by omega,hb,by simp[hR],?_,?_,?_,?_⟩
 ·rw[Z08 (by simpa using ha),Z08 hb]
  have e1:(R.set a l[b]).take a=R.take a:=List.take_set_of_le (Nat.le_refl a)
  rw[e1,h.front,Z4x he]
  simp
 ·rw[List.drop_set_of_lt (by omega)];exact Uo h.rest
 ·exact Z2r (Vl h.row g') (by omega) ha _
 ·exact(h.tch.trans (Zd.nw g')).trans (Z2t _ _ _ _)
end
theorem Uh{p:(Int × Int)→Bool}{l:List (Int × Int)}{j:Nat}(hj:j<l.length)(he:p l[j]=true)(hF:∀i (hi:i<l.length),i<j→p l[i]=false):l.take j=Y1 p (l.take (j+1)):=by
 rw[Z08 hj,Z0s he]
 symm
 rw[Y1,List.filter_eq_self]
 intro s hs
 obtain⟨i,hi,rfl⟩:=List.getElem_of_mem hs
 simp at hi
 simp[hF i (by omega) (by omega)]
theorem Z0r{p:(Int × Int)→Bool}{l:List (Int × Int)}(h:∀s∈l,p s=false):Y1 p l=l:=by
 rw[Y1,List.filter_eq_self]
 intro s hs
 simp[h s hs]
theorem Z3p(p:(Int × Int)→Bool)(f:Value)(g0:Nat)(v:Value)(l:List (Int × Int))(w:World)(hl:l.length≤1000)(h:Zb w g0 v l)(hf:Z03 w f p)(hfr:∀w1,Zd (fun k=>v.ownBlock=some k) w w1→Z03 w1 f p) :
  Calls prog 33 #[v,f] w fun e w'=>∃v',e=.returned v'∧Zt w' v' (Y1 p l)∧Z1m v'∧(∀b o n c,v'=.slice (some ⟨b,o,none⟩) n c→v.ownBlock=some b∨(Y1 p l)=[])∧Zd (fun k=>v.ownBlock=some k) w w':=by
 have HI0:=Z4w v f p l w hl (Zb.at_ h) hf
 have hf':=hf
 obtain⟨gf,lb,rfl,eg,_⟩:=hf'
 obtain⟨hfo,-⟩:True∧True:=⟨trivial,trivial⟩
 obtain⟨px,hpx⟩:∃px,Ug p l=px:=⟨_,rfl⟩
 rw[hpx] at HI0
 have HI:=hD0 HI0
 clear HI0
 rcases Yr p l with⟨h1,h2⟩ | ⟨j,h1,hj,he,hF⟩
 ·obtain rfl:=hpx.symm.trans h1
  obtain⟨a,c,rfl⟩:=(Zb.at_ h).form
  have HR:=hD0 h
  clear h hfr hf
  go_enter func33,ntmps33
  go_wp2_with (go_at_call 46;refine HI.out.mono ?_;rintro e w1 ⟨rfl,g1⟩)
  go_ret
  exact⟨_,rfl,by rw[Z0r h2];exact Zb.at_ (Vl HR.out g1),Zb.capE HR.out,fun b o n k e=>by
   rcases V5 HR.out with⟨e2,z⟩ | ⟨g,cap,e2⟩
   ·exact .inr (by rw[Z0r h2];exact List.length_eq_zero_iff.1 z)
   ·have e3:=e2.symm.trans e
    simp only[Value.slice.injEq,Option.some.injEq,Addr.mk.injEq] at e3
    refine .inl ?_
    rw[e2,←e3.1.1];rfl,Zd.nw g1⟩
 obtain rfl:=hpx.symm.trans h1
 obtain⟨g,cap,rfl,hg0,hgl,_⟩:=Zb.atE h hj
 have hcap:=Zb.capE h
 have hcap:l.length≤cap:=hcap
 have d0:((j:Int)==-1)=false:=by simp
 have HX:=hD0 (aI0 he hF)
 have HFr:=hD0 hfr
 have H:=hD0 h
 clear he hF hfr hf h
 go_enter func33,ntmps33
 go_wp2_with (go_at_call 46;refine HI.out.mono ?_;rintro e w1 ⟨rfl,g1⟩)
 have HD:Hid (Z0n p w w1 g0 g l.length cap j (j+1) l l):=hD0 ⟨by omega,hj,rfl,Uh hj HX.out.1 HX.out.2,rfl,Vl H.out g1,Zd.nw g1⟩
 clear HX H HI g1
 case _ =>
  go_loopw [5,6] (fun i k wr=>∃(a b:Nat) (R:List (Int × Int)),i=.int .i64 a∧k=.int .i64 b∧Z0n p w wr g0 g l.length cap a b l R) (fun _ k _=>l.length-(intOf k).toNat)
  case atStart=>exact⟨j,j+1,l,rfl,by go_num,HD.out⟩
  case round =>
   obtain⟨a,b,R,rfl,rfl,hD⟩:=hrel
   have hab:=hD.ab
   have hbn:=hD.bn
   by_cases hlt:b<l.length
   ·obtain⟨hrb,hRb⟩:=Z2q hD.rest hlt hD.len
    obtain⟨s,hs⟩:∃s,l[b]=s:=⟨_,rfl⟩
    rw[hs] at hRb
    have Z6:∀c u,(Zh s)[c]?=some u→wr.cell? ⟨g,b*2+c,none⟩=some u:=fun c u hu=>Vc hD.row hD.len.symm b hrb c u (by rw[hRb];exact hu)
    have c0:=Z6 0 _ rfl
    have c1:=Z6 1 _ rfl
    simp only[Nat.add_zero] at c0
    have hgl:=olt hD.row rfl
    have hT:=HFr.out wr (hD.tch.mono fun i _ e=>by rw[e];rfl)
    obtain⟨gf',lb',eqf,_,hTT⟩:=hT
    simp only[Value.func.injEq,Fn.func.injEq,true_and] at eqf
    obtain⟨rfl,rfl⟩:=eqf
    have HE:=hD0 (hTT s)
    obtain⟨B,hB⟩:∃B,p s=B:=⟨_,rfl⟩
    rw[hB] at HE
    have HB:=hD0 (show p l[b]=B by rw[hs];exact hB)
    have HS:=hD0 hs
    have HR:=hD0 hD
    clear hB Z6 hs hRb hTT
    have g6:Nw wr (wr.alloc (.cells #[.int .i64 s.1,.int .i64 s.2] 29)):=(Nw.refl wr).alloc _
    have hq6:=hD0 (aI0 (Z6 (j:=0) (Z9 wr (.cells #[.int .i64 s.1,.int .i64 s.2] 29))) (Z6 (j:=1) (Z9 wr (.cells #[.int .i64 s.1,.int .i64 s.2] 29))))
    cases B
    case true =>
     clear hD
     go_wp2_with (go_at_fn gf;refine(HE.out _ g6).mono ?_;rintro e w1 ⟨rfl,g1⟩)
     go_roundw
     case rel=>exact⟨a,b+1,R,rfl,by go_num,HR.out.skip hlt HB.out (g6.trans g1)⟩
     case measure=>simp[intOf];omega
    case false =>
     have har:a<R.length:=by have:=hD.len;omega
     have k0:∀c,c<2→∃u,wr.cell? ⟨g,a*2+c,none⟩=some u:=fun c hc=>by
      have:c<(Zh R[a]).length:=hc
      exact⟨_,Vc hD.row hD.len.symm a har c _ (List.getElem?_eq_getElem this)⟩
     obtain⟨y0,a0⟩:=k0 0 (by omega)
     obtain⟨y1,a1⟩:=k0 1 (by omega)
     simp only[Nat.add_zero] at a0
     have fz:=fun c=>Z0t hD.row hD.len.symm c
     have z0:=fz (a*2)
     have z1:=fz (a*2+1)
     have hRl:=hD.len
     have hai:(a:Int)<(l.length:Int):=by omega
     clear k0 fz hD
     go_wp2_with (go_at_fn gf;refine(HE.out _ g6).mono ?_;rintro e w1 ⟨rfl,g1⟩;obtain⟨hc1,hf1⟩:=g1.rlsE)
     go_roundw
     case rel=>exact⟨a+1,b+1,_,by go_num,by go_num,by have:=HR.out.move rfl hlt HB.out (g6.trans g1);rw[HS.out] at this;exact this⟩
     case measure=>simp[intOf];omega
   ·have hbe:b=l.length:=by omega
    subst hbe
    have HR:=hD0 hD
    have hlen:=hD.len
    have hcc:∀q,q<(l.length-a)*2→(wr.cell? ⟨g,a*2+q,none⟩).isSome=true:=fun q hq=>Z2u hD.row hlen.symm (a*2+q) (by omega)
    obtain⟨vs,hvs⟩:=Z1o wr g (a*2) (l.length-a) (cap-a) (by omega) hcc (fun q=>Z0t hD.row hlen.symm q)
    have e1:((l.length:Int)-(a:Int)).toNat=l.length-a:=by omega
    have hne:¬cap=a:=by omega
    clear hD hcc
    go_wp2
    go_ret
    have hfr:=HR.out.front
    rw[List.take_length] at hfr
    have hpl:(Y1 p l).length=a:=by rw[←hfr,List.length_take];omega
    have hT:=Vx g vs (a*2) wr
    refine⟨_,rfl,⟨_,cap,by rw[hpl];rfl,.inr ⟨g,0,rfl,lL0 (olt HR.out.row rfl) hT.size,fun i hi c u hu=>?_⟩⟩,by show a≤cap;omega,fun b o n c e=>by
     injection e with e _ _
     injection e with e
     injection e with e _ _
     rw[←e];exact .inl rfl,(HR.out.tch.trans hT).mono fun i _ e=>by rw[e];rfl⟩
    have hc:c<2:=by have:=(List.getElem?_eq_some_iff.1 hu).1;simpa [Zh] using this
    rw[Nat.zero_add,World.cell?_setCells_out g vs _ wr _ (fun _ _=>.inl (show i*2+c<a*2 by omega))]
    have hiR:i<R.length:=by omega
    refine Vc HR.out.row hlen.symm i hiR c u ?_
    have hx:(Y1 p l)[i]=R[i]:=by
     have:∀(M:List (Int × Int)) (e:R.take a=M) (h:i<M.length),M[i]=R[i]:=fun M e h=>by subst e;simp
     exact this _ hfr hi
    rw[←hx];exact hu
theorem Z0i(e:Int × Int){w:World}{B:Nat}{t:Int}(h:w.cell? ⟨B,0,none⟩=some (.int .i64 t)):Calls prog 35 #[egV e,.pointer (some ⟨B,0,none⟩)] w fun e' w'=>e'=.returned (.bool (decide (e.1=t) || decide (e.2=t)))∧Nw w w':=by
 obtain⟨a,b⟩:=e
 have g1:Nw w (w.alloc (.cells #[.int .i64 a,.int .i64 b] 29)):=(Nw.refl w).alloc _
 have hc:=g1.kp h
 have hal:=Z9 w (.cells #[.int .i64 a,.int .i64 b] 29)
 by_cases q:a=t
 ·have h1:(a==t)=true:=by simpa using q
  have e1:(decide (a=t) || decide (b=t))=true:=by simp[q]
  rw[e1]
  clear e1 q
  go_enter func35,ntmps35
  go_wp2
  go_ret
  exact⟨rfl,g1⟩
 ·have h1:(a==t)=false:=by simpa using q
  have e1:(decide (a=t) || decide (b=t))=(b==t):=by
   rw[decide_eq_false q,Bool.false_or]
   rfl
  rw[e1]
  clear e1
  go_enter func35,ntmps35
  go_wp2
  go_ret
  exact⟨rfl,g1⟩
theorem Z1j{w:World}{B:Nat}{t:Int}(h:w.cell? ⟨B,0,none⟩=some (.int .i64 t)):Z03 w (.func (.func 35) #[] #[.pointer (some ⟨B,0,none⟩)]) (fun e=>decide (e.1=t) || decide (e.2=t)):=by
 refine⟨35,_,rfl,enters_of func35 (by kernel_rfl) rfl,fun x w1 g=>?_⟩
 simp only[List.append_toArray,List.cons_append,List.nil_append]
 exact Z0i x (g.kp h)
theorem Z40(l:List (Int × Int))(t:Int):Y1 (fun e=>decide (e.1=t) || decide (e.2=t)) l=Zz l t:=by
 unfold Y1 Zz
 congr 1
 funext e
 simp
theorem Z0j{w:World}{v:Value}{l:List (Int × Int)}(h:Zt w v l)(hl:l.length≤1000)(t:Int) :
  Calls prog 20 #[v,.int .i64 t] w fun e w'=>∃v',e=.returned v'∧Zt w' v' (Zz l t)∧Z1m v'∧(∀b o n c,v'=.slice (some ⟨b,o,none⟩) n c→w.heap.size≤b∨Zz l t=[])∧Nw w w':=by
 have g1:Nw w (w.alloc (.cells #[.int .i64 t] 3)):=(Nw.refl w).alloc _
 have hal:=Z9 w (.cells #[.int .i64 t] 3)
 obtain⟨w1,hw1⟩:∃x,w.alloc (.cells #[.int .i64 t] 3)=x:=⟨_,rfl⟩
 rw[hw1] at g1 hal
 have HW1:=hD0 hw1
 obtain⟨B,hB⟩:∃B,w.heap.size=B:=⟨_,rfl⟩
 have HB:=hD0 hB
 rw[hB] at hal
 have HAL:=hD0 (aI0 hal g1)
 have HC:=hD0 (Z3n v l w1 (Nat.le_trans hl (by decide)) (h.nw g1))
 obtain⟨a,c,rfl⟩:=h.form
 clear h hw1 hB g1 hal
 go_enter func20,ntmps20
 go_upto_region 1 with fail
 rw[HW1.out,HB.out]
 go_wp2_with fail
 refine HC.out.mono ?_
 rintro e w2 ⟨v2,rfl,g2,hO⟩
 have hc2:=g2.kp (Z6 (j:=0) HAL.out.1)
 have hB2:B<w1.heap.size:=hlt HAL.out.1
 have HD:=hD0 (Z3p (fun e=>decide (e.1=t) || decide (e.2=t)) _ _ v2 l w2 hl hO (Z1j hc2) (fun w3 ht=>Z1j ((ht.cell (lL0 hB2 g2.sz) (fun e=>by
  have:=oge hO e
  omega)).trans hc2)))
 have HG:=hD0 (aI0 (HAL.out.2.trans g2) (fun k (e:v2.ownBlock=some k)=>Nat.le_trans HAL.out.2.sz (oge hO e)))
 clear g2 hO hc2 hB2 HC
 go_wp2_with fail
 refine HD.out.mono ?_
 rintro e w3 ⟨v3,rfl,h3,hcp,hnb,ht⟩
 rw[Z40] at h3 hnb
 have HZ:=hD0 (aI0 h3 (aI0 hcp (aI0 (show ∀b o n c,v3=.slice (some ⟨b,o,none⟩) n c→w.heap.size≤b∨Zz l t=[] from fun b o n c e=>(hnb b o n c e).elim (fun q=>.inl (HG.out.2 b q)) .inr) (Zk HG.out.1 ht (fun i e=>HG.out.2 i e)))))
 clear h3 hcp ht hnb HD
 go_wp2
 go_ret
 exact⟨_,rfl,HZ.out.1,HZ.out.2.1,HZ.out.2.2.1,HZ.out.2.2.2⟩
theorem Z4t{l:List (Int × Int)}{c:List Int}{b:Bool}(h:Yk l c b)(hF:∀e∈l,Z4 e.1∧Z4 e.2):∀x∈c,Z4 x:=by
 intro x hx
 obtain⟨i,hi,rfl⟩:=List.getElem_of_mem hx
 exact(hF _ (Va h hi (Nat.lt_of_le_of_lt (Nat.zero_le _) hi))).1
theorem Vj{w0:World}{v va:Value}{l ages:List (Int × Int)}(h:Zt w0 v l)(hl:l.length≤900)(hF:∀e∈l,Z4 e.1∧Z4 e.2)(ha:Zt w0 va ages)(hal:ages.length≤1000)(hfa:∀e∈ages,Z4 e.1) :
  Calls prog 7 #[v,va] w0 fun e w'=>∃v' vs,e=.returned v'∧InO w' w0.heap.size v' vs∧Vic ages l vs∧Nw w0 w':=by
 have HBy:=hD0 (Z2m ha hal hfa)
 have HB:=hD0 (aI0 hl (aI0 hF h))
 obtain⟨la,lc,rfl,_⟩:=h
 obtain⟨ga,gc,rfl,_⟩:=ha
 clear hF hfa
 go_enter func7,ntmps7
 go_wp2_with fail
 refine HBy.out.mono ?_
 rintro e w1 ⟨f,rfl,hC,g1⟩
 have HCm:=hD0 (fun(z:World) (g:Nw w1 z) (v:Value) (c:List Int) (hn:Z3d z v c) (hcl:c.length≤200000) (hcf:∀x∈c,Z4 x)=>Z09 hn (hC.nw g) hcl hcf)
 obtain⟨kf,lb,rfl,_⟩:=hC
 have HG1:=hD0 g1
 have H0:=hD0 (show VcI w1 ages l l [] (.slice la l.length lc) (.slice none 0 0) w1 from⟨HB.out.2.2.nw g1,World.ownsRow_nil _ _ _ _,fun b o n c _=>.inl (fun e=>nomatch e),Nw.refl _,fun e he=>he,by rw[Z31];exact Nat.le_refl _,fun vs' q=>q⟩)
 clear g1 HBy
 go_wp2_with fail
 go_loopw [0,6] (fun v0 v6 wr=>∃(k:Nat) (l':List (Int × Int)) (vs:List Int) (a0:Option Addr) (c0:Nat) (a5:Option Addr) (b5 c5:Nat),v0=.slice a0 k c0∧v6=.slice a5 b5 c5∧Hid (VcI w1 ages l l' vs (.slice a0 k c0) (.slice a5 b5 c5) wr∧l'.length=k)) (fun v0 _ _=>Z76 v0)
 case atStart=>exact⟨_,l,[],_,_,_,_,_,rfl,rfl,hD0 ⟨H0.out,rfl⟩⟩
 case round =>
  clear H0
  obtain⟨k,l',vs,a0,c0,a5,b5,c5,rfl,rfl,HI⟩:=hrel
  have hl':l'.length≤900:=by have:=HI.out.1.len;have:=HB.out.1;omega
  have HL:=hD0 hl'
  have HFi:=hD0 (fun(e:Int × Int) (he:e∈l')=>HB.out.2.1 e (HI.out.1.sub e he))
  have HC:=hD0 (Z2o HI.out.1.at_ (Nat.le_trans HL.out (by decide)) HFi.out)
  clear hl'
  go_wp2_with fail
  refine HC.out.mono ?_
  rintro e w2 ⟨v2,c,is,rfl,hI2,hP,g2⟩
  have HG2:=hD0 g2
  have HP:=hD0 hP
  have HI2:=hD0 hI2
  have hcl:c.length≤200000:=by
   have:=Z3k hP
   have:=HL.out
   omega
  have HGr:=hD0 (HCm.out w2 (HI.out.1.nw.trans HG2.out) v2 c hI2.nm hcl (Z4t hP HFi.out))
  obtain⟨va2,vc2,rfl,_⟩:=hI2.box
  clear g2 HC hI2 hcl
  cases is with
  | false =>
   have hc:=hP.2.1 rfl
   subst hc
   have HGr:=hD0 (show Calls prog 19 #[.slice va2 ([]:List Int).length vc2,.func (.func kf) #[] lb] w2 fun e w'=>e=.returned (.tuple #[.int .i64 0,.bool false])∧Nw w2 w' from HGr.out)
   have HR:=hD0 (show ∀z,Nw w2 z→InO z w0.heap.size (.slice a5 b5 c5) vs∧Vic ages l vs∧Nw w0 z from fun z g=>⟨Z52 (Vl HI.out.1.own (HG2.out.trans g)) (fun b e=>Nat.le_trans HG1.out.sz (oge HI.out.1.own e)),by
    have:=HI.out.1.vic [] (.done HP.out)
    rwa [List.append_nil] at this,HG1.out.trans (HI.out.1.nw.trans (HG2.out.trans g))⟩)
   clear hP HI HI2
   go_wp2_with fail
   refine HGr.out.mono ?_
   rintro e w3 ⟨rfl,g3⟩
   have HR3:=hD0 (HR.out w3 g3)
   clear g3 HR HGr
   go_wp2_with fail
   go_ret
   exact⟨_,vs,by rfl,HR3.out.1,HR3.out.2.1,HR3.out.2.2⟩
  | true =>
   obtain⟨a,r,hc,_⟩:=hP.2.2 rfl
   subst hc
   have HGr:=hD0 (show Calls prog 19 #[.slice va2 (a::r).length vc2,.func (.func kf) #[] lb] w2 fun e w'=>e=.returned (.tuple #[.int .i64 (Zq ages a r),.bool true])∧Nw w2 w' from HGr.out)
   obtain⟨q,hq⟩:∃q,Zq ages a r=q:=⟨_,rfl⟩
   have HQ:=hD0 hq
   rw[hq] at HGr
   clear hP hq
   go_wp2_with fail
   refine HGr.out.mono ?_
   rintro e w3 ⟨rfl,g3⟩
   obtain⟨gb,cc,w6,hr6,hO6,hE6,hb6,hN6⟩:=HI.out.1.push (Nat.le_trans HB.out.1 (by decide)) q (HG2.out.trans g3)
   obtain⟨n5,hn5⟩:∃n,vs.length+1=n:=⟨_,rfl⟩
   rw[hn5] at hr6 hO6
   have HR6:=hD0 hr6
   have H6:=hD0 (aI0 hO6 (aI0 hE6 (aI0 hb6 hN6)))
   have hb5:b5=vs.length:=by
    obtain⟨_,_,e,_⟩:=(Y5.is HI.out.1.own).box
    simp only[Value.slice.injEq] at e
    exact e.2.1
   have HW:=hD0 (Z0j hE6 (Nat.le_trans HL.out (by decide)) q)
   clear g3 hr6 hO6 hE6 hb6 hN6 HGr hb5 hn5
   go_wp2_with (at_builtin;refine Zc (by rfl) (.tmp 27) (.tmp 29) 25 rfl _ _ _ _ rfl rfl HR6.out ?_)
   refine HW.out.mono ?_
   rintro e w7 ⟨v7,rfl,hE7,_,hnb,g7⟩
   have hE7':=hE7
   obtain⟨a7,c7,he7,_⟩:=hE7
   have HV:=hD0 (show VcI w1 ages l (Zz l' q) (vs++[q]) v7 (.slice (some ⟨gb,0,none⟩) n5 cc) w7∧(Zz l' q).length<l'.length from by
    have hd:(Zz l' q).length<l'.length:=Z2p HP.out (by rw[←HQ.out];exact(Yn ages a r).1)
    refine⟨⟨hE7',Vl H6.out.1 g7,fun b o n c e=>?_,H6.out.2.2.2.trans g7,fun e he=>HI.out.1.sub e (Un.1 he).1,?_,fun vs' hv=>?_⟩,hd⟩
    ·rcases hnb b o n c e with k | k
     ·refine .inl (fun k2=>?_)
      have k3:gb=b:=Option.some.inj k2
      have:=H6.out.2.2.1
      omega
     ·exact .inr k
    ·have:=HI.out.1.len
     rw[List.length_append,List.length_singleton]
     omega
    ·rw[List.append_assoc]
     refine HI.out.1.vic _ ?_
     have:=Vic.step (ages:=ages) HP.out (vs:=vs') (by rw[HQ.out];exact hv)
     rw[HQ.out] at this
     exact this)
   have HM:=hD0 (show(Zz l' q).length<k from by rw[←HI.out.2];exact HV.out.2)
   subst he7
   clear hE7' hnb g7 HW HI H6 HP HQ HI2
   go_wp2_with fail
   exact⟨⟨_,Zz l' q,vs++[q],_,_,_,_,_,rfl,rfl,hD0 ⟨HV.out.1,rfl⟩⟩,HM.out⟩
section
open Go.ChangeShapes Go.WideShapes Go.ChangeAt Go.RowKit
theorem Z3u{n:Int}(h:(Lit.int .i64 n).wf=true):Z4 n:=by
 simp[Lit.wf,IntKind.min,IntKind.max,IntKind.signed,IntKind.bits] at h
 unfold Z4
 omega
structure Z7c(w:World)(a:Option Addr)(len cap:Nat)(l:List (Int × Int)):Prop where
 hl:l.length=len
 rd:Zt w (.slice a len cap) l
 hc:len≤cap
 fit:∀e∈l,Z4 e.1∧Z4 e.2
end
section
open Go.ChangeShapes Go.WideShapes Go.ChangeAt Go.RowKit
structure Z7a(w:World)(a:Option Addr)(len cap:Nat)(l:List (Int × Int)):Prop where
 hl:l.length=len
 rd:Zt w (.slice a len cap) l
 hc:len≤cap
 fit:∀e∈l,Z4 e.1∧Z4 e.2
structure Z6t(w:World)(a:Option Addr)(len cap:Nat)(l:List Int):Prop where
 hl:l.length=len
 rd:Z3d w (.slice a len cap) l
 hc:len≤cap
 fit:∀e∈l,Z4 e
theorem Z67{H:Type}{enc:TypeId × Value→H}{W:World}{base fuel:Nat}{held:Bool}{a:Option Addr}{len cap:Nat}{x:DataW H × List MemPlace}(h:DataW.trod enc prog W base (fun _=>true) held fuel 25 (Value.slice a len cap).cells.toList=some x) :
  ∃l,Z6t W a len cap l:=by
 rcases Deep.open_slice underlying25 h with h0 | ⟨ad,len',cap',m,n,D,Pl,hcs,hb,hl,hm,hmm,_,hx⟩
 ·have h1:=h0.1
  simp[Value.cells] at h1
  obtain⟨rfl,rfl,rfl⟩:=h1
  exact⟨[],rfl,Rd.nil W,Nat.le_refl _,by simp⟩
 ·simp[Value.cells] at hcs
  obtain⟨rfl,rfl,rfl⟩:=hcs
  simp only[if_true] at hmm
  subst hmm
  have ci:prog.cellsOf 3=1:=by kernel_rfl
  have each:∀i,i<m→∃q:Int,W.cell? (ad.add i)=some (.int .i64 q)∧Z4 q:=by
   intro i hi
   obtain⟨cs',h1,h2⟩:=hx i hi
   rw[ci,Nat.mul_one] at h1
   obtain⟨_,hlen,Z6⟩:=World.cells?_some h1
   match cs',hlen with
   | [v0],_ =>
    obtain⟨n0,e0,_,u0⟩:=DataW.trod_int underlying3 h2
    simp only[List.cons.injEq,and_true] at e0
    subst e0
    have c0:=Z6 0 (by omega)
    rw[Deep.add_add] at c0
    exact⟨n0,by simpa using c0,Z3u u0⟩
  obtain⟨q,hq⟩:=Deep.choose_lt each
  have hL:((List.range len).map q).length=len:=by simp
  refine⟨(List.range len).map q,hL,?_,hl,fun e he=>?_⟩
  ·by_cases h0:len=0
   ·subst h0
    exact⟨some ad,m,rfl,.inl ⟨rfl,fun e=>by cases e⟩⟩
   ·obtain⟨b,o,spot⟩:=ad
    have hs:spot=none:=by simpa [Addr.add] using World.cell?_spot (hq 0 (by omega)).1
    subst hs
    refine⟨_,m,by rw[hL],.inr ⟨b,o,rfl,⟨World.block_lt_of_cell? _ _ (hq 0 (by omega)).1,fun i hi c u hu=>?_⟩⟩⟩
    rw[hL] at hi
    obtain⟨q0,_⟩:=hq i (by omega)
    simp only[List.getElem_map,List.getElem_range] at hu
    rw[Addr.add_lit] at q0
    match c,hu with
    | 0,hu=>simp[Yj] at hu;subst hu;simpa using q0
  ·obtain⟨i,hi,rfl⟩:=List.mem_map.1 he
   exact(hq i (by have:=List.mem_range.1 hi;omega)).2
structure N64In(w:World)(a:Option Addr)(len cap:Nat)(l:List Int):Prop where
 hl:l.length=len
 rd:Z3d w (.slice a len cap) l
 hc:len≤cap
 fit:∀e∈l,Z4 e
theorem open_n64{H:Type}{enc:TypeId × Value→H}{W:World}{base fuel:Nat}{held:Bool}{a:Option Addr}{len cap:Nat}{x:DataW H × List MemPlace}(h:DataW.trod enc prog W base (fun _=>true) held fuel 41 (Value.slice a len cap).cells.toList=some x) :
  ∃l,N64In W a len cap l:=by
 rcases Deep.open_slice underlying41 h with h0 | ⟨ad,len',cap',m,n,D,Pl,hcs,hb,hl,hm,hmm,_,hx⟩
 ·have h1:=h0.1
  simp[Value.cells] at h1
  obtain⟨rfl,rfl,rfl⟩:=h1
  exact⟨[],rfl,Rd.nil W,Nat.le_refl _,by simp⟩
 ·simp[Value.cells] at hcs
  obtain⟨rfl,rfl,rfl⟩:=hcs
  simp only[if_true] at hmm
  subst hmm
  have ci:prog.cellsOf 2=1:=by kernel_rfl
  have each:∀i,i<m→∃q:Int,W.cell? (ad.add i)=some (.int .i64 q)∧Z4 q:=by
   intro i hi
   obtain⟨cs',h1,h2⟩:=hx i hi
   rw[ci,Nat.mul_one] at h1
   obtain⟨_,hlen,Z6⟩:=World.cells?_some h1
   match cs',hlen with
   | [v0],_ =>
    obtain⟨n0,e0,_,u0⟩:=DataW.trod_int underlying2 h2
    simp only[List.cons.injEq,and_true] at e0
    subst e0
    have c0:=Z6 0 (by omega)
    rw[Deep.add_add] at c0
    exact⟨n0,by simpa using c0,Z3u u0⟩
  obtain⟨q,hq⟩:=Deep.choose_lt each
  have hL:((List.range len).map q).length=len:=by simp
  refine⟨(List.range len).map q,hL,?_,hl,fun e he=>?_⟩
  ·by_cases h0:len=0
   ·subst h0
    exact⟨some ad,m,rfl,.inl ⟨rfl,fun e=>by cases e⟩⟩
   ·obtain⟨b,o,spot⟩:=ad
    have hs:spot=none:=by simpa [Addr.add] using World.cell?_spot (hq 0 (by omega)).1
    subst hs
    refine⟨_,m,by rw[hL],.inr ⟨b,o,rfl,⟨World.block_lt_of_cell? _ _ (hq 0 (by omega)).1,fun i hi c u hu=>?_⟩⟩⟩
    rw[hL] at hi
    obtain⟨q0,_⟩:=hq i (by omega)
    simp only[List.getElem_map,List.getElem_range] at hu
    rw[Addr.add_lit] at q0
    match c,hu with
    | 0,hu=>simp[Yj] at hu;subst hu;simpa using q0
  ·obtain⟨i,hi,rfl⟩:=List.mem_map.1 he
   exact(hq i (by have:=List.mem_range.1 hi;omega)).2
end
structure Yh(l:List (Int × Int))(n:Nat):Prop where
 pos:0<n
 low:n≤12
 has:∀i:Nat,i<n→((i:Int),(((i+1)%n:Nat):Int))∈l
 only:∀x y,(x,y)∈l→(∃i:Nat,i<n∧x=i∧y=((i+1)%n:Nat))∨(x=100∧∃j:Nat,j<n∧y=j)
section
variable {l:List (Int × Int)} {n:Nat} (h:Yh l n)
include h
theorem Yh.next{i:Nat}(hi:i<n){y:Int}(e:((i:Int),y)∈l):y=((i+1)%n:Nat):=by
 rcases h.only _ _ e with⟨j,hj,e1,e2⟩ | ⟨e1,_⟩
 ·obtain rfl:i=j:=by omega
  exact e2
 ·have:=h.low
  omega
theorem Yh.way{m:Nat}:∀ {i:Nat} {b:Int},i<n→Way l i m b→b=((i+m)%n:Nat):=by
 induction m with
 | zero=>intro i b _ w;exact absurd (Yt w) (Nat.lt_irrefl 0)
 | succ m ih =>
  intro i b hi w
  cases w with
  | one e=>exact h.next hi e
  | @step _ x _ _ e w =>
   have hx:=h.next hi e
   rw[hx] at w
   rw[ih (Nat.mod_lt _ h.pos) w,Nat.mod_add_mod,Nat.add_right_comm,Nat.add_assoc]
theorem Yh.to0:∀(d:Nat) {i:Nat},i+d+1=n→Far l i 0 (d+1):=by
 intro d
 induction d with
 | zero =>
  intro i e
  have hm:=h.has i (by omega)
  rw[show(i+1)%n=0 by rw[show i+1=n by omega];exact Nat.mod_self n] at hm
  exact⟨.one hm,fun m w=>Yt w⟩
 | succ d ih =>
  intro i e
  have hm:=h.has i (by omega)
  rw[Nat.mod_eq_of_lt (show i+1<n by omega)] at hm
  have f:=ih (i:=i+1) (by omega)
  refine⟨.step hm f.1,fun m w=>?_⟩
  have k:=h.way (by omega) w
  have hp:=Yt w
  refine Nat.le_of_not_lt fun q=>?_
  rw[Nat.mod_eq_of_lt (show i+m<n by omega)] at k
  omega
def Yd(i d:Nat):List Int:=(List.range' i d).map Int.ofNat
omit h in
theorem Yx(i d:Nat):Yd i (d+1)=(i:Int)::Yd (i+1) d:=by
 unfold Yd
 rw[List.range'_succ]
 rfl
theorem Yh.greedy:∀(d:Nat) {i:Nat},i+d+1=n→Greedy l 0 i (d+1) (Yd (i+1) d):=by
 intro d
 induction d with
 | zero =>
  intro i e
  have hm:=h.has i (by omega)
  rw[show(i+1)%n=0 by rw[show i+1=n by omega];exact Nat.mod_self n] at hm
  exact .last hm
 | succ d ih =>
  intro i e
  have hm:=h.has i (by omega)
  rw[Nat.mod_eq_of_lt (show i+1<n by omega)] at hm
  rw[Yx]
  refine .step hm (h.to0 d (by omega)) (fun y hy _=>?_) (ih (by omega))
  have:=h.next (by omega) hy
  rw[Nat.mod_eq_of_lt (show i+1<n by omega)] at this
  omega
theorem Yh.cyc:Yk l (Yd 0 n) true:=by
 obtain⟨d,rfl⟩:∃d,n=d+1:=⟨n-1,by have:=h.pos;omega⟩
 have f:=h.to0 d (i:=0) (by omega)
 have g:=h.greedy d (i:=0) (by omega)
 have hl:(Yd 1 d).length=d:=by simp[Yd]
 rw[Yx]
 refine⟨⟨fun _=>⟨0,Z2k f.1⟩,fun _=>rfl⟩,(fun q=>nomatch q),fun _=>⟨0,Yd 1 d,rfl,Z2k f.1,fun v r=>?_,by rw[hl];exact f,by rw[hl];exact g⟩⟩
 obtain⟨y,hy⟩:=Yp r
 rcases h.only _ _ hy with⟨j,_,e,_⟩ | ⟨e,_⟩<;>omega
def Z2l(n v:Nat)(x:Int):Int:=if x=100 then -1 else if (v:Int)<x then x-v else x-v+n
theorem Yh.beh{v:Nat}(hv:v<n){x y:Int}(e:(x,y)∈Zz l v):Z2l n v x<Z2l n v y∧y≠100:=by
 obtain⟨e1,e2,e3⟩:=Un.1 e
 simp only at e2 e3
 have hl:=h.low
 rcases h.only _ _ e1 with⟨i,hi,rfl,rfl⟩ | ⟨rfl,j,hj,rfl⟩
 ·unfold Z2l
  rcases Nat.lt_or_ge (i+1) n with q | q
  ·rw[Nat.mod_eq_of_lt q] at e3 ⊢
   refine⟨?_,by omega⟩
   repeat' split
   all_goals omega
  ·rw[show i+1=n by omega,Nat.mod_self] at e3 ⊢
   refine⟨?_,by omega⟩
   repeat' split
   all_goals omega
 ·unfold Z2l
  refine⟨?_,by omega⟩
  repeat' split
  all_goals omega
theorem Yh.free{v:Nat}(hv:v<n):Yk (Zz l v) [] false:=Z05 (fun⟨x,r⟩=>by
 have key:∀ {x y:Int},Yf (Zz l v) x y→Z2l n v x<Z2l n v y:=fun {x y} r=>by
  induction r with
  | single e=>exact(h.beh hv e).1
  | tail _ e ih=>exact Int.lt_trans ih (h.beh hv e).1
 exact absurd (key r) (Int.lt_irrefl _))
theorem Yh.vic{ages:List (Int × Int)}{v:Nat}(hv:v<n)(m:Z0o ages (Yd 0 n) v):Vic ages l [(v:Int)]:=by
 have hc:=h.cyc
 obtain⟨d,hd⟩:∃d,n=d+1:=⟨n-1,by have:=h.pos;omega⟩
 rw[hd,Yx] at hc m
 have e:Zq ages (0:Nat) (Yd (0+1) d)=v:=Z2y (Yn ages _ _) m
 have:=Vic.step (ages:=ages) hc (vs:=[]) (by rw[e];exact .done (h.free hv))
 rwa [e] at this
end
abbrev vxE:List (Int × Int):=[(1,2),(2,1)]
abbrev vxA:List (Int × Int):=[(1,5),(2,3)]
theorem Z5d:Yk vxE [1,2] true:=by
 have m12:((1:Int),(2:Int))∈vxE:=by simp
 have m21:((2:Int),(1:Int))∈vxE:=by simp
 have r11:Yf vxE 1 1:=.tail (.single m12) m21
 have f21:Far vxE 2 1 1:=⟨.one m21,fun m w=>Yt w⟩
 refine⟨⟨fun _=>⟨1,r11⟩,fun _=>rfl⟩,(fun h=>nomatch h),fun _=>⟨1,[2],rfl,r11,fun v r=>?_,⟨.step m12 (.one m21),fun m w=>?_⟩,.step m12 f21 (fun y hy _=>?_) (.last m21)⟩⟩
 ·obtain⟨y,hy⟩:=Yp r
  simp at hy
  omega
 ·have:=Yt w
  cases w with
  | one k=>simp at k
  | step _ k=>have:=Yt k;simp only[List.length_cons,List.length_nil];omega
 ·simp at hy
  show(2:Int)≤y
  omega
theorem Z4h:Yk [] [] false:=Z05 (fun⟨x,r⟩=>by
 obtain⟨y,hy⟩:=Yp r
 cases hy)
theorem Z66:Vic vxA vxE [1]:=by
 have e:Zq vxA 1 [2]=1:=by kernel_rfl
 have d:Zz vxE 1=[]:=by kernel_rfl
 have:=Vic.step (ages:=vxA) Z5d (vs:=[]) (by rw[e,d];exact .done Z4h)
 rwa [e] at this
theorem Z5e:∀e∈vxE,Z4 e.1∧Z4 e.2:=by
 intro e he
 unfold Z4
 simp at he
 rcases he with rfl | rfl<;>simp
theorem Z5c:∀e∈vxA,Z4 e.1:=by
 intro e he
 unfold Z4
 simp at he
 rcases he with rfl | rfl<;>simp
theorem Z5m(w:World)(x:Int):IS (w.alloc (.cells #[.int .i64 x] 3)) (.slice (some ⟨w.heap.size,0,none⟩) 1 1) [x]:=by
 have h:=World.ownsRow_lit (base:=0) (size:=1) (e:=3) w #[.int .i64 x] 1 (Nat.zero_le _) (by unfold maxLen;omega) (by simp)
 unfold IS
 simpa using h
theorem Z3c(w:World):Calls prog 6 #[] w fun e w'=>e=.returned (.bool true)∧Nw w w':=by
 have hal:=Z9 w (.cells #[.int .i64 1,.int .i64 2,.int .i64 2,.int .i64 1] 29)
 have g1:Nw w (w.alloc (.cells #[.int .i64 1,.int .i64 2,.int .i64 2,.int .i64 1] 29)):=(Nw.refl w).alloc _
 obtain⟨w1,hw1⟩:∃x,w.alloc (.cells #[.int .i64 1,.int .i64 2,.int .i64 2,.int .i64 1] 29)=x:=⟨_,rfl⟩
 rw[hw1] at hal g1
 have hal2:=Z9 w1 (.cells #[.int .i64 1,.int .i64 5,.int .i64 2,.int .i64 3] 43)
 have g2:Nw w1 (w1.alloc (.cells #[.int .i64 1,.int .i64 5,.int .i64 2,.int .i64 3] 43)):=(Nw.refl w1).alloc _
 obtain⟨w2,hw2⟩:∃x,w1.alloc (.cells #[.int .i64 1,.int .i64 5,.int .i64 2,.int .i64 3] 43)=x:=⟨_,rfl⟩
 rw[hw2] at hal2 g2
 obtain⟨B1,hB1⟩:∃x,w.heap.size=x:=⟨_,rfl⟩
 obtain⟨B2,hB2⟩:∃x,w1.heap.size=x:=⟨_,rfl⟩
 have hs:w.heap.size+1=B2:=by rw[←hB2,←hw1];simp
 rw[hB1] at hal
 rw[hB2] at hal2
 have hE:Zt w2 (.slice (some ⟨B1,0,none⟩) 2 2) vxE:=Rd.nw (Z1d (row:=Zh) (sz:=2) (fun _=>rfl) (l:=vxE) hal 2) g2
 have hA:Zt w2 (.slice (some ⟨B2,0,none⟩) 2 2) vxA:=Z1d (row:=Zh) (sz:=2) (fun _=>rfl) (l:=vxA) hal2 2
 have HC:=hD0 (Vj hE (by decide) Z5e hA (by decide) Z5c)
 have HG:=hD0 (g1.trans g2)
 have HW1:=hD0 (aI0 hw1 (aI0 hw2 (aI0 hB1 (hB1▸hs))))
 clear hw1 hw2 hal hal2 g1 g2 hE hA hB1 hB2 hs
 go_enter func6,ntmps6
 go_wp2_with fail
 rw[HW1.out.1,HW1.out.2.1,HW1.out.2.2.1,HW1.out.2.2.2]
 refine HC.out.mono ?_
 rintro e w3 ⟨v3,vs,rfl,hIo,hV,g3⟩
 have hI:=Y5.is hIo
 clear hIo
 obtain rfl:=Uc hV Z66
 have g4:Nw w3 (w3.alloc (.cells #[.int .i64 1] 3)):=(Nw.refl w3).alloc _
 have HS:=hD0 (U8 _ v3 (.slice (some ⟨w3.heap.size,0,none⟩) 1 1) [1] (hI.nw g4) (Z5m w3 1))
 have HG2:=hD0 ((HG.out.trans g3).trans g4)
 clear hI hV g3 g4 HC HW1
 go_wp2_with fail
 refine HS.out.mono ?_
 rintro e w5 ⟨rfl,g5⟩
 have HZ:=hD0 (HG2.out.trans g5)
 clear g5
 go_wp2
 go_ret
 exact⟨rfl,HZ.out⟩
end Go.Proofs.Ytbnpnccpobkodaa
