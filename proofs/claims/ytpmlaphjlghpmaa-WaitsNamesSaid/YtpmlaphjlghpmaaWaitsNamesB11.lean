/- Texts merged: WcQ, WdA, WeM, WeA, WeN -/
import Derived.Test.YtpmlaphjlghpmaaWaitsNamesB10
import Derived.ChangeOld
import Derived.Below
import Derived.Deep.Slices
set_option linter.unusedVariables false
set_option maxRecDepth 100000
set_option maxHeartbeats 16000000
namespace Go.Proofs.Ytpmlaphjlghpmaa
open Go.RowKit _root_.Go.Proofs.Try
def Z0s(w:World)(f:Value)(p:(Int × Int)→Bool):Prop:=∃(g:Nat) (lb:Array Value),f=.func (.func g) #[] lb∧(∀args w,(callFunc g args).run prog w=.ok (.enter g args) w)∧∀(R:Int × Int) (w1:World),Nw w w1→Calls prog g (#[egV R]++lb) w1 fun e w'=>e=.returned (.bool (p R))∧Nw w1 w'
def Z2j:Value→Prop
 | .slice _ n c=>n≤c
 | _=>True
theorem Z9.capE{w:World}{g0:Nat}{v:Value}{q:List (Int × Int)}(h:Z9 w g0 v q):Z2j v:=by
 rcases h.2 with⟨rfl,_⟩ | ⟨g',cap',cur,rfl,_,_,q4,_⟩
 ·exact Nat.le_refl _
 ·exact q4
theorem Z9.atE{w:World}{g0:Nat}{v:Value}{q:List (Int × Int)}(h:Z9 w g0 v q){k:Nat}(hk:k<q.length):∃g cap,v=.slice (some ⟨g,0,none⟩) q.length cap∧g0≤g∧g<w.heap.size∧True:=by
 rcases Yt h with⟨_,e⟩ | ⟨g,cap,rfl⟩
 ·omega
 ·exact⟨g,cap,rfl,oge h rfl,olt h rfl,trivial⟩
theorem Z1o{w:World}{g0 g cap n:Nat}{q:List (Int × Int)}(h:Z9 w g0 (.slice (some ⟨g,0,none⟩) n cap) q)(hn:n=q.length)(k:Nat)(hk:k<q.length)(j:Nat)(hj:j<2)(u:Value)(new:Int × Int)(e:(Zi q[k]).set j u=Zi new) :
  Z9 (w.setCell ⟨g,k*2+j,none⟩ u) g0 (.slice (some ⟨g,0,none⟩) n cap) (q.set k new):=by
 subst hn
 have h1:=(World.ownsRow.stored h (k*2+j) u).1
 unfold Z9 Yq
 rw[List.length_set,←Ur (row:=Zi) (sz:=2) (fun _=>rfl) q k hk j hj u new e]
 exact h1
theorem Vr{w:World}{g0 g cap n:Nat}{q:List (Int × Int)}(h:Z9 w g0 (.slice (some ⟨g,0,none⟩) n cap) q)(hn:n=q.length)(k:Nat)(hk:k<q.length)(j:Nat)(u:Value)(hu:(Zi q[k])[j]?=some u):w.cell? ⟨g,k*2+j,none⟩=some u:=by
 subst hn
 have hj:j<2:=by have:=(List.getElem?_eq_some_iff.1 hu).1;simpa [Zi] using this
 refine(World.ownsRow.cellAt h (k*2+j) (by omega)).trans ?_
 rw[Y3 (sz:=2) (fun _=>rfl) q k j hk hj];exact hu
theorem Z1n{w:World}{g0 g cap n:Nat}{q:List (Int × Int)}(h:Z9 w g0 (.slice (some ⟨g,0,none⟩) n cap) q)(hn:n=q.length)(j:Nat):w.frozen? ⟨g,j,none⟩=false:=by
 subst hn
 exact World.ownsRow.frozenAt h j
def Z09(p:(Int × Int)→Bool):List (Int × Int)→Int
 | []=>-1
 | a::r=>if p a=true then 0 else if Z09 p r = -1 then -1 else Z09 p r+1
theorem V0(p:(Int × Int)→Bool):∀q:List (Int × Int),(Z09 p q = -1∧∀a∈q,p a=false)∨∃k:Nat,Z09 p q=k∧∃h:k<q.length,p q[k]=true∧∀i (hi:i<q.length),i<k→p q[i]=false
 | []=>.inl ⟨rfl,by simp⟩
 | a::r=>by
  unfold Z09
  cases e:p a with
  | true=>exact .inr ⟨0,rfl,by simp,e,fun i _ h=>by omega⟩
  | false =>
   rcases V0 p r with⟨h1,h2⟩ | ⟨k,h1,h2,h3,h4⟩
   ·rw[h1]
    refine .inl ⟨rfl,fun x hx=>?_⟩
    rcases List.mem_cons.1 hx with rfl | hx
    ·exact e
    ·exact h2 x hx
   ·rw[h1]
    refine .inr ⟨k+1,?_,by simpa using h2,h3,fun i hi hik=>?_⟩
    ·simp only[Bool.false_eq_true,if_false]
     rw[if_neg (by omega)];rfl
    ·cases i with
     | zero=>exact e
     | succ i=>exact h4 i (by simpa using hi) (by omega)
theorem Z57{p:(Int × Int)→Bool}{q:List (Int × Int)}{k:Nat}(hk:k<q.length)(h:p q[k]=true)(hb:∀i (hi:i<q.length),i<k→p q[i]=false):Z09 p q=k:=by
 rcases V0 p q with⟨_,h2⟩ | ⟨j,h1,h2,h3,h4⟩
 ·rw[h2 _ (gM0 hk)] at h;cases h
 ·rw[h1]
  rcases Nat.lt_trichotomy j k with g | g | g
  ·rw[hb j h2 g] at h3;cases h3
  ·rw[g]
  ·rw[h4 k hk g] at h;cases h
theorem Z3y{p:(Int × Int)→Bool}{q:List (Int × Int)}(h:∀i (hi:i<q.length),p q[i]=false):Z09 p q = -1:=by
 rcases V0 p q with⟨h1,_⟩ | ⟨j,h1,h2,h3,_⟩
 ·exact h1
 ·rw[h j h2] at h3;cases h3
theorem Z6p(v f:Value)(p:(Int × Int)→Bool)(q:List (Int × Int))(w:World)(hl:q.length≤1000)(h:Y4 w v q)(hf:Z0s w f p) :
  Calls prog 52 #[v,f] w fun e w'=>e=.returned (.int .i64 (Z09 p q))∧Nw w w':=by
 obtain⟨g,lb,rfl,eg,hT⟩:=hf
 have HT:=hD0 hT
 clear hT
 obtain⟨a,c,rfl,⟨rfl,_⟩ | ⟨b,o,rfl,hc⟩⟩:=h
 ·go_enter func52,ntmps52
  go_wp2
  refine wp_loop_rounds 1 ?_
  repeat (rw[rounds_succ];go_wp2)
  go_ret
  exact⟨rfl,Nw.refl _⟩
 ·have H:=hD0 hc
  clear hc
  obtain⟨V,hV⟩:∃V,Z09 p q=V:=⟨_,rfl⟩
  rw[hV]
  have HV:=hD0 hV
  clear hV
  go_enter func52,ntmps52
  go_wp2
  go_loopw [8] (fun i wr=>∃k:Nat,k≤q.length∧i=.int .i64 k∧(∀i (hi:i<q.length),i<k→p q[i]=false)∧Nw w wr) (fun i _=>q.length-(intOf i).toNat)
  case atStart=>exact⟨0,Nat.zero_le _,rfl,fun _ _ h=>by omega,Nw.refl _⟩
  case round =>
   obtain⟨k,hk,rfl,hF,hN⟩:=hrel
   by_cases hlt:k<q.length
   ·have hce:=(H.out.nw hN).cell k hlt
    obtain⟨R,hR⟩:∃R,q[k]=R:=⟨_,rfl⟩
    rw[hR] at hce
    have HC:=hD0 (HT.out R)
    have HS:=hD0 hR
    have HF:=hD0 hF
    have HN:=hD0 hN
    clear hR hF hN
    obtain⟨B,hB⟩:∃B,p R=B:=⟨_,rfl⟩
    rw[hB] at HC
    have HB:=hD0 hB
    clear hB
    obtain⟨b0,b1⟩:=R
    have e0:=hce 0 _ rfl
    have e1:=hce 1 _ rfl
    simp only[Nat.add_zero] at e0
    clear hce
    cases B
    case true =>
     go_wp2_with (go_at_fn g;refine(HC.out _ HN.out).mono ?_;rintro e w1 ⟨rfl,g1⟩)
     go_ret
     exact⟨by rw[←HV.out,Z57 hlt (by rw[HS.out];exact HB.out) HF.out];rfl,HN.out.trans g1⟩
    case false =>
     go_wp2_with (go_at_fn g;refine(HC.out _ HN.out).mono ?_;rintro e w1 ⟨rfl,g1⟩)
     go_roundw
     case rel =>
      refine⟨k+1,by omega,by go_num,fun i hi hik=>?_,HN.out.trans g1⟩
      by_cases q:i<k
      ·exact HF.out i hi q
      ·have:i=k:=by omega
       subst this
       rw[HS.out];exact HB.out
     case measure=>simp[intOf];omega
   ·have HF:=hD0 hF
    have HN:=hD0 hN
    clear hF hN
    go_wp2
    go_ret
    exact⟨by rw[←HV.out,Z3y fun i hi=>HF.out i hi (by omega)];rfl,HN.out⟩
abbrev ezQ:Value:=.agg #[.int .i64 0,.int .i64 0]
theorem Z2n(w:World)(g o n c:Nat)(hn:0<n)(hc:∀j,j<n*2→(w.cell? ⟨g,o+j,none⟩).isSome=true)(hf:∀j,w.frozen? ⟨g,j,none⟩=false) :
  ∃vs,∀ty,(Builtin.clear_ #[33] ty #[.slice (some ⟨g,o,none⟩) n c]).run prog w=.ok (.tuple #[]) (w.setCells g o vs):=by
 obtain⟨m,rfl⟩:∃m,n=m+1:=⟨n-1,by omega⟩
 refine⟨(Builtin.zeroCells ezQ.cells (m+1)).toList,fun ty=>?_⟩
 have hlen:(Builtin.zeroCells ezQ.cells (m+1)).toList.length=(m+1)*2:=by simp[Builtin.zeroCells,Value.cells]
 have hst:=run_storeCells_cells (P:=prog) g o (Builtin.zeroCells ezQ.cells (m+1)).toList 0 w (by rw[hlen];simpa using hc) (by intro j _;exact hf _) (by
  intro v hv
  obtain⟨i,hi,rfl⟩:=List.getElem_of_mem hv
  simp only[Builtin.zeroCells,Array.toList_map,List.getElem_map]
  have h5:∀i:Nat,i<2→(ezQ.cells[i]!).oneCell'=true:=by decide
  exact h5 _ (Nat.mod_lt _ (by decide)))
 simp only[Nat.add_zero] at hst
 simp[Builtin.clear_,run_underlying underlying33,hst]
theorem Nw.rlsE{a b:World}(h:Nw a b):(∀k o,k<a.heap.size→b.cell? ⟨k,o,none⟩=a.cell? ⟨k,o,none⟩)∧(∀k o,k<a.heap.size→b.frozen? ⟨k,o,none⟩=a.frozen? ⟨k,o,none⟩):=⟨fun _ _ h1=>h.cell h1,fun _ _ h1=>h.froz h1⟩
theorem Z40{w:World}{g0 g n cap:Nat}{l:List (Int × Int)}(h:Z9 w g0 (.slice (some ⟨g,0,none⟩) n cap) l)(hn:n=l.length)(j:Nat)(hj:j<l.length*2):(w.cell? ⟨g,j,none⟩).isSome=true:=by
 subst hn
 have e:w.cell? ⟨g,j,none⟩=(Z6 Zi l)[j]?:=World.ownsRow.cellAt h j hj
 rw[e,List.getElem?_eq_getElem (by rw[Y9 (sz:=2) (fun _=>rfl)];exact hj)];rfl
theorem Uj(g:Nat):∀(vs:List Value) (o:Nat) (w:World),Zc (fun k=>k=g) w (w.setCells g o vs)
 | [],_,w=>Zc.refl _ w
 | v::r,o,w=>by
  rw[World.setCells]
  exact(Zm w ⟨g,o,none⟩ v).trans (Uj g r (o+1) _)
def Z3b(w:World)(g a:Nat)(s:Int × Int):World:=(w.setCell ⟨g,a*2,none⟩ (.int .i64 s.1)).setCell ⟨g,a*2+1,none⟩ (.int .i64 s.2)
theorem Z3x{w:World}{g0 g n cap a:Nat}{R:List (Int × Int)}(h:Z9 w g0 (.slice (some ⟨g,0,none⟩) n cap) R)(hn:n=R.length)(ha:a<R.length)(s:Int × Int):Z9 (Z3b w g a s) g0 (.slice (some ⟨g,0,none⟩) n cap) (R.set a s):=by
 have l1:∀x:Int × Int,n=(R.set a x).length:=fun x=>by rw[List.length_set];exact hn
 have k1:∀x:Int × Int,a<(R.set a x).length:=fun x=>by rw[List.length_set];exact ha
 have h0:=Z1o h hn a ha 0 (by decide) (.int .i64 s.1) (s.1,R[a].2) rfl
 have h1:=Z1o h0 (l1 _) a (k1 _) 1 (by decide) (.int .i64 s.2) s (by rw[List.getElem_set_self];rfl)
 rw[List.set_set] at h1
 exact h1
theorem Z3z(w:World)(g a:Nat)(s:Int × Int):Zc (fun k=>k=g) w (Z3b w g a s):=by
 unfold Z3b
 exact((Zc.refl (fun k=>k=g) w).set (p:=⟨g,a*2,none⟩) (.inl rfl) _).set (p:=⟨g,a*2+1,none⟩) (.inl rfl) _
abbrev Y1(p:(Int × Int)→Bool)(l:List (Int × Int)):List (Int × Int):=l.filter fun s=>!p s
structure Z1c(p:(Int × Int)→Bool)(w wr:World)(g0 g n cap a b:Nat)(l R:List (Int × Int)):Prop where
 ab:a<b
 bn:b≤l.length
 len:R.length=l.length
 front:R.take a=Y1 p (l.take b)
 rest:R.drop b=l.drop b
 row:Z9 wr g0 (.slice (some ⟨g,0,none⟩) n cap) R
 tch:Zc (fun k=>k=g) w wr
theorem Z0z{α:Type}{l:List α}{b:Nat}(h:b<l.length):l.take (b+1)=l.take b++[l[b]]:=by
 rw[List.take_add_one,List.getElem?_eq_getElem h];rfl
theorem Z1m{p:(Int × Int)→Bool}{L:List (Int × Int)}{s:Int × Int}(h:p s=true):Y1 p (L++[s])=Y1 p L:=by
 simp only[Y1,List.filter_append,List.filter_cons,h,Bool.not_true,Bool.false_eq_true,if_false,List.filter_nil,List.append_nil]
theorem Z6r{p:(Int × Int)→Bool}{L:List (Int × Int)}{s:Int × Int}(h:p s=false):Y1 p (L++[s])=Y1 p L++[s]:=by
 simp only[Y1,List.filter_append,List.filter_cons,h,Bool.not_false,if_true,List.filter_nil]
theorem Z3w{α:Type}{R l:List α}{b:Nat}(h:R.drop b=l.drop b)(hb:b<l.length)(hR:R.length=l.length):∃hr:b<R.length,R[b]=l[b]:=by
 refine⟨by omega,?_⟩
 have:=congrArg (fun x=>x[0]?) h
 simp only[List.getElem?_drop,Nat.add_zero] at this
 rw[List.getElem?_eq_getElem hb,List.getElem?_eq_getElem (by omega)] at this
 exact Option.some.inj this
theorem Z0g{α:Type}{R l:List α}{b:Nat}(h:R.drop b=l.drop b):R.drop (b+1)=l.drop (b+1):=by
 rw[←List.drop_drop,←List.drop_drop,h]
section
variable {p:(Int × Int)→Bool} {w wr wr':World} {g0 g n cap a b:Nat} {l R:List (Int × Int)}
theorem Z1c.skip(h:Z1c p w wr g0 g n cap a b l R)(hb:b<l.length)(he:p l[b]=true)(g':Nw wr wr'):Z1c p w wr' g0 g n cap a (b+1) l R :=
 ⟨by have:=h.ab;omega,hb,h.len,by rw[h.front,Z0z hb,Z1m he],Z0g h.rest,Uf h.row g',h.tch.trans (Zc.nw g')⟩
theorem Z1c.move(h:Z1c p w wr g0 g n cap a b l R)(hn:n=l.length)(hb:b<l.length)(he:p l[b]=false)(g':Nw wr wr'):Z1c p w (Z3b wr' g a l[b]) g0 g n cap (a+1) (b+1) l (R.set a l[b]):=by
 have hab:=h.ab
 have hR:=h.len
 have ha:a<R.length:=by omega
 refine⟨by omega,hb,by simp[hR],?_,?_,?_,?_⟩
 ·rw[Z0z (by simpa using ha),Z0z hb]
  have e1:(R.set a l[b]).take a=R.take a:=List.take_set_of_le (Nat.le_refl a)
  rw[e1,h.front,Z6r he]
  simp
 ·rw[List.drop_set_of_lt (by omega)];exact Z0g h.rest
 ·exact Z3x (Uf h.row g') (by omega) ha _
 ·exact(h.tch.trans (Zc.nw g')).trans (Z3z _ _ _ _)
end
theorem Z0a{p:(Int × Int)→Bool}{l:List (Int × Int)}{j:Nat}(hj:j<l.length)(he:p l[j]=true)(hF:∀i (hi:i<l.length),i<j→p l[i]=false):l.take j=Y1 p (l.take (j+1)):=by
 rw[Z0z hj,Z1m he]
 symm
 rw[Y1,List.filter_eq_self]
 intro s hs
 obtain⟨i,hi,rfl⟩:=List.getElem_of_mem hs
 simp at hi
 simp[hF i (by omega) (by omega)]
theorem Z1l{p:(Int × Int)→Bool}{l:List (Int × Int)}(h:∀s∈l,p s=false):Y1 p l=l:=by
 rw[Y1,List.filter_eq_self]
 intro s hs
 simp[h s hs]
theorem Z51(p:(Int × Int)→Bool)(f:Value)(g0:Nat)(v:Value)(l:List (Int × Int))(w:World)(hl:l.length≤1000)(h:Z9 w g0 v l)(hf:Z0s w f p)(hfr:∀w1,Zc (fun k=>v.ownBlock=some k) w w1→Z0s w1 f p) :
  Calls prog 29 #[v,f] w fun e w'=>∃v',e=.returned v'∧Y4 w' v' (Y1 p l)∧Z2j v'∧(∀b o n c,v'=.slice (some ⟨b,o,none⟩) n c→v.ownBlock=some b∨(Y1 p l)=[])∧Zc (fun k=>v.ownBlock=some k) w w':=by
 have HI0:=Z6p v f p l w hl (Z9.at_ h) hf
 have hf':=hf
 obtain⟨gf,lb,rfl,eg,_⟩:=hf'
 obtain⟨hfo,-⟩:True∧True:=⟨trivial,trivial⟩
 obtain⟨px,hpx⟩:∃px,Z09 p l=px:=⟨_,rfl⟩
 rw[hpx] at HI0
 have HI:=hD0 HI0
 clear HI0
 rcases V0 p l with⟨h1,h2⟩ | ⟨j,h1,hj,he,hF⟩
 ·obtain rfl:=hpx.symm.trans h1
  obtain⟨a,c,rfl⟩:=(Z9.at_ h).form
  have HR:=hD0 h
  clear h hfr hf
  go_enter func29,ntmps29
  go_wp2_with (go_at_call 52;refine HI.out.mono ?_;rintro e w1 ⟨rfl,g1⟩)
  go_ret
  exact⟨_,rfl,by rw[Z1l h2];exact Z9.at_ (Uf HR.out g1),Z9.capE HR.out,fun b o n k e=>by
   rcases Yt HR.out with⟨e2,z⟩ | ⟨g,cap,e2⟩
   ·exact .inr (by rw[Z1l h2];exact List.length_eq_zero_iff.1 z)
   ·have e3:=e2.symm.trans e
    simp only[Value.slice.injEq,Option.some.injEq,Addr.mk.injEq] at e3
    refine .inl ?_
    rw[e2,←e3.1.1];rfl,Zc.nw g1⟩
 obtain rfl:=hpx.symm.trans h1
 obtain⟨g,cap,rfl,hg0,hgl,_⟩:=Z9.atE h hj
 have hcap:=Z9.capE h
 have hcap:l.length≤cap:=hcap
 have d0:((j:Int)==-1)=false:=by simp
 have HX:=hD0 (aI0 he hF)
 have HFr:=hD0 hfr
 have H:=hD0 h
 clear he hF hfr hf h
 go_enter func29,ntmps29
 go_wp2_with (go_at_call 52;refine HI.out.mono ?_;rintro e w1 ⟨rfl,g1⟩)
 have HD:Hid (Z1c p w w1 g0 g l.length cap j (j+1) l l):=hD0 ⟨by omega,hj,rfl,Z0a hj HX.out.1 HX.out.2,rfl,Uf H.out g1,Zc.nw g1⟩
 clear HX H HI g1
 case _ =>
  go_loopw [5,6] (fun i k wr=>∃(a b:Nat) (R:List (Int × Int)),i=.int .i64 a∧k=.int .i64 b∧Z1c p w wr g0 g l.length cap a b l R) (fun _ k _=>l.length-(intOf k).toNat)
  case atStart=>exact⟨j,j+1,l,rfl,by go_num,HD.out⟩
  case round =>
   obtain⟨a,b,R,rfl,rfl,hD⟩:=hrel
   have hab:=hD.ab
   have hbn:=hD.bn
   by_cases hlt:b<l.length
   ·obtain⟨hrb,hRb⟩:=Z3w hD.rest hlt hD.len
    obtain⟨s,hs⟩:∃s,l[b]=s:=⟨_,rfl⟩
    rw[hs] at hRb
    have Z2:∀c u,(Zi s)[c]?=some u→wr.cell? ⟨g,b*2+c,none⟩=some u:=fun c u hu=>Vr hD.row hD.len.symm b hrb c u (by rw[hRb];exact hu)
    have c0:=Z2 0 _ rfl
    have c1:=Z2 1 _ rfl
    simp only[Nat.add_zero] at c0
    have hgl:=olt hD.row rfl
    have hT:=HFr.out wr (hD.tch.mono fun i _ e=>by rw[e];rfl)
    obtain⟨gf',lb',eqf,_,hTT⟩:=hT
    simp only[Value.func.injEq,Fn.func.injEq,true_and] at eqf
    obtain⟨rfl,rfl⟩:=eqf
    have HE:=hD0 (hTT s)
    obtain⟨B,hB⟩:∃B,p s=B:=⟨_,rfl⟩
    rw[hB] at HE
    have HB:=hD0 (show p l[b]=B by rw[hs];exact hB)
    have HS:=hD0 hs
    have HR:=hD0 hD
    clear hB Z2 hs hRb hTT
    have g6:Nw wr (wr.alloc (.cells #[.int .i64 s.1,.int .i64 s.2] 40)):=(Nw.refl wr).alloc _
    have hq6:=hD0 (aI0 (Z2 (j:=0) (Z5 wr (.cells #[.int .i64 s.1,.int .i64 s.2] 40))) (Z2 (j:=1) (Z5 wr (.cells #[.int .i64 s.1,.int .i64 s.2] 40))))
    cases B
    case true =>
     clear hD
     go_wp2_with (go_at_fn gf;refine(HE.out _ g6).mono ?_;rintro e w1 ⟨rfl,g1⟩)
     go_roundw
     case rel=>exact⟨a,b+1,R,rfl,by go_num,HR.out.skip hlt HB.out (g6.trans g1)⟩
     case measure=>simp[intOf];omega
    case false =>
     have har:a<R.length:=by have:=hD.len;omega
     have k0:∀c,c<2→∃u,wr.cell? ⟨g,a*2+c,none⟩=some u:=fun c hc=>by
      have:c<(Zi R[a]).length:=hc
      exact⟨_,Vr hD.row hD.len.symm a har c _ (List.getElem?_eq_getElem this)⟩
     obtain⟨y0,a0⟩:=k0 0 (by omega)
     obtain⟨y1,a1⟩:=k0 1 (by omega)
     simp only[Nat.add_zero] at a0
     have fz:=fun c=>Z1n hD.row hD.len.symm c
     have z0:=fz (a*2)
     have z1:=fz (a*2+1)
     have hRl:=hD.len
     have hai:(a:Int)<(l.length:Int):=by omega
     clear k0 fz hD
     go_wp2_with (go_at_fn gf;refine(HE.out _ g6).mono ?_;rintro e w1 ⟨rfl,g1⟩;obtain⟨hc1,hf1⟩:=g1.rlsE)
     go_roundw
     case rel=>exact⟨a+1,b+1,_,by go_num,by go_num,by have:=HR.out.move rfl hlt HB.out (g6.trans g1);rw[HS.out] at this;exact this⟩
     case measure=>simp[intOf];omega
   ·have hbe:b=l.length:=by omega
    subst hbe
    have HR:=hD0 hD
    have hlen:=hD.len
    have hcc:∀q,q<(l.length-a)*2→(wr.cell? ⟨g,a*2+q,none⟩).isSome=true:=fun q hq=>Z40 hD.row hlen.symm (a*2+q) (by omega)
    obtain⟨vs,hvs⟩:=Z2n wr g (a*2) (l.length-a) (cap-a) (by omega) hcc (fun q=>Z1n hD.row hlen.symm q)
    have e1:((l.length:Int)-(a:Int)).toNat=l.length-a:=by omega
    have hne:¬cap=a:=by omega
    clear hD hcc
    go_wp2
    go_ret
    have hfr:=HR.out.front
    rw[List.take_length] at hfr
    have hpl:(Y1 p l).length=a:=by rw[←hfr,List.length_take];omega
    have hT:=Uj g vs (a*2) wr
    refine⟨_,rfl,⟨_,cap,by rw[hpl];rfl,.inr ⟨g,0,rfl,lL0 (olt HR.out.row rfl) hT.size,fun i hi c u hu=>?_⟩⟩,by show a≤cap;omega,fun b o n c e=>by
     injection e with e _ _
     injection e with e
     injection e with e _ _
     rw[←e];exact .inl rfl,(HR.out.tch.trans hT).mono fun i _ e=>by rw[e];rfl⟩
    have hc:c<2:=by have:=(List.getElem?_eq_some_iff.1 hu).1;simpa [Zi] using this
    rw[Nat.zero_add,World.cell?_setCells_out g vs _ wr _ (fun _ _=>.inl (show i*2+c<a*2 by omega))]
    have hiR:i<R.length:=by omega
    refine Vr HR.out.row hlen.symm i hiR c u ?_
    have hx:(Y1 p l)[i]=R[i]:=by
     have:∀(M:List (Int × Int)) (e:R.take a=M) (h:i<M.length),M[i]=R[i]:=fun M e h=>by subst e;simp
     exact this _ hfr hi
    rw[←hx];exact hu
theorem Z19(e:Int × Int){w:World}{B:Nat}{t:Int}(h:w.cell? ⟨B,0,none⟩=some (.int .i64 t)):Calls prog 31 #[egV e,.pointer (some ⟨B,0,none⟩)] w fun e' w'=>e'=.returned (.bool (decide (e.1=t) || decide (e.2=t)))∧Nw w w':=by
 obtain⟨a,b⟩:=e
 have g1:Nw w (w.alloc (.cells #[.int .i64 a,.int .i64 b] 40)):=(Nw.refl w).alloc _
 have hc:=g1.kp h
 have hal:=Z5 w (.cells #[.int .i64 a,.int .i64 b] 40)
 by_cases q:a=t
 ·have h1:(a==t)=true:=by simpa using q
  have e1:(decide (a=t) || decide (b=t))=true:=by simp[q]
  rw[e1]
  clear e1 q
  go_enter func31,ntmps31
  go_wp2
  go_ret
  exact⟨rfl,g1⟩
 ·have h1:(a==t)=false:=by simpa using q
  have e1:(decide (a=t) || decide (b=t))=(b==t):=by
   rw[decide_eq_false q,Bool.false_or]
   rfl
  rw[e1]
  clear e1
  go_enter func31,ntmps31
  go_wp2
  go_ret
  exact⟨rfl,g1⟩
theorem Z2f{w:World}{B:Nat}{t:Int}(h:w.cell? ⟨B,0,none⟩=some (.int .i64 t)):Z0s w (.func (.func 31) #[] #[.pointer (some ⟨B,0,none⟩)]) (fun e=>decide (e.1=t) || decide (e.2=t)):=by
 refine⟨31,_,rfl,enters_of func31 (by kernel_rfl) rfl,fun x w1 g=>?_⟩
 simp only[List.append_toArray,List.cons_append,List.nil_append]
 exact Z19 x (g.kp h)
theorem Z5k(l:List (Int × Int))(t:Int):Y1 (fun e=>decide (e.1=t) || decide (e.2=t)) l=Z38 l t:=by
 unfold Y1 Z38
 congr 1
 funext e
 simp
theorem Z2h{w:World}{v:Value}{l:List (Int × Int)}(h:Y4 w v l)(hl:l.length≤1000)(t:Int) :
  Calls prog 13 #[v,.int .i64 t] w fun e w'=>∃v',e=.returned v'∧Y4 w' v' (Z38 l t)∧Z2j v'∧Nw w w':=by
 have g1:Nw w (w.alloc (.cells #[.int .i64 t] 3)):=(Nw.refl w).alloc _
 have hal:=Z5 w (.cells #[.int .i64 t] 3)
 obtain⟨w1,hw1⟩:∃x,w.alloc (.cells #[.int .i64 t] 3)=x:=⟨_,rfl⟩
 rw[hw1] at g1 hal
 have HW1:=hD0 hw1
 obtain⟨B,hB⟩:∃B,w.heap.size=B:=⟨_,rfl⟩
 have HB:=hD0 hB
 rw[hB] at hal
 have HAL:=hD0 (aI0 hal g1)
 have HC:=hD0 (Z4z v l w1 (Nat.le_trans hl (by decide)) (h.nw g1))
 obtain⟨a,c,rfl⟩:=h.form
 clear h hw1 hB g1 hal
 go_enter func13,ntmps13
 go_upto_region 1 with fail
 rw[HW1.out,HB.out]
 go_wp2_with fail
 refine HC.out.mono ?_
 rintro e w2 ⟨v2,rfl,g2,hO⟩
 have hc2:=g2.kp (Z2 (j:=0) HAL.out.1)
 have hB2:B<w1.heap.size:=hlt HAL.out.1
 have HD:=hD0 (Z51 (fun e=>decide (e.1=t) || decide (e.2=t)) _ _ v2 l w2 hl hO (Z2f hc2) (fun w3 ht=>Z2f ((ht.cell (lL0 hB2 g2.sz) (fun e=>by
  have:=oge hO e
  omega)).trans hc2)))
 have HG:=hD0 (aI0 (HAL.out.2.trans g2) (fun k (e:v2.ownBlock=some k)=>Nat.le_trans HAL.out.2.sz (oge hO e)))
 clear g2 hO hc2 hB2 HC
 go_wp2_with fail
 refine HD.out.mono ?_
 rintro e w3 ⟨v3,rfl,h3,hcp,_,ht⟩
 rw[Z5k] at h3
 have HZ:=hD0 (aI0 h3 (aI0 hcp (Zf HG.out.1 ht (fun i e=>HG.out.2 i e))))
 clear h3 hcp ht HD
 go_wp2
 go_ret
 exact⟨_,rfl,HZ.out.1,HZ.out.2.1,HZ.out.2.2⟩
section
open Go.ChangeShapes Go.WideShapes Go.ChangeAt Go.RowKit
structure Z9r(w:World)(a:Option Addr)(len cap:Nat)(l:List (Int × Int)):Prop where
 hl:l.length=len
 rd:Y4 w (.slice a len cap) l
 hc:len≤cap
 fit:∀e∈l,Za e.1∧Za e.2
abbrev exE:List (Int × Int):=[(1,2),(2,3),(3,1),(2,1)]
theorem Z6s:Uh exE [1,2] true:=by
 have m12:((1:Int),(2:Int))∈exE:=by simp
 have m21:((2:Int),(1:Int))∈exE:=by simp
 have r11:Ya exE 1 1:=.tail (.single m12) m21
 have f21:Far exE 2 1 1:=⟨.one m21,fun m w=>Yp w⟩
 refine⟨⟨fun _=>⟨1,r11⟩,fun _=>rfl⟩,(fun h=>nomatch h),fun _=>⟨1,[2],rfl,r11,fun v r=>?_,⟨.step m12 (.one m21),fun m w=>?_⟩,.step m12 f21 (fun y hy _=>?_) (.last m21)⟩⟩
 ·obtain⟨y,hy⟩:=Yh r
  simp at hy
  omega
 ·have:=Yp w
  cases w with
  | one k=>simp at k
  | step _ k=>have:=Yp k;simp only[List.length_cons,List.length_nil];omega
 ·simp at hy
  show(2:Int)≤y
  omega
theorem Z6t:∀e∈exE,Za e.1∧Za e.2:=by
 intro e he
 unfold Za
 simp at he
 rcases he with rfl | rfl | rfl | rfl<;>simp
theorem Z4i(w:World):Calls prog 4 #[] w fun e w'=>e=.returned (.bool true)∧Nw w w':=by
 have hal:=Z5 w (.cells #[.int .i64 1,.int .i64 2,.int .i64 2,.int .i64 3,.int .i64 3,.int .i64 1,.int .i64 2,.int .i64 1] 40)
 have g1:Nw w (w.alloc (.cells #[.int .i64 1,.int .i64 2,.int .i64 2,.int .i64 3,.int .i64 3,.int .i64 1,.int .i64 2,.int .i64 1] 40)):=(Nw.refl w).alloc _
 obtain⟨w1,hw1⟩:∃x,w.alloc (.cells #[.int .i64 1,.int .i64 2,.int .i64 2,.int .i64 3,.int .i64 3,.int .i64 1,.int .i64 2,.int .i64 1] 40)=x:=⟨_,rfl⟩
 have HW1:=hD0 hw1
 rw[hw1] at hal g1
 have hE:Y4 w1 (.slice (some ⟨w.heap.size,0,none⟩) 4 4) exE:=Yi (row:=Zi) (sz:=2) (fun _=>rfl) (l:=exE) hal 4
 have HC:=hD0 (Yz hE (by decide) Z6t)
 have HG:=hD0 g1
 clear hw1 hal g1 hE
 go_enter func4,ntmps4
 go_wp2_with fail
 rw[HW1.out]
 refine HC.out.mono ?_
 rintro e w2 ⟨v2,c,b,rfl,hI,hP,g2⟩
 obtain⟨rfl,rfl⟩:=Yy hP Z6s
 have HI:=hD0 hI
 have g3:Nw w2 (w2.alloc (.cells #[.int .i64 1,.int .i64 2] 3)):=(Nw.refl w2).alloc _
 have hL:IS (w2.alloc (.cells #[.int .i64 1,.int .i64 2] 3)) (.slice (some ⟨w2.heap.size,0,none⟩) 2 2) [1,2]:=by
  have:=World.ownsRow_lit (base:=0) (size:=1) (e:=3) w2 #[.int .i64 1,.int .i64 2] 2 (Nat.zero_le _) (by decide) (by simp)
  simpa [IS] using this
 have HS:=hD0 (Vk _ v2 (.slice (some ⟨w2.heap.size,0,none⟩) 2 2) [1,2] (hI.nw g3) hL)
 have HG2:=hD0 ((HG.out.trans g2).trans g3)
 clear hI hP g2 g3 hL HC
 go_wp2_with fail
 refine HS.out.mono ?_
 rintro e w3 ⟨rfl,g3⟩
 have HZ:=hD0 (HG2.out.trans g3)
 clear g3
 go_wp2
 go_ret
 exact⟨rfl,HZ.out⟩
end
structure ReI(l:List (Int × Int))(a:Int)(out:List Int):Prop where
 srt:out.Pairwise (·<·)
 rch:∀y∈out,Ya l a y
def Lev(l:List (Int × Int))(a:Int)(n:Nat)(x:Int):Prop:=(n=0∧x=a)∨(0<n∧Far l a x n)
structure LvI(l:List (Int × Int))(a b:Int)(n:Nat)(now seen:List Int):Prop where
 ino:∀x,x∈now↔Lev l a n x
 ise:∀y,y∈seen↔∃m,m≤n∧Way l a m y
 nd:seen.Nodup
 nb:∀m,m≤n→¬Way l a m b
structure LvJ(l:List (Int × Int))(a b:Int)(n:Nat)(now seen0 seen next:List Int)(i:Nat):Prop where
 top:LvI l a b n now seen0
 sn:seen=seen0++next
 mem:∀y,y∈next↔(∃j,∃h:j<l.length,j<i∧l[j].1∈now∧l[j].2=y)∧y∉seen0
 nd:seen.Nodup
 nb:∀j,(h:j<l.length)→j<i→l[j].1∈now→l[j].2≠b
structure GrI(s:List (Int × Int))(a:Int)(N:Nat)(r:List Int)(last:Int)(n:Nat):Prop where
 far:Far s last a n
 pos:0<n
 len:r.length+n=N
 la:(a::r).getLast?=some last
 all:∀t,Greedy s a last n t→Greedy s a a N (r++t)
theorem Vv(v v':Value)(l:List (Int × Int))(w:World)(hm:l.length≤100000)(h:Y4 w v l)(h':Y4 w v' l) :
  Calls prog 9 #[v,v'] w fun e w'=>e=.returned (.bool true)∧Nw w w':=by
 obtain⟨a,c,rfl,hd⟩:=h
 obtain⟨a',c',rfl,hd'⟩:=h'
 have H:=hD0 hd
 have H':=hD0 hd'
 obtain⟨n,hn⟩:∃n,l.length=n:=⟨_,rfl⟩
 have HN:=hD0 hn
 rw[hn] at hm ⊢
 clear hd hd' hn
 go_enter func9,ntmps9
 go_wp2_with fail
 go_loopw [5] (fun i wr=>∃k:Nat,i=.int .i64 k∧k≤n∧Hid (Nw w wr)) (fun i _=>n-(intOf i).toNat)
 case atStart=>exact⟨0,rfl,Nat.zero_le _,hD0 (Nw.refl _)⟩
 case round =>
  obtain⟨k,rfl,hk,HG⟩:=hrel
  by_cases hlt:k<n
  ·have hkl:k<l.length:=by rw[HN.out];exact hlt
   rcases H.out with⟨q,_⟩ | ⟨b,o,rfl,hc⟩
   ·rw[q] at hkl;simp at hkl
   rcases H'.out with⟨q,_⟩ | ⟨b',o',rfl,hc'⟩
   ·rw[q] at hkl;simp at hkl
   obtain⟨x0,x1⟩:=(hc.nw HG.out).eg hkl
   obtain⟨y0,y1⟩:=(hc'.nw HG.out).eg hkl
   have hb:=(hc.nw HG.out).lt
   have hb':=(hc'.nw HG.out).lt
   generalize l[k]=s at *
   obtain⟨s0,s1⟩:=s
   simp only at x0 x1 y0 y1
   have V4:=Yf hlt
   have hw:=Ys k (k+1) (Nat.le_trans (Nat.le_of_lt hlt) (Nat.le_trans hm (by decide))) rfl
   obtain⟨k1,hk1⟩:∃m,k+1=m:=⟨_,rfl⟩
   have HK1:=hD0 (aI0 hk1 hlt)
   rw[hk1] at hw
   clear hk1 hkl hc hc' hlt
   have t0:∀z,Nw wr z→z.cell? ⟨b,o+k*2,none⟩=some (.int .i64 s0):=fun z g=>g.kp x0
   have t1:∀z,Nw wr z→z.cell? ⟨b,o+k*2+1,none⟩=some (.int .i64 s1):=fun z g=>g.kp x1
   have u0:∀z,Nw wr z→z.cell? ⟨b',o'+k*2,none⟩=some (.int .i64 s0):=fun z g=>g.kp y0
   have u1:∀z,Nw wr z→z.cell? ⟨b',o'+k*2+1,none⟩=some (.int .i64 s1):=fun z g=>g.kp y1
   clear x0 x1 y0 y1
   go_wp2_with fail
   refine Z8 [] (Nw wr) (by kernel_rfl) ?_
   change Z7 _ _ _ _ _ _ 9 #[false,false,false,false,false,false,false,false,false] _ wr.drew
   obtain⟨y4,hy4⟩:∃y,wr.drew=y:=⟨_,rfl⟩
   rw[hy4]
   have hS0:Nw wr y4:=by rw[←hy4];exact(Nw.refl wr).dr
   clear hy4
   refine Z0 0 rfl (by kernel_rfl) (by kernel_rfl) (by kernel_rfl) (fun v c a w h=>h) ?_
   (first | (refine⟨undef,Or.inr ⟨by rfl,rfl⟩,?_⟩) | (apply Exists.intro;refine⟨Or.inl ⟨by rfl,?_⟩,?_⟩;(intro x hx';go_simp;first | done | with_reducible rfl)))
   (try simp only[Act.put,List.getElem_toArray,List.getElem_cons_zero,List.getElem_cons_succ,List.setIfInBounds_toArray,List.set_cons_zero,List.set_cons_succ])
   refine Z0 1 rfl (by kernel_rfl) (by kernel_rfl) (by kernel_rfl) (fun v c a w h=>h) ?_
   (first | (refine⟨undef,Or.inr ⟨by rfl,rfl⟩,?_⟩) | (apply Exists.intro;refine⟨Or.inl ⟨by rfl,?_⟩,?_⟩;(intro x hx';go_simp;first | done | with_reducible rfl)))
   (try simp only[Act.put,List.getElem_toArray,List.getElem_cons_zero,List.getElem_cons_succ,List.setIfInBounds_toArray,List.set_cons_zero,List.set_cons_succ])
   refine Z0 2 rfl (by kernel_rfl) (by kernel_rfl) (by kernel_rfl) (fun v c a w h=>h) ?_
   (first | (refine⟨undef,Or.inr ⟨by rfl,rfl⟩,?_⟩) | (apply Exists.intro;refine⟨Or.inl ⟨by rfl,?_⟩,?_⟩;(intro x hx';go_simp;first | done | with_reducible rfl)))
   (try simp only[Act.put,List.getElem_toArray,List.getElem_cons_zero,List.getElem_cons_succ,List.setIfInBounds_toArray,List.set_cons_zero,List.set_cons_succ])
   refine Z1 3 rfl (by kernel_rfl) (by kernel_rfl) (by kernel_rfl) (by kernel_rfl) (fun v c a w h=>h) hS0 ?_
   (first | (refine⟨undef,Or.inr ⟨by rfl,rfl⟩,?_⟩) | (apply Exists.intro;refine⟨Or.inl ⟨by rfl,?_⟩,?_⟩;(intro x hx';go_simp;first | done | with_reducible rfl)))
   (try simp only[Act.put,List.getElem_toArray,List.getElem_cons_zero,List.getElem_cons_succ,List.setIfInBounds_toArray,List.set_cons_zero,List.set_cons_succ])
   refine Z0 4 rfl (by kernel_rfl) (by kernel_rfl) (by kernel_rfl) (fun v c a w h=>h) ?_
   (first | (refine⟨undef,Or.inr ⟨by rfl,rfl⟩,?_⟩) | (apply Exists.intro;refine⟨Or.inl ⟨by rfl,?_⟩,?_⟩;(intro x hx';go_simp;first | done | with_reducible rfl)))
   (try simp only[Act.put,List.getElem_toArray,List.getElem_cons_zero,List.getElem_cons_succ,List.setIfInBounds_toArray,List.set_cons_zero,List.set_cons_succ])
   refine Z0 5 rfl (by kernel_rfl) (by kernel_rfl) (by kernel_rfl) (fun v c a w h=>h) ?_
   (first | (refine⟨undef,Or.inr ⟨by rfl,rfl⟩,?_⟩) | (apply Exists.intro;refine⟨Or.inl ⟨by rfl,?_⟩,?_⟩;(intro x hx';go_simp;first | done | with_reducible rfl)))
   (try simp only[Act.put,List.getElem_toArray,List.getElem_cons_zero,List.getElem_cons_succ,List.setIfInBounds_toArray,List.set_cons_zero,List.set_cons_succ])
   refine Z0 6 rfl (by kernel_rfl) (by kernel_rfl) (by kernel_rfl) (fun v c a w h=>h) ?_
   (first | (refine⟨undef,Or.inr ⟨by rfl,rfl⟩,?_⟩) | (apply Exists.intro;refine⟨Or.inl ⟨by rfl,?_⟩,?_⟩;(intro x hx';go_simp;first | done | with_reducible rfl)))
   (try simp only[Act.put,List.getElem_toArray,List.getElem_cons_zero,List.getElem_cons_succ,List.setIfInBounds_toArray,List.set_cons_zero,List.set_cons_succ])
   refine Z1 7 rfl (by kernel_rfl) (by kernel_rfl) (by kernel_rfl) (by kernel_rfl) (fun v c a w h=>h) hS0 ?_
   (first | (refine⟨undef,Or.inr ⟨by rfl,rfl⟩,?_⟩) | (apply Exists.intro;refine⟨Or.inl ⟨by rfl,?_⟩,?_⟩;(intro x hx';go_simp;first | done | with_reducible rfl)))
   (try simp only[Act.put,List.getElem_toArray,List.getElem_cons_zero,List.getElem_cons_succ,List.setIfInBounds_toArray,List.set_cons_zero,List.set_cons_succ])
   refine Z0 8 rfl (by kernel_rfl) (by kernel_rfl) (by kernel_rfl) (fun v c a w h=>h) ?_
   (first | (refine⟨undef,Or.inr ⟨by rfl,rfl⟩,?_⟩) | (apply Exists.intro;refine⟨Or.inl ⟨by rfl,?_⟩,?_⟩;(intro x hx';go_simp;first | done | with_reducible rfl)))
   (try simp only[Act.put,List.getElem_toArray,List.getElem_cons_zero,List.getElem_cons_succ,List.setIfInBounds_toArray,List.set_cons_zero,List.set_cons_succ])
   refine Z4 (by kernel_rfl) ?_ _
   refine NoPanic.normal ?_
   (try simp only[Act.put,List.getElem_toArray,List.getElem_cons_zero,List.getElem_cons_succ,List.setIfInBounds_toArray,List.set_cons_zero,List.set_cons_succ])
   have HG4:=hD0 (HG.out.trans hS0)
   clear hS0 t0 t1 u0 u1
   go_wp2_with fail
   exact⟨⟨k1,rfl,by rw[←HK1.out.1];exact HK1.out.2,HG4⟩,by rw[←HK1.out.1];exact V5 HK1.out.2⟩
  ·obtain rfl:k=n:=Nat.le_antisymm hk (Nat.le_of_not_lt hlt)
   have V4:¬k<k:=Nat.lt_irrefl k
   clear hlt
   go_wp2_with fail
   go_ret
   exact⟨rfl,HG.out⟩
abbrev wq1:List Rq:=[⟨0,7,3,3,0⟩]
abbrev wq2:List Rq:=[⟨0,7,3,3,0⟩,⟨1,5,0,6,1⟩]
abbrev wq3:List Rq:=[⟨0,7,3,3,0⟩,⟨1,5,0,6,1⟩,⟨2,6,0,3,2⟩]
theorem wn1:Vo ⟨-1,-1,0,[]⟩ 0 7 3=(⟨-1,-1,0,wq1⟩,true,0):=by kernel_rfl
theorem wn2:Vo ⟨-1,-1,0,wq1⟩ 1 5 6=(⟨-1,-1,1,wq2⟩,false,0):=by kernel_rfl
theorem wn3:Vo ⟨-1,-1,1,wq2⟩ 2 6 3=(⟨-1,-1,2,wq3⟩,false,0):=by kernel_rfl
theorem wo0:Ok 0 []:=(Ue 0 []).1 (by kernel_rfl)
theorem wo1:Ok 0 wq1:=(Ue 0 wq1).1 (by kernel_rfl)
theorem wo2:Ok 1 wq2:=(Ue 1 wq2).1 (by kernel_rfl)
theorem wo3:Ok 2 wq3:=(Ue 2 wq3).1 (by kernel_rfl)
abbrev weE:List (Int × Int):=[(5,7),(6,5)]
theorem wnE(v:Value):sortE (edL [(⟨⟨-1,-1,2,wq3⟩,v⟩:Hv)] [(⟨⟨-1,-1,2,wq3⟩,v⟩:Hv)].length)=weE:=by
 have:sortE (edH wq3 3)=weE:=by kernel_rfl
 rw[←this]
 simp[edL]
theorem Z17:∀e∈weE,Za e.1∧Za e.2:=by
 intro e he
 unfold Za
 simp at he
 rcases he with rfl | rfl<;>simp
theorem Z18{x y:Int}(r:Ya weE x y):(x=6∧(y=5∨y=7))∨(x=5∧y=7):=by
 induction r with
 | single k =>
  simp at k
  omega
 | tail _ k ih =>
  simp at k
  omega
theorem Z8n:¬∃x,Ya weE x x:=fun⟨x,r⟩=>by
 have:=Z18 r
 omega
theorem Z8o:Z3q weE 6 [5,7]:=by
 have m1:((6:Int),(5:Int))∈weE:=by simp
 have m2:((5:Int),(7:Int))∈weE:=by simp
 refine⟨by simp,fun y=>⟨fun h=>?_,fun r=>?_⟩⟩
 ·simp at h
  rcases h with rfl | rfl
  ·exact .single m1
  ·exact .tail (.single m1) m2
 ·have:=Z18 r
  simp
  omega
theorem Z8p:Z3q weE 7 []:=by
 refine⟨List.Pairwise.nil,fun y=>⟨fun h=>(nomatch h),fun r=>?_⟩⟩
 have:=Z18 r
 omega
theorem Z8m:Z38 weE 5=[]:=by kernel_rfl
abbrev Z3l:List (Int × Int):=[(4,4),(9,3)]
theorem Z4e:Uh Z3l [4] true:=by
 have m:((4:Int),(4:Int))∈Z3l:=by simp
 have r:Ya Z3l 4 4:=.single m
 refine⟨⟨fun _=>⟨4,r⟩,fun _=>rfl⟩,(fun h=>nomatch h),fun _=>⟨4,[],rfl,r,fun v r=>?_,⟨.one m,fun m w=>Yp w⟩,.last m⟩⟩
 obtain⟨y,hy⟩:=Yh r
 simp at hy
 omega
theorem Z4f:∀e∈Z3l,Za e.1∧Za e.2:=by
 intro e he
 unfold Za
 simp at he
 rcases he with rfl | rfl<;>simp
abbrev Z33:List (Int × Int):=[(1,3),(1,2),(3,1),(2,1)]
theorem Z64:Uh Z33 [1,2] true:=by
 have m12:((1:Int),(2:Int))∈Z33:=by simp
 have m21:((2:Int),(1:Int))∈Z33:=by simp
 have r11:Ya Z33 1 1:=.tail (.single m12) m21
 have f21:Far Z33 2 1 1:=⟨.one m21,fun m w=>Yp w⟩
 refine⟨⟨fun _=>⟨1,r11⟩,fun _=>rfl⟩,(fun h=>nomatch h),fun _=>⟨1,[2],rfl,r11,fun v r=>?_,⟨.step m12 (.one m21),fun m w=>?_⟩,.step m12 f21 (fun y hy _=>?_) (.last m21)⟩⟩
 ·obtain⟨y,hy⟩:=Yh r
  simp at hy
  omega
 ·have:=Yp w
  cases w with
  | one k=>simp at k
  | step _ k=>have:=Yp k;simp only[List.length_cons,List.length_nil];omega
 ·simp at hy
  show(2:Int)≤y
  omega
theorem Z65:∀e∈Z33,Za e.1∧Za e.2:=by
 intro e he
 unfold Za
 simp at he
 rcases he with rfl | rfl | rfl | rfl<;>simp
theorem Z6v:Uh [] [] false:=Z37 (fun⟨x,r⟩=>by
 obtain⟨y,hy⟩:=Yh r
 cases hy)
abbrev Z9a:List (Int × Int):=[(2,0),(1,9),(2,0)]
theorem Z66:sortE Z9a=[(1,9),(2,0)]:=by kernel_rfl
theorem Z7b{a b:List Int}(ha:a.Pairwise (·<·))(hb:b.Pairwise (·<·))(h:∀x,x∈a↔x∈b):a=b:=by
 have key:∀ {l:List Int},l.Pairwise (·<·)→Zh (l.map fun x=>(x,(0:Int))):=fun {l} hl=>by
  exact List.pairwise_map.2 (hl.imp (fun {x y} k=>.inl k))
 have e:=Z3n (key ha) (key hb) (fun p=>by
  rw[List.mem_map,List.mem_map]
  exact⟨fun⟨x,q,e⟩=>⟨x,(h x).1 q,e⟩,fun⟨x,q,e⟩=>⟨x,(h x).2 q,e⟩⟩)
 have:=congrArg (List.map Prod.fst) e
 rw[List.map_map,List.map_map] at this
 simpa [Function.comp_def] using this
theorem Z0n{l:List (Int × Int)}{a:Int}{c d:List Int}(h:Z3q l a c)(k:Z3q l a d):c=d:=Z7b h.1 k.1 fun x=>(h.2 x).trans (k.2 x).symm
theorem Z8c{w z:World}{v:Value}{q:List Rq}{S:Nat→Prop}(h:Y7 w v q)(t:Zc S w z)(hn:∀a l c,v=.slice (some a) l c→¬S a.block):Y7 z v q:=by
 obtain⟨a,c,e,hx⟩:=h
 subst e
 rcases hx with hx | ⟨b,o,rfl,hc⟩
 ·exact⟨a,c,rfl,.inl hx⟩
 ·have hb:¬S b:=hn _ _ _ rfl
  exact⟨_,c,rfl,.inr ⟨b,o,rfl,lL0 hc.lt t.size,fun i hi j u hu=>(t.cell hc.lt hb).trans (hc.cell i hi j u hu)⟩⟩
abbrev Z1p(a:World)(B:Nat)(u0 u1 u2 u3:Value):World:=(((a.setCell ⟨B,0,none⟩ u0).setCell ⟨B,1,none⟩ u1).setCell ⟨B,2,none⟩ u2).setCell ⟨B,3,none⟩ u3
theorem Z1q{a:World}{B:Nat}{x0 x1 x2 x3:Value}{T:TypeId}(h:a.heap[B]?=some (.cells #[x0,x1,x2,x3] T (0,0)))(u0 u1 u2 u3:Value):(Z1p a B u0 u1 u2 u3).heap[B]?=some (.cells #[u0,u1,u2,u3] T (0,0)):=by
 have h1:=hset (j:=0) u0 h
 have h2:=hset (j:=1) u1 h1
 have h3:=hset (j:=2) u2 h2
 have h4:=hset (j:=3) u3 h3
 simpa using h4
theorem Z1s{a:World}{B n:Nat}{v:Value}{q:List Rq}(h:Y7 a v q)(hn:newV n v)(hB:B<n)(u0 u1 u2 u3:Value):Y7 (Z1p a B u0 u1 u2 u3) v q:=by
 have key:∀(z:World) (u:Value) (j:Nat),Y7 z v q→Y7 (z.setCell ⟨B,j,none⟩ u) v q:=fun z u j hz=>Z8c hz (Zm z ⟨B,j,none⟩ u) (fun a l c e k=>by
  have h1:=hn a l c e
  have h2:a.block=B:=k
  omega)
 exact key _ _ _ (key _ _ _ (key _ _ _ (key _ _ _ h)))
theorem Z1r{W a:World}{B:Nat}(h:Nw W a)(hB:W.heap.size≤B)(u0 u1 u2 u3:Value):Nw W (Z1p a B u0 u1 u2 u3):=(((h.st hB _).st hB _).st hB _).st hB _
theorem Z5g(w:World):Calls prog 6 #[] w fun e w'=>e=.returned (.agg #[.int .i64 (-1),.int .i64 (-1)])∧Nw w w':=by
 go_enter func6,ntmps6
 go_wp2
 exact bodyPost_ret (v:=.agg #[.int .i64 (-1),.int .i64 (-1)]) (by simp[results,results6,go_sem, *]) rfl ⟨rfl,(Nw.refl w).alloc _⟩
theorem Z92(w:World)(x:Int):IS (w.alloc (.cells #[.int .i64 x] 3)) (.slice (some ⟨w.heap.size,0,none⟩) 1 1) [x]:=by
 have h:=World.ownsRow_lit (base:=0) (size:=1) (e:=3) w #[.int .i64 x] 1 (Nat.zero_le _) (by unfold maxLen;omega) (by simp)
 unfold IS
 simpa using h
theorem Z7n(w:World)(x y:Int):IS (w.alloc (.cells #[.int .i64 x,.int .i64 y] 3)) (.slice (some ⟨w.heap.size,0,none⟩) 2 2) [x,y]:=by
 have h:=World.ownsRow_lit (base:=0) (size:=1) (e:=3) w #[.int .i64 x,.int .i64 y] 2 (Nat.zero_le _) (by unfold maxLen;omega) (by simp)
 unfold IS
 simpa using h
theorem Z54(w:World)(a b c d:Int):Y4 (w.alloc (.cells #[.int .i64 a,.int .i64 b,.int .i64 c,.int .i64 d] 40)) (.slice (some ⟨w.heap.size,0,none⟩) 2 2) [(a,b),(c,d)] :=
 Yi (row:=Zi) (sz:=2) (fun _=>rfl) (l:=[(a,b),(c,d)]) (Z5 w (.cells #[.int .i64 a,.int .i64 b,.int .i64 c,.int .i64 d] 40)) 2
theorem names13(w:World):Calls prog 3 #[] w fun e w'=>e=.returned (.bool true)∧Nw w w':=by
 have HLv:=hD0 (Z4i w)
 have HA0:=hD0 (fun z=>Z2w (-1) (-1) 0 0 7 3 (.slice none 0 0) [] z (by simp) wo0 (Rd.nil z))
 unfold Z4j at HA0
 rw[wn1] at HA0
 unfold Ua at HA0
 go_enter func3,ntmps3
 go_wp2_with fail
 refine HLv.out.mono ?_
 rintro e w0 ⟨rfl,g0⟩
 have HG0:=hD0 g0
 clear g0 HLv
 go_wp2_with fail
 refine(Z5g w0).mono ?_
 rintro e w1 ⟨rfl,g1⟩
 have HG1:=hD0 (HG0.out.trans g1)
 clear g1 HG0
 go_wp2_with fail
 refine(HA0.out w1).mono ?_
 rintro e w2 ⟨v1,rfl,g2,hR,_,hf⟩
 have HF1:=hD0 hf
 obtain⟨a1,c1,rfl,hd⟩:=hR
 have HR1:=hD0 (show Y7 w2 (.slice a1 1 c1) wq1 from⟨a1,c1,rfl,hd⟩)
 have HG2:=hD0 (HG1.out.trans g2)
 clear hd g2 hf HA0
 simp only[List.length_cons,List.length_nil,Nat.reduceAdd] at *
 go_upto_region 4 with fail
 have hb:=Z5 w2 (.cells #[.int .i64 (-1),.int .i64 (-1),.slice a1 1 c1,.int .i64 0] 27)
 have g3:Nw w2 (w2.alloc (.cells #[.int .i64 (-1),.int .i64 (-1),.slice a1 1 c1,.int .i64 0] 27)):=(Nw.refl _).alloc _
 obtain⟨w3,hw3⟩:∃z,w2.alloc (.cells #[.int .i64 (-1),.int .i64 (-1),.slice a1 1 c1,.int .i64 0] 27)=z:=⟨_,rfl⟩
 obtain⟨B,hB⟩:∃B,w2.heap.size=B:=⟨_,rfl⟩
 have HWB:=hD0 (show w.heap.size≤B from by rw[←hB];exact HG2.out.sz)
 rw[hw3,hB] at hb ⊢
 rw[hw3] at g3
 have HB3:=hD0 hb
 have HG3:=hD0 (HG2.out.trans g3)
 have HA1:=hD0 (Z2w (-1) (-1) 0 1 5 6 (.slice a1 1 c1) wq1 w3 (by simp) wo1 (HR1.out.nw g3))
 unfold Z4j at HA1
 rw[wn2] at HA1
 unfold Ua at HA1
 have p0:=Z2 (j:=0) hb
 have p1:=Z2 (j:=1) hb
 have p2:=Z2 (j:=2) hb
 have p3:=Z2 (j:=3) hb
 have pl:=hlt hb
 clear hw3 hB hb g3 HF1 HR1 HG2 HG1
 go_wp2_with fail
 clear p0 p1 p2 p3 pl
 refine HA1.out.mono ?_
 rintro e w4 ⟨v2,rfl,g4,hR,_,hf⟩
 have HF2:=hD0 hf
 obtain⟨a2,c2,rfl,hd⟩:=hR
 have HR2:=hD0 (show Y7 w4 (.slice a2 2 c2) wq2 from⟨a2,c2,rfl,hd⟩)
 have HG4:=hD0 (HG3.out.trans g4)
 have HB4:=hD0 (g4.at' HB3.out)
 have fz0:=hfz (j:=0) HB4.out
 have fz1:=hfz (j:=1) HB4.out
 have fz2:=hfz (j:=2) HB4.out
 have fz3:=hfz (j:=3) HB4.out
 have q0:=Z2 (j:=0) HB4.out
 have q1:=Z2 (j:=1) HB4.out
 have q2:=Z2 (j:=2) HB4.out
 have q3:=Z2 (j:=3) HB4.out
 have pl:=hlt HB4.out
 clear hd g4 hf HA1
 simp only[List.length_cons,List.length_nil,Nat.reduceAdd] at *
 go_upto_region 5 with fail
 clear fz0 fz1 fz2 fz3 q0 q1 q2 q3 pl
 have hb:=Z1q HB4.out (.int .i64 (-1)) (.int .i64 (-1)) (.slice a2 2 c2) (.int .i64 1)
 have hr:=Z1s HR2.out HF2.out (hlt HB3.out) (.int .i64 (-1)) (.int .i64 (-1)) (.slice a2 2 c2) (.int .i64 1)
 have hg:=Z1r HG4.out HWB.out (.int .i64 (-1)) (.int .i64 (-1)) (.slice a2 2 c2) (.int .i64 1)
 unfold Z1p at hb hr hg
 obtain⟨w5,hw5⟩:∃z,(((w4.setCell ⟨B,0,none⟩ (.int .i64 (-1))).setCell ⟨B,1,none⟩ (.int .i64 (-1))).setCell ⟨B,2,none⟩ (.slice a2 2 c2)).setCell ⟨B,3,none⟩ (.int .i64 1)=z:=⟨_,rfl⟩
 rw[hw5] at hb hr hg ⊢
 have HB5:=hD0 hb
 have HG5:=hD0 hg
 have HA2:=hD0 (Z2w (-1) (-1) 1 2 6 3 (.slice a2 2 c2) wq2 w5 (by simp) wo2 hr)
 unfold Z4j at HA2
 rw[wn3] at HA2
 unfold Ua at HA2
 have p0:=Z2 (j:=0) hb
 have p1:=Z2 (j:=1) hb
 have p2:=Z2 (j:=2) hb
 have p3:=Z2 (j:=3) hb
 have pl:=hlt hb
 clear hw5 hb hr hg HF2 HR2 HG4 HG3 HB3 HB4
 go_wp2_with fail
 clear p0 p1 p2 p3 pl
 refine HA2.out.mono ?_
 rintro e w6 ⟨v3,rfl,g6,hR,_,hf⟩
 have HF3:=hD0 hf
 obtain⟨a3,c3,rfl,hd⟩:=hR
 have HR3:=hD0 (show Y7 w6 (.slice a3 3 c3) wq3 from⟨a3,c3,rfl,hd⟩)
 have HG6:=hD0 (HG5.out.trans g6)
 have HB6:=hD0 (g6.at' HB5.out)
 have fz0:=hfz (j:=0) HB6.out
 have fz1:=hfz (j:=1) HB6.out
 have fz2:=hfz (j:=2) HB6.out
 have fz3:=hfz (j:=3) HB6.out
 have q0:=Z2 (j:=0) HB6.out
 have q1:=Z2 (j:=1) HB6.out
 have q2:=Z2 (j:=2) HB6.out
 have q3:=Z2 (j:=3) HB6.out
 have pl:=hlt HB6.out
 clear hd g6 hf HA2
 simp only[List.length_cons,List.length_nil,Nat.reduceAdd] at *
 go_upto_region 6 with fail
 clear fz0 fz1 fz2 fz3 q0 q1 q2 q3 pl
 have hb:=Z1q HB6.out (.int .i64 (-1)) (.int .i64 (-1)) (.slice a3 3 c3) (.int .i64 2)
 have hr:=Z1s HR3.out HF3.out (hlt HB5.out) (.int .i64 (-1)) (.int .i64 (-1)) (.slice a3 3 c3) (.int .i64 2)
 have hg:=Z1r HG6.out HWB.out (.int .i64 (-1)) (.int .i64 (-1)) (.slice a3 3 c3) (.int .i64 2)
 unfold Z1p at hb hr hg
 obtain⟨w7,hw7⟩:∃z,(((w6.setCell ⟨B,0,none⟩ (.int .i64 (-1))).setCell ⟨B,1,none⟩ (.int .i64 (-1))).setCell ⟨B,2,none⟩ (.slice a3 3 c3)).setCell ⟨B,3,none⟩ (.int .i64 2)=z:=⟨_,rfl⟩
 rw[hw7] at hb hr hg ⊢
 have p0:=Z2 (j:=0) hb
 have p1:=Z2 (j:=1) hb
 have p2:=Z2 (j:=2) hb
 have p3:=Z2 (j:=3) hb
 have pl:=hlt hb
 have hal:=Z5 w7 (.cells #[.int .i64 (-1),.int .i64 (-1),.slice a3 3 c3,.int .i64 2] 27)
 have g8:Nw w7 (w7.alloc (.cells #[.int .i64 (-1),.int .i64 (-1),.slice a3 3 c3,.int .i64 2] 27)):=(Nw.refl _).alloc _
 have HE:=hD0 (Z3v (w0:=w7.alloc (.cells #[.int .i64 (-1),.int .i64 (-1),.slice a3 3 c3,.int .i64 2] 27)) (l:=[⟨⟨-1,-1,2,wq3⟩,.slice a3 3 c3⟩]) (Yi (row:=Z7l) (l:=[⟨⟨-1,-1,2,wq3⟩,.slice a3 3 c3⟩]) (fun _=>rfl) hal 1) (fun x hx=>by
  rw[List.mem_singleton.1 hx]
  exact⟨hr.nw g8,wo3,by simp⟩) (by simp))
 rw[wnE] at HE
 have HG8:=hD0 (hg.trans g8)
 clear hw7 hb hr hg hal g8 HF3 HR3 HG6 HG5 HB5 HB6
 go_wp2_with fail
 clear p0 p1 p2 p3 pl
 refine HE.out.mono ?_
 rintro e y0 ⟨ve,rfl,hO,k0⟩
 have HEg:=hD0 (Z9.at_ hO)
 have K0:=hD0 (HG8.out.trans k0)
 clear hO k0 HE HG8
 have E0:=hD0 (Nw.refl y0)
 have ga:Nw y0 y0:=Nw.refl _
 have HC:=hD0 (Yz (Rd.nil (sz:=2) (row:=Zi) y0) (by simp) (fun e he=>nomatch he))
 have GA:=hD0 ga
 clear ga
 go_wp2_with fail
 refine HC.out.mono ?_
 rintro e y1 ⟨v1,c,b,rfl,hI,hP,gk⟩
 have K1:=hD0 (K0.out.trans (GA.out.trans gk))
 have E1:=hD0 (E0.out.trans (GA.out.trans gk))
 obtain⟨rfl,rfl⟩:=Yy hP Z6v
 clear hI hP
 clear gk HC GA
 have ga:Nw y1 (y1.alloc (.cells #[.int .i64 4,.int .i64 4,.int .i64 9,.int .i64 3] 40)):=(Nw.refl _).alloc _
 have HC:=hD0 (Yz (Z54 y1 4 4 9 3) (by simp) Z4f)
 have GA:=hD0 ga
 clear ga
 go_wp2_with fail
 refine HC.out.mono ?_
 rintro e y2 ⟨vs,c,b,rfl,hI,hP,gk⟩
 have K2:=hD0 (K1.out.trans (GA.out.trans gk))
 have E2:=hD0 (E1.out.trans (GA.out.trans gk))
 obtain⟨rfl,rfl⟩:=Yy hP Z4e
 have HS:=hD0 hI
 clear hI hP
 clear gk HC GA
 have ga:Nw y2 (y2.alloc (.cells #[.int .i64 1,.int .i64 3,.int .i64 1,.int .i64 2,.int .i64 3,.int .i64 1,.int .i64 2,.int .i64 1] 40)):=(Nw.refl _).alloc _
 have HC:=hD0 (Yz (Yi (row:=Zi) (sz:=2) (fun _=>rfl) (l:=Z33) (Z5 y2 (.cells #[.int .i64 1,.int .i64 3,.int .i64 1,.int .i64 2,.int .i64 3,.int .i64 1,.int .i64 2,.int .i64 1] 40)) 4) (by simp) Z65)
 have GA:=hD0 ga
 clear ga
 go_wp2_with fail
 refine HC.out.mono ?_
 rintro e y3 ⟨vt,c,b,rfl,hI,hP,gk⟩
 have K3:=hD0 (K2.out.trans (GA.out.trans gk))
 have E3:=hD0 (E2.out.trans (GA.out.trans gk))
 obtain⟨rfl,rfl⟩:=Yy hP Z64
 have HT:=hD0 hI
 clear hI hP
 have HS:=hD0 (HS.out.nw (GA.out.trans gk))
 clear gk HC GA
 have ga:Nw y3 (y3.alloc (.cells #[.int .i64 5,.int .i64 7,.int .i64 6,.int .i64 5] 40)):=(Nw.refl _).alloc _
 have HC:=hD0 (Vv _ _ weE (y3.alloc (.cells #[.int .i64 5,.int .i64 7,.int .i64 6,.int .i64 5] 40)) (by simp) (HEg.out.nw (E3.out.trans ga)) (Z54 y3 5 7 6 5))
 have GA:=hD0 ga
 clear ga
 go_wp2_with fail
 refine HC.out.mono ?_
 rintro e y4 ⟨rfl,gk⟩
 have K4:=hD0 (K3.out.trans (GA.out.trans gk))
 have E4:=hD0 (E3.out.trans (GA.out.trans gk))
 have HS:=hD0 (HS.out.nw (GA.out.trans gk))
 have HT:=hD0 (HT.out.nw (GA.out.trans gk))
 clear gk HC GA
 have ga:Nw y4 (y4.alloc (.cells #[.int .i64 4] 3)):=(Nw.refl _).alloc _
 have HC:=hD0 (Vk (y4.alloc (.cells #[.int .i64 4] 3)) _ _ [4] (HS.out.nw ga) (Z92 y4 4))
 have GA:=hD0 ga
 clear ga
 go_wp2_with fail
 refine HC.out.mono ?_
 rintro e y5 ⟨rfl,gk⟩
 have K5:=hD0 (K4.out.trans (GA.out.trans gk))
 have E5:=hD0 (E4.out.trans (GA.out.trans gk))
 have HT:=hD0 (HT.out.nw (GA.out.trans gk))
 clear gk HC GA
 have ga:Nw y5 (y5.alloc (.cells #[.int .i64 1,.int .i64 2] 3)):=(Nw.refl _).alloc _
 have HC:=hD0 (Vk (y5.alloc (.cells #[.int .i64 1,.int .i64 2] 3)) _ _ [1,2] (HT.out.nw ga) (Z7n y5 1 2))
 have GA:=hD0 ga
 clear ga
 go_wp2_with fail
 refine HC.out.mono ?_
 rintro e y6 ⟨rfl,gk⟩
 have K6:=hD0 (K5.out.trans (GA.out.trans gk))
 have E6:=hD0 (E5.out.trans (GA.out.trans gk))
 clear gk HC GA
 have ga:Nw y6 y6:=Nw.refl _
 have HC:=hD0 (Z1e (HEg.out.nw E6.out) (by simp) Z17)
 have GA:=hD0 ga
 clear ga
 go_wp2_with fail
 refine HC.out.mono ?_
 rintro e y7 ⟨b7,rfl,hb,gk⟩
 have K7:=hD0 (K6.out.trans (GA.out.trans gk))
 have E7:=hD0 (E6.out.trans (GA.out.trans gk))
 obtain rfl:b7=true:=by
  cases b7 with
  | true=>rfl
  | false=>exact absurd (hb.1 rfl) Z8n
 clear hb
 clear gk HC GA
 have ga:Nw y7 y7:=Nw.refl _
 have HC:=hD0 (Z06 (HEg.out.nw E7.out) (by simp) Z17 6 ⟨by decide,by decide⟩)
 have GA:=hD0 ga
 clear ga
 go_wp2_with fail
 refine HC.out.mono ?_
 rintro e y8 ⟨v8,c8,rfl,hI,hP,gk⟩
 have K8:=hD0 (K7.out.trans (GA.out.trans gk))
 have E8:=hD0 (E7.out.trans (GA.out.trans gk))
 obtain rfl:=Z0n hP Z8o
 have H8:=hD0 hI
 clear hI hP
 clear gk HC GA
 have ga:Nw y8 (y8.alloc (.cells #[.int .i64 5,.int .i64 7] 3)):=(Nw.refl _).alloc _
 have HC:=hD0 (Vk (y8.alloc (.cells #[.int .i64 5,.int .i64 7] 3)) _ _ [5,7] (H8.out.nw ga) (Z7n y8 5 7))
 have GA:=hD0 ga
 clear ga
 go_wp2_with fail
 refine HC.out.mono ?_
 rintro e y9 ⟨rfl,gk⟩
 have K9:=hD0 (K8.out.trans (GA.out.trans gk))
 have E9:=hD0 (E8.out.trans (GA.out.trans gk))
 clear gk HC GA
 have ga:Nw y9 y9:=Nw.refl _
 have HC:=hD0 (Z06 (HEg.out.nw E9.out) (by simp) Z17 7 ⟨by decide,by decide⟩)
 have GA:=hD0 ga
 clear ga
 go_wp2_with fail
 refine HC.out.mono ?_
 rintro e y10 ⟨v10,c10,rfl,hI,hP,gk⟩
 have K10:=hD0 (K9.out.trans (GA.out.trans gk))
 have E10:=hD0 (E9.out.trans (GA.out.trans gk))
 obtain rfl:=Z0n hP Z8p
 obtain⟨ra,rc,rfl,_⟩:=hI.box
 clear hP hI
 clear gk HC GA
 have ga:Nw y10 y10:=Nw.refl _
 have HC:=hD0 (Z2h (HEg.out.nw E10.out) (by simp) 5)
 have GA:=hD0 ga
 clear ga
 go_wp2_with fail
 refine HC.out.mono ?_
 rintro e y11 ⟨v11,rfl,hI,_,gk⟩
 have K11:=hD0 (K10.out.trans (GA.out.trans gk))
 have E11:=hD0 (E10.out.trans (GA.out.trans gk))
 rw[Z8m] at hI
 have H11:=hD0 hI
 clear hI
 clear gk HC GA
 have ga:Nw y11 (y11.alloc (.cells #[] 40)):=(Nw.refl _).alloc _
 have HC:=hD0 (Vv _ _ [] (y11.alloc (.cells #[] 40)) (by simp) (H11.out.nw ga) (Yi (row:=Zi) (sz:=2) (fun _=>rfl) (l:=[]) (Z5 y11 (.cells #[] 40)) 0))
 have GA:=hD0 ga
 clear ga
 go_wp2_with fail
 refine HC.out.mono ?_
 rintro e y12 ⟨rfl,gk⟩
 have K12:=hD0 (K11.out.trans (GA.out.trans gk))
 have E12:=hD0 (E11.out.trans (GA.out.trans gk))
 clear gk HC GA
 have ga:Nw y12 (y12.alloc (.cells #[.int .i64 2,.int .i64 0,.int .i64 1,.int .i64 9,.int .i64 2,.int .i64 0] 40)):=(Nw.refl _).alloc _
 have HC:=hD0 (Yo (Yi (row:=Zi) (sz:=2) (fun _=>rfl) (l:=Z9a) (Z5 y12 (.cells #[.int .i64 2,.int .i64 0,.int .i64 1,.int .i64 9,.int .i64 2,.int .i64 0] 40)) 3) (by simp))
 have GA:=hD0 ga
 clear ga
 go_wp2_with fail
 refine HC.out.mono ?_
 rintro e y13 ⟨v13,rfl,hO,gk⟩
 have K13:=hD0 (K12.out.trans (GA.out.trans gk))
 have E13:=hD0 (E12.out.trans (GA.out.trans gk))
 rw[Z66] at hO
 have H13:=hD0 (Z9.at_ hO)
 clear hO
 clear gk HC GA
 have ga:Nw y13 (y13.alloc (.cells #[.int .i64 1,.int .i64 9,.int .i64 2,.int .i64 0] 40)):=(Nw.refl _).alloc _
 have HC:=hD0 (Vv _ _ [(1,9),(2,0)] (y13.alloc (.cells #[.int .i64 1,.int .i64 9,.int .i64 2,.int .i64 0] 40)) (by simp) (H13.out.nw ga) (Z54 y13 1 9 2 0))
 have GA:=hD0 ga
 clear ga
 go_wp2_with fail
 refine HC.out.mono ?_
 rintro e y14 ⟨rfl,gk⟩
 have K14:=hD0 (K13.out.trans (GA.out.trans gk))
 have E14:=hD0 (E13.out.trans (GA.out.trans gk))
 clear gk HC GA
 go_wp2_with fail
 go_ret
 exact⟨rfl,K14.out⟩
end Go.Proofs.Ytpmlaphjlghpmaa
