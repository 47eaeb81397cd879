/- Texts merged: WcQ, VbD, WoE, VaO, VaR, VaF, VaH -/
import Derived.Test.YtbnpnccpobkodaaVictimBreaksB11
import Derived.ChangeOld
import Derived.Below
import Derived.Deep.Slices
set_option linter.unusedVariables false
set_option maxRecDepth 100000
set_option maxHeartbeats 16000000
namespace Go.Proofs.Ytbnpnccpobkodaa
open Go.RowKit _root_.Go.Proofs.Try
def Z0f(w:World)(f:Value)(p:(Int × Int)→Bool):Prop:=∃(g:Nat) (lb:Array Value),f=.func (.func g) #[] lb∧(∀args w,(callFunc g args).run prog w=.ok (.enter g args) w)∧∀(R:Int × Int) (w1:World),Nw w w1→Calls prog g (#[egV R]++lb) w1 fun e w'=>e=.returned (.bool (p R))∧Nw w1 w'
def Z24:Value→Prop
 | .slice _ n c=>n≤c
 | _=>True
theorem Za.capE{w:World}{g0:Nat}{v:Value}{q:List (Int × Int)}(h:Za w g0 v q):Z24 v:=by
 rcases h.2 with⟨rfl,_⟩ | ⟨g',cap',cur,rfl,_,_,q4,_⟩
 ·exact Nat.le_refl _
 ·exact q4
theorem Za.atE{w:World}{g0:Nat}{v:Value}{q:List (Int × Int)}(h:Za w g0 v q){k:Nat}(hk:k<q.length):∃g cap,v=.slice (some ⟨g,0,none⟩) q.length cap∧g0≤g∧g<w.heap.size∧True:=by
 rcases V3 h with⟨_,e⟩ | ⟨g,cap,rfl⟩
 ·omega
 ·exact⟨g,cap,rfl,Ur h rfl,Uu h rfl,trivial⟩
theorem Z19{w:World}{g0 g cap n:Nat}{q:List (Int × Int)}(h:Za w g0 (.slice (some ⟨g,0,none⟩) n cap) q)(hn:n=q.length)(k:Nat)(hk:k<q.length)(j:Nat)(hj:j<2)(u:Value)(new:Int × Int)(e:(Zc q[k]).set j u=Zc new) :
  Za (w.setCell ⟨g,k*2+j,none⟩ u) g0 (.slice (some ⟨g,0,none⟩) n cap) (q.set k new):=by
 subst hn
 have h1:=(World.ownsRow.stored h (k*2+j) u).1
 unfold Za Y2
 rw[List.length_set,←Ui (row:=Zc) (sz:=2) (fun _=>rfl) q k hk j hj u new e]
 exact h1
theorem Vm{w:World}{g0 g cap n:Nat}{q:List (Int × Int)}(h:Za w g0 (.slice (some ⟨g,0,none⟩) n cap) q)(hn:n=q.length)(k:Nat)(hk:k<q.length)(j:Nat)(u:Value)(hu:(Zc q[k])[j]?=some u):w.cell? ⟨g,k*2+j,none⟩=some u:=by
 subst hn
 have hj:j<2:=by have:=(List.getElem?_eq_some_iff.1 hu).1;simpa [Zc] using this
 refine(World.ownsRow.cellAt h (k*2+j) (by omega)).trans ?_
 rw[Yc (sz:=2) (fun _=>rfl) q k j hk hj];exact hu
theorem Z18{w:World}{g0 g cap n:Nat}{q:List (Int × Int)}(h:Za w g0 (.slice (some ⟨g,0,none⟩) n cap) q)(hn:n=q.length)(j:Nat):w.frozen? ⟨g,j,none⟩=false:=by
 subst hn
 exact World.ownsRow.frozenAt h j
def Us(p:(Int × Int)→Bool):List (Int × Int)→Int
 | []=>-1
 | a::r=>if p a=true then 0 else if Us p r = -1 then -1 else Us p r+1
theorem Yy(p:(Int × Int)→Bool):∀q:List (Int × Int),(Us p q = -1∧∀a∈q,p a=false)∨∃k:Nat,Us p q=k∧∃h:k<q.length,p q[k]=true∧∀i (hi:i<q.length),i<k→p q[i]=false
 | []=>.inl ⟨rfl,by simp⟩
 | a::r=>by
  unfold Us
  cases e:p a with
  | true=>exact .inr ⟨0,rfl,by simp,e,fun i _ h=>by omega⟩
  | false =>
   rcases Yy p r with⟨h1,h2⟩ | ⟨k,h1,h2,h3,h4⟩
   ·rw[h1]
    refine .inl ⟨rfl,fun x hx=>?_⟩
    rcases List.mem_cons.1 hx with rfl | hx
    ·exact e
    ·exact h2 x hx
   ·rw[h1]
    refine .inr ⟨k+1,?_,by simpa using h2,h3,fun i hi hik=>?_⟩
    ·simp only[Bool.false_eq_true,if_false]
     rw[if_neg (by omega)];rfl
    ·cases i with
     | zero=>exact e
     | succ i=>exact h4 i (by simpa using hi) (by omega)
theorem Z47{p:(Int × Int)→Bool}{q:List (Int × Int)}{k:Nat}(hk:k<q.length)(h:p q[k]=true)(hb:∀i (hi:i<q.length),i<k→p q[i]=false):Us p q=k:=by
 rcases Yy p q with⟨_,h2⟩ | ⟨j,h1,h2,h3,h4⟩
 ·rw[h2 _ (gM0 hk)] at h;cases h
 ·rw[h1]
  rcases Nat.lt_trichotomy j k with g | g | g
  ·rw[hb j h2 g] at h3;cases h3
  ·rw[g]
  ·rw[h4 k hk g] at h;cases h
theorem Z39{p:(Int × Int)→Bool}{q:List (Int × Int)}(h:∀i (hi:i<q.length),p q[i]=false):Us p q = -1:=by
 rcases Yy p q with⟨h1,_⟩ | ⟨j,h1,h2,h3,_⟩
 ·exact h1
 ·rw[h j h2] at h3;cases h3
theorem Z5i(v f:Value)(p:(Int × Int)→Bool)(q:List (Int × Int))(w:World)(hl:q.length≤1000)(h:Zm w v q)(hf:Z0f w f p) :
  Calls prog 46 #[v,f] w fun e w'=>e=.returned (.int .i64 (Us p q))∧Nw w w':=by
 obtain⟨g,lb,rfl,eg,hT⟩:=hf
 have HT:=hD0 hT
 clear hT
 obtain⟨a,c,rfl,⟨rfl,_⟩ | ⟨b,o,rfl,hc⟩⟩:=h
 ·go_enter func46,ntmps46
  go_wp2
  refine wp_loop_rounds 1 ?_
  repeat (rw[rounds_succ];go_wp2)
  go_ret
  exact⟨rfl,Nw.refl _⟩
 ·have H:=hD0 hc
  clear hc
  obtain⟨V,hV⟩:∃V,Us p q=V:=⟨_,rfl⟩
  rw[hV]
  have HV:=hD0 hV
  clear hV
  go_enter func46,ntmps46
  go_wp2
  go_loopw [8] (fun i wr=>∃k:Nat,k≤q.length∧i=.int .i64 k∧(∀i (hi:i<q.length),i<k→p q[i]=false)∧Nw w wr) (fun i _=>q.length-(intOf i).toNat)
  case atStart=>exact⟨0,Nat.zero_le _,rfl,fun _ _ h=>by omega,Nw.refl _⟩
  case round =>
   obtain⟨k,hk,rfl,hF,hN⟩:=hrel
   by_cases hlt:k<q.length
   ·have hce:=(H.out.nw hN).cell k hlt
    obtain⟨R,hR⟩:∃R,q[k]=R:=⟨_,rfl⟩
    rw[hR] at hce
    have HC:=hD0 (HT.out R)
    have HS:=hD0 hR
    have HF:=hD0 hF
    have HN:=hD0 hN
    clear hR hF hN
    obtain⟨B,hB⟩:∃B,p R=B:=⟨_,rfl⟩
    rw[hB] at HC
    have HB:=hD0 hB
    clear hB
    obtain⟨b0,b1⟩:=R
    have e0:=hce 0 _ rfl
    have e1:=hce 1 _ rfl
    simp only[Nat.add_zero] at e0
    clear hce
    cases B
    case true =>
     go_wp2_with (go_at_fn g;refine(HC.out _ HN.out).mono ?_;rintro e w1 ⟨rfl,g1⟩)
     go_ret
     exact⟨by rw[←HV.out,Z47 hlt (by rw[HS.out];exact HB.out) HF.out];rfl,HN.out.trans g1⟩
    case false =>
     go_wp2_with (go_at_fn g;refine(HC.out _ HN.out).mono ?_;rintro e w1 ⟨rfl,g1⟩)
     go_roundw
     case rel =>
      refine⟨k+1,by omega,by go_num,fun i hi hik=>?_,HN.out.trans g1⟩
      by_cases q:i<k
      ·exact HF.out i hi q
      ·have:i=k:=by omega
       subst this
       rw[HS.out];exact HB.out
     case measure=>simp[intOf];omega
   ·have HF:=hD0 hF
    have HN:=hD0 hN
    clear hF hN
    go_wp2
    go_ret
    exact⟨by rw[←HV.out,Z39 fun i hi=>HF.out i hi (by omega)];rfl,HN.out⟩
abbrev ezQ:Value:=.agg #[.int .i64 0,.int .i64 0]
theorem Z28(w:World)(g o n c:Nat)(hn:0<n)(hc:∀j,j<n*2→(w.cell? ⟨g,o+j,none⟩).isSome=true)(hf:∀j,w.frozen? ⟨g,j,none⟩=false) :
  ∃vs,∀ty,(Builtin.clear_ #[22] ty #[.slice (some ⟨g,o,none⟩) n c]).run prog w=.ok (.tuple #[]) (w.setCells g o vs):=by
 obtain⟨m,rfl⟩:∃m,n=m+1:=⟨n-1,by omega⟩
 refine⟨(Builtin.zeroCells ezQ.cells (m+1)).toList,fun ty=>?_⟩
 have hlen:(Builtin.zeroCells ezQ.cells (m+1)).toList.length=(m+1)*2:=by simp[Builtin.zeroCells,Value.cells]
 have hst:=run_storeCells_cells (P:=prog) g o (Builtin.zeroCells ezQ.cells (m+1)).toList 0 w (by rw[hlen];simpa using hc) (by intro j _;exact hf _) (by
  intro v hv
  obtain⟨i,hi,rfl⟩:=List.getElem_of_mem hv
  simp only[Builtin.zeroCells,Array.toList_map,List.getElem_map]
  have h5:∀i:Nat,i<2→(ezQ.cells[i]!).oneCell'=true:=by decide
  exact h5 _ (Nat.mod_lt _ (by decide)))
 simp only[Nat.add_zero] at hst
 simp[Builtin.clear_,run_underlying underlying22,hst]
theorem Nw.rlsE{a b:World}(h:Nw a b):(∀k o,k<a.heap.size→b.cell? ⟨k,o,none⟩=a.cell? ⟨k,o,none⟩)∧(∀k o,k<a.heap.size→b.frozen? ⟨k,o,none⟩=a.frozen? ⟨k,o,none⟩):=⟨fun _ _ h1=>h.cell h1,fun _ _ h1=>h.froz h1⟩
theorem Z3b{w:World}{g0 g n cap:Nat}{l:List (Int × Int)}(h:Za w g0 (.slice (some ⟨g,0,none⟩) n cap) l)(hn:n=l.length)(j:Nat)(hj:j<l.length*2):(w.cell? ⟨g,j,none⟩).isSome=true:=by
 subst hn
 have e:w.cell? ⟨g,j,none⟩=(Z4 Zc l)[j]?:=World.ownsRow.cellAt h j hj
 rw[e,List.getElem?_eq_getElem (by rw[Yd (sz:=2) (fun _=>rfl)];exact hj)];rfl
theorem U7(g:Nat):∀(vs:List Value) (o:Nat) (w:World),Ze (fun k=>k=g) w (w.setCells g o vs)
 | [],_,w=>Ze.refl _ w
 | v::r,o,w=>by
  rw[World.setCells]
  exact(Y0 w ⟨g,o,none⟩ v).trans (U7 g r (o+1) _)
def Z2q(w:World)(g a:Nat)(s:Int × Int):World:=(w.setCell ⟨g,a*2,none⟩ (.int .i64 s.1)).setCell ⟨g,a*2+1,none⟩ (.int .i64 s.2)
theorem Z38{w:World}{g0 g n cap a:Nat}{R:List (Int × Int)}(h:Za w g0 (.slice (some ⟨g,0,none⟩) n cap) R)(hn:n=R.length)(ha:a<R.length)(s:Int × Int):Za (Z2q w g a s) g0 (.slice (some ⟨g,0,none⟩) n cap) (R.set a s):=by
 have l1:∀x:Int × Int,n=(R.set a x).length:=fun x=>by rw[List.length_set];exact hn
 have k1:∀x:Int × Int,a<(R.set a x).length:=fun x=>by rw[List.length_set];exact ha
 have h0:=Z19 h hn a ha 0 (by decide) (.int .i64 s.1) (s.1,R[a].2) rfl
 have h1:=Z19 h0 (l1 _) a (k1 _) 1 (by decide) (.int .i64 s.2) s (by rw[List.getElem_set_self];rfl)
 rw[List.set_set] at h1
 exact h1
theorem Z3a(w:World)(g a:Nat)(s:Int × Int):Ze (fun k=>k=g) w (Z2q w g a s):=by
 unfold Z2q
 exact((Ze.refl (fun k=>k=g) w).set (p:=⟨g,a*2,none⟩) (.inl rfl) _).set (p:=⟨g,a*2+1,none⟩) (.inl rfl) _
abbrev Yb(p:(Int × Int)→Bool)(l:List (Int × Int)):List (Int × Int):=l.filter fun s=>!p s
structure Z11(p:(Int × Int)→Bool)(w wr:World)(g0 g n cap a b:Nat)(l R:List (Int × Int)):Prop where
 ab:a<b
 bn:b≤l.length
 len:R.length=l.length
 front:R.take a=Yb p (l.take b)
 rest:R.drop b=l.drop b
 row:Za wr g0 (.slice (some ⟨g,0,none⟩) n cap) R
 tch:Ze (fun k=>k=g) w wr
theorem Z0l{α:Type}{l:List α}{b:Nat}(h:b<l.length):l.take (b+1)=l.take b++[l[b]]:=by
 rw[List.take_add_one,List.getElem?_eq_getElem h];rfl
theorem Z17{p:(Int × Int)→Bool}{L:List (Int × Int)}{s:Int × Int}(h:p s=true):Yb p (L++[s])=Yb p L:=by
 simp only[Yb,List.filter_append,List.filter_cons,h,Bool.not_true,Bool.false_eq_true,if_false,List.filter_nil,List.append_nil]
theorem Z5j{p:(Int × Int)→Bool}{L:List (Int × Int)}{s:Int × Int}(h:p s=false):Yb p (L++[s])=Yb p L++[s]:=by
 simp only[Yb,List.filter_append,List.filter_cons,h,Bool.not_false,if_true,List.filter_nil]
theorem Z37{α:Type}{R l:List α}{b:Nat}(h:R.drop b=l.drop b)(hb:b<l.length)(hR:R.length=l.length):∃hr:b<R.length,R[b]=l[b]:=by
 refine⟨by omega,?_⟩
 have:=congrArg (fun x=>x[0]?) h
 simp only[List.getElem?_drop,Nat.add_zero] at this
 rw[List.getElem?_eq_getElem hb,List.getElem?_eq_getElem (by omega)] at this
 exact Option.some.inj this
theorem Z04{α:Type}{R l:List α}{b:Nat}(h:R.drop b=l.drop b):R.drop (b+1)=l.drop (b+1):=by
 rw[←List.drop_drop,←List.drop_drop,h]
section
variable {p:(Int × Int)→Bool} {w wr wr':World} {g0 g n cap a b:Nat} {l R:List (Int × Int)}
theorem Z11.skip(h:Z11 p w wr g0 g n cap a b l R)(hb:b<l.length)(he:p l[b]=true)(g':Nw wr wr'):Z11 p w wr' g0 g n cap a (b+1) l R :=
 ⟨by have:=h.ab;omega,hb,h.len,by rw[h.front,Z0l hb,Z17 he],Z04 h.rest,Vh h.row g',h.tch.trans (Ze.nw g')⟩
theorem Z11.move(h:Z11 p w wr g0 g n cap a b l R)(hn:n=l.length)(hb:b<l.length)(he:p l[b]=false)(g':Nw wr wr'):Z11 p w (Z2q wr' g a l[b]) g0 g n cap (a+1) (b+1) l (R.set a l[b]):=by
 have hab:=h.ab
 have hR:=h.len
 have ha:a<R.length:=by omega
 refine⟨by omega,hb,by simp[hR],?_,?_,?_,?_⟩
 ·rw[Z0l (by simpa using ha),Z0l hb]
  have e1:(R.set a l[b]).take a=R.take a:=List.take_set_of_le (Nat.le_refl a)
  rw[e1,h.front,Z5j he]
  simp
 ·rw[List.drop_set_of_lt (by omega)];exact Z04 h.rest
 ·exact Z38 (Vh h.row g') (by omega) ha _
 ·exact(h.tch.trans (Ze.nw g')).trans (Z3a _ _ _ _)
end
theorem Ut{p:(Int × Int)→Bool}{l:List (Int × Int)}{j:Nat}(hj:j<l.length)(he:p l[j]=true)(hF:∀i (hi:i<l.length),i<j→p l[i]=false):l.take j=Yb p (l.take (j+1)):=by
 rw[Z0l hj,Z17 he]
 symm
 rw[Yb,List.filter_eq_self]
 intro s hs
 obtain⟨i,hi,rfl⟩:=List.getElem_of_mem hs
 simp at hi
 simp[hF i (by omega) (by omega)]
theorem Z16{p:(Int × Int)→Bool}{l:List (Int × Int)}(h:∀s∈l,p s=false):Yb p l=l:=by
 rw[Yb,List.filter_eq_self]
 intro s hs
 simp[h s hs]
theorem Z45(p:(Int × Int)→Bool)(f:Value)(g0:Nat)(v:Value)(l:List (Int × Int))(w:World)(hl:l.length≤1000)(h:Za w g0 v l)(hf:Z0f w f p)(hfr:∀w1,Ze (fun k=>v.ownBlock=some k) w w1→Z0f w1 f p) :
  Calls prog 33 #[v,f] w fun e w'=>∃v',e=.returned v'∧Zm w' v' (Yb p l)∧Z24 v'∧(∀b o n c,v'=.slice (some ⟨b,o,none⟩) n c→v.ownBlock=some b∨(Yb p l)=[])∧Ze (fun k=>v.ownBlock=some k) w w':=by
 have HI0:=Z5i v f p l w hl (Za.at_ h) hf
 have hf':=hf
 obtain⟨gf,lb,rfl,eg,_⟩:=hf'
 obtain⟨hfo,-⟩:True∧True:=⟨trivial,trivial⟩
 obtain⟨px,hpx⟩:∃px,Us p l=px:=⟨_,rfl⟩
 rw[hpx] at HI0
 have HI:=hD0 HI0
 clear HI0
 rcases Yy p l with⟨h1,h2⟩ | ⟨j,h1,hj,he,hF⟩
 ·obtain rfl:=hpx.symm.trans h1
  obtain⟨a,c,rfl⟩:=(Za.at_ h).form
  have HR:=hD0 h
  clear h hfr hf
  go_enter func33,ntmps33
  go_wp2_with (go_at_call 46;refine HI.out.mono ?_;rintro e w1 ⟨rfl,g1⟩)
  go_ret
  exact⟨_,rfl,by rw[Z16 h2];exact Za.at_ (Vh HR.out g1),Za.capE HR.out,fun b o n k e=>by
   rcases V3 HR.out with⟨e2,z⟩ | ⟨g,cap,e2⟩
   ·exact .inr (by rw[Z16 h2];exact List.length_eq_zero_iff.1 z)
   ·have e3:=e2.symm.trans e
    simp only[Value.slice.injEq,Option.some.injEq,Addr.mk.injEq] at e3
    refine .inl ?_
    rw[e2,←e3.1.1];rfl,Ze.nw g1⟩
 obtain rfl:=hpx.symm.trans h1
 obtain⟨g,cap,rfl,hg0,hgl,_⟩:=Za.atE h hj
 have hcap:=Za.capE h
 have hcap:l.length≤cap:=hcap
 have d0:((j:Int)==-1)=false:=by simp
 have HX:=hD0 (aI0 he hF)
 have HFr:=hD0 hfr
 have H:=hD0 h
 clear he hF hfr hf h
 go_enter func33,ntmps33
 go_wp2_with (go_at_call 46;refine HI.out.mono ?_;rintro e w1 ⟨rfl,g1⟩)
 have HD:Hid (Z11 p w w1 g0 g l.length cap j (j+1) l l):=hD0 ⟨by omega,hj,rfl,Ut hj HX.out.1 HX.out.2,rfl,Vh H.out g1,Ze.nw g1⟩
 clear HX H HI g1
 case _ =>
  go_loopw [5,6] (fun i k wr=>∃(a b:Nat) (R:List (Int × Int)),i=.int .i64 a∧k=.int .i64 b∧Z11 p w wr g0 g l.length cap a b l R) (fun _ k _=>l.length-(intOf k).toNat)
  case atStart=>exact⟨j,j+1,l,rfl,by go_num,HD.out⟩
  case round =>
   obtain⟨a,b,R,rfl,rfl,hD⟩:=hrel
   have hab:=hD.ab
   have hbn:=hD.bn
   by_cases hlt:b<l.length
   ·obtain⟨hrb,hRb⟩:=Z37 hD.rest hlt hD.len
    obtain⟨s,hs⟩:∃s,l[b]=s:=⟨_,rfl⟩
    rw[hs] at hRb
    have Z6:∀c u,(Zc s)[c]?=some u→wr.cell? ⟨g,b*2+c,none⟩=some u:=fun c u hu=>Vm hD.row hD.len.symm b hrb c u (by rw[hRb];exact hu)
    have c0:=Z6 0 _ rfl
    have c1:=Z6 1 _ rfl
    simp only[Nat.add_zero] at c0
    have hgl:=Uu hD.row rfl
    have hT:=HFr.out wr (hD.tch.mono fun i _ e=>by rw[e];rfl)
    obtain⟨gf',lb',eqf,_,hTT⟩:=hT
    simp only[Value.func.injEq,Fn.func.injEq,true_and] at eqf
    obtain⟨rfl,rfl⟩:=eqf
    have HE:=hD0 (hTT s)
    obtain⟨B,hB⟩:∃B,p s=B:=⟨_,rfl⟩
    rw[hB] at HE
    have HB:=hD0 (show p l[b]=B by rw[hs];exact hB)
    have HS:=hD0 hs
    have HR:=hD0 hD
    clear hB Z6 hs hRb hTT
    have g6:Nw wr (wr.alloc (.cells #[.int .i64 s.1,.int .i64 s.2] 29)):=(Nw.refl wr).alloc _
    have hq6:=hD0 (aI0 (Z6 (j:=0) (Z7 wr (.cells #[.int .i64 s.1,.int .i64 s.2] 29))) (Z6 (j:=1) (Z7 wr (.cells #[.int .i64 s.1,.int .i64 s.2] 29))))
    cases B
    case true =>
     clear hD
     go_wp2_with (go_at_fn gf;refine(HE.out _ g6).mono ?_;rintro e w1 ⟨rfl,g1⟩)
     go_roundw
     case rel=>exact⟨a,b+1,R,rfl,by go_num,HR.out.skip hlt HB.out (g6.trans g1)⟩
     case measure=>simp[intOf];omega
    case false =>
     have har:a<R.length:=by have:=hD.len;omega
     have k0:∀c,c<2→∃u,wr.cell? ⟨g,a*2+c,none⟩=some u:=fun c hc=>by
      have:c<(Zc R[a]).length:=hc
      exact⟨_,Vm hD.row hD.len.symm a har c _ (List.getElem?_eq_getElem this)⟩
     obtain⟨y0,a0⟩:=k0 0 (by omega)
     obtain⟨y1,a1⟩:=k0 1 (by omega)
     simp only[Nat.add_zero] at a0
     have fz:=fun c=>Z18 hD.row hD.len.symm c
     have z0:=fz (a*2)
     have z1:=fz (a*2+1)
     have hRl:=hD.len
     have hai:(a:Int)<(l.length:Int):=by omega
     clear k0 fz hD
     go_wp2_with (go_at_fn gf;refine(HE.out _ g6).mono ?_;rintro e w1 ⟨rfl,g1⟩;obtain⟨hc1,hf1⟩:=g1.rlsE)
     go_roundw
     case rel=>exact⟨a+1,b+1,_,by go_num,by go_num,by have:=HR.out.move rfl hlt HB.out (g6.trans g1);rw[HS.out] at this;exact this⟩
     case measure=>simp[intOf];omega
   ·have hbe:b=l.length:=by omega
    subst hbe
    have HR:=hD0 hD
    have hlen:=hD.len
    have hcc:∀q,q<(l.length-a)*2→(wr.cell? ⟨g,a*2+q,none⟩).isSome=true:=fun q hq=>Z3b hD.row hlen.symm (a*2+q) (by omega)
    obtain⟨vs,hvs⟩:=Z28 wr g (a*2) (l.length-a) (cap-a) (by omega) hcc (fun q=>Z18 hD.row hlen.symm q)
    have e1:((l.length:Int)-(a:Int)).toNat=l.length-a:=by omega
    have hne:¬cap=a:=by omega
    clear hD hcc
    go_wp2
    go_ret
    have hfr:=HR.out.front
    rw[List.take_length] at hfr
    have hpl:(Yb p l).length=a:=by rw[←hfr,List.length_take];omega
    have hT:=U7 g vs (a*2) wr
    refine⟨_,rfl,⟨_,cap,by rw[hpl];rfl,.inr ⟨g,0,rfl,lL0 (Uu HR.out.row rfl) hT.size,fun i hi c u hu=>?_⟩⟩,by show a≤cap;omega,fun b o n c e=>by
     injection e with e _ _
     injection e with e
     injection e with e _ _
     rw[←e];exact .inl rfl,(HR.out.tch.trans hT).mono fun i _ e=>by rw[e];rfl⟩
    have hc:c<2:=by have:=(List.getElem?_eq_some_iff.1 hu).1;simpa [Zc] using this
    rw[Nat.zero_add,World.cell?_setCells_out g vs _ wr _ (fun _ _=>.inl (show i*2+c<a*2 by omega))]
    have hiR:i<R.length:=by omega
    refine Vm HR.out.row hlen.symm i hiR c u ?_
    have hx:(Yb p l)[i]=R[i]:=by
     have:∀(M:List (Int × Int)) (e:R.take a=M) (h:i<M.length),M[i]=R[i]:=fun M e h=>by subst e;simp
     exact this _ hfr hi
    rw[←hx];exact hu
theorem Z0w(e:Int × Int){w:World}{B:Nat}{t:Int}(h:w.cell? ⟨B,0,none⟩=some (.int .i64 t)):Calls prog 35 #[egV e,.pointer (some ⟨B,0,none⟩)] w fun e' w'=>e'=.returned (.bool (decide (e.1=t) || decide (e.2=t)))∧Nw w w':=by
 obtain⟨a,b⟩:=e
 have g1:Nw w (w.alloc (.cells #[.int .i64 a,.int .i64 b] 29)):=(Nw.refl w).alloc _
 have hc:=g1.kp h
 have hal:=Z7 w (.cells #[.int .i64 a,.int .i64 b] 29)
 by_cases q:a=t
 ·have h1:(a==t)=true:=by simpa using q
  have e1:(decide (a=t) || decide (b=t))=true:=by simp[q]
  rw[e1]
  clear e1 q
  go_enter func35,ntmps35
  go_wp2
  go_ret
  exact⟨rfl,g1⟩
 ·have h1:(a==t)=false:=by simpa using q
  have e1:(decide (a=t) || decide (b=t))=(b==t):=by
   rw[decide_eq_false q,Bool.false_or]
   rfl
  rw[e1]
  clear e1
  go_enter func35,ntmps35
  go_wp2
  go_ret
  exact⟨rfl,g1⟩
theorem Z20{w:World}{B:Nat}{t:Int}(h:w.cell? ⟨B,0,none⟩=some (.int .i64 t)):Z0f w (.func (.func 35) #[] #[.pointer (some ⟨B,0,none⟩)]) (fun e=>decide (e.1=t) || decide (e.2=t)):=by
 refine⟨35,_,rfl,enters_of func35 (by kernel_rfl) rfl,fun x w1 g=>?_⟩
 simp only[List.append_toArray,List.cons_append,List.nil_append]
 exact Z0w x (g.kp h)
theorem Z4g(l:List (Int × Int))(t:Int):Yb (fun e=>decide (e.1=t) || decide (e.2=t)) l=Zh l t:=by
 unfold Yb Zh
 congr 1
 funext e
 simp
theorem Z0x{w:World}{v:Value}{l:List (Int × Int)}(h:Zm w v l)(hl:l.length≤1000)(t:Int) :
  Calls prog 20 #[v,.int .i64 t] w fun e w'=>∃v',e=.returned v'∧Zm w' v' (Zh l t)∧Z24 v'∧(∀b o n c,v'=.slice (some ⟨b,o,none⟩) n c→w.heap.size≤b∨Zh l t=[])∧Nw w w':=by
 have g1:Nw w (w.alloc (.cells #[.int .i64 t] 3)):=(Nw.refl w).alloc _
 have hal:=Z7 w (.cells #[.int .i64 t] 3)
 obtain⟨w1,hw1⟩:∃x,w.alloc (.cells #[.int .i64 t] 3)=x:=⟨_,rfl⟩
 rw[hw1] at g1 hal
 have HW1:=hD0 hw1
 obtain⟨B,hB⟩:∃B,w.heap.size=B:=⟨_,rfl⟩
 have HB:=hD0 hB
 rw[hB] at hal
 have HAL:=hD0 (aI0 hal g1)
 have HC:=hD0 (Z43 v l w1 (Nat.le_trans hl (by decide)) (h.nw g1))
 obtain⟨a,c,rfl⟩:=h.form
 clear h hw1 hB g1 hal
 go_enter func20,ntmps20
 go_upto_region 1 with fail
 rw[HW1.out,HB.out]
 go_wp2_with fail
 refine HC.out.mono ?_
 rintro e w2 ⟨v2,rfl,g2,hO⟩
 have hc2:=g2.kp (Z6 (j:=0) HAL.out.1)
 have hB2:B<w1.heap.size:=hlt HAL.out.1
 have HD:=hD0 (Z45 (fun e=>decide (e.1=t) || decide (e.2=t)) _ _ v2 l w2 hl hO (Z20 hc2) (fun w3 ht=>Z20 ((ht.cell (lL0 hB2 g2.sz) (fun e=>by
  have:=Ur hO e
  omega)).trans hc2)))
 have HG:=hD0 (aI0 (HAL.out.2.trans g2) (fun k (e:v2.ownBlock=some k)=>Nat.le_trans HAL.out.2.sz (Ur hO e)))
 clear g2 hO hc2 hB2 HC
 go_wp2_with fail
 refine HD.out.mono ?_
 rintro e w3 ⟨v3,rfl,h3,hcp,hnb,ht⟩
 rw[Z4g] at h3 hnb
 have HZ:=hD0 (aI0 h3 (aI0 hcp (aI0 (show ∀b o n c,v3=.slice (some ⟨b,o,none⟩) n c→w.heap.size≤b∨Zh l t=[] from fun b o n c e=>(hnb b o n c e).elim (fun q=>.inl (HG.out.2 b q)) .inr) (Zo HG.out.1 ht (fun i e=>HG.out.2 i e)))))
 clear h3 hcp ht hnb HD
 go_wp2
 go_ret
 exact⟨_,rfl,HZ.out.1,HZ.out.2.1,HZ.out.2.2.1,HZ.out.2.2.2⟩
theorem Z5f{l:List (Int × Int)}{c:List Int}{b:Bool}(h:Y1 l c b)(hF:∀e∈l,Z9 e.1∧Z9 e.2):∀x∈c,Z9 x:=by
 intro x hx
 obtain⟨i,hi,rfl⟩:=List.getElem_of_mem hx
 exact(hF _ (Yx h hi (Nat.lt_of_le_of_lt (Nat.zero_le _) hi))).1
theorem Z0d{w0:World}{v va:Value}{l ages:List (Int × Int)}(h:Zm w0 v l)(hl:l.length≤900)(hF:∀e∈l,Z9 e.1∧Z9 e.2)(ha:Zm w0 va ages)(hal:ages.length≤1000)(hfa:∀e∈ages,Z9 e.1) :
  Calls prog 7 #[v,va] w0 fun e w'=>∃v' vs,e=.returned v'∧InO w' w0.heap.size v' vs∧Vic ages l vs∧Nw w0 w':=by
 have HBy:=hD0 (Z34 ha hal hfa)
 have HB:=hD0 (aI0 hl (aI0 hF h))
 obtain⟨la,lc,rfl,_⟩:=h
 obtain⟨ga,gc,rfl,_⟩:=ha
 clear hF hfa
 go_enter func7,ntmps7
 go_wp2_with fail
 refine HBy.out.mono ?_
 rintro e w1 ⟨f,rfl,hC,g1⟩
 have HCm:=hD0 (fun(z:World) (g:Nw w1 z) (v:Value) (c:List Int) (hn:Z3u z v c) (hcl:c.length≤200000) (hcf:∀x∈c,Z9 x)=>Z0n hn (hC.nw g) hcl hcf)
 obtain⟨kf,lb,rfl,_⟩:=hC
 have HG1:=hD0 g1
 have H0:=hD0 (show VcI w1 ages l l [] (.slice la l.length lc) (.slice none 0 0) w1 from⟨HB.out.2.2.nw g1,World.ownsRow_nil _ _ _ _,fun b o n c _=>.inl (fun e=>nomatch e),Nw.refl _,fun e he=>he,by rw[Z3j];exact Nat.le_refl _,fun vs' q=>q⟩)
 clear g1 HBy
 go_wp2_with fail
 go_loopw [0,6] (fun v0 v6 wr=>∃(k:Nat) (l':List (Int × Int)) (vs:List Int) (a0:Option Addr) (c0:Nat) (a5:Option Addr) (b5 c5:Nat),v0=.slice a0 k c0∧v6=.slice a5 b5 c5∧Hid (VcI w1 ages l l' vs (.slice a0 k c0) (.slice a5 b5 c5) wr∧l'.length=k)) (fun v0 _ _=>Z6r v0)
 case atStart=>exact⟨_,l,[],_,_,_,_,_,rfl,rfl,hD0 ⟨H0.out,rfl⟩⟩
 case round =>
  clear H0
  obtain⟨k,l',vs,a0,c0,a5,b5,c5,rfl,rfl,HI⟩:=hrel
  have hl':l'.length≤900:=by have:=HI.out.1.len;have:=HB.out.1;omega
  have HL:=hD0 hl'
  have HFi:=hD0 (fun(e:Int × Int) (he:e∈l')=>HB.out.2.1 e (HI.out.1.sub e he))
  have HC:=hD0 (Z36 HI.out.1.at_ (Nat.le_trans HL.out (by decide)) HFi.out)
  clear hl'
  go_wp2_with fail
  refine HC.out.mono ?_
  rintro e w2 ⟨v2,c,is,rfl,hI2,hP,g2⟩
  have HG2:=hD0 g2
  have HP:=hD0 hP
  have HI2:=hD0 hI2
  have hcl:c.length≤200000:=by
   have:=Z14 hP
   have:=HL.out
   omega
  have HGr:=hD0 (HCm.out w2 (HI.out.1.nw.trans HG2.out) v2 c hI2.nm hcl (Z5f hP HFi.out))
  obtain⟨va2,vc2,rfl,_⟩:=hI2.box
  clear g2 HC hI2 hcl
  cases is with
  | false =>
   have hc:=hP.2.1 rfl
   subst hc
   have HGr:=hD0 (show Calls prog 19 #[.slice va2 ([]:List Int).length vc2,.func (.func kf) #[] lb] w2 fun e w'=>e=.returned (.tuple #[.int .i64 0,.bool false])∧Nw w2 w' from HGr.out)
   have HR:=hD0 (show ∀z,Nw w2 z→InO z w0.heap.size (.slice a5 b5 c5) vs∧Vic ages l vs∧Nw w0 z from fun z g=>⟨Z2f (Vh HI.out.1.own (HG2.out.trans g)) (fun b e=>Nat.le_trans HG1.out.sz (Ur HI.out.1.own e)),by
    have:=HI.out.1.vic [] (.done HP.out)
    rwa [List.append_nil] at this,HG1.out.trans (HI.out.1.nw.trans (HG2.out.trans g))⟩)
   clear hP HI HI2
   go_wp2_with fail
   refine HGr.out.mono ?_
   rintro e w3 ⟨rfl,g3⟩
   have HR3:=hD0 (HR.out w3 g3)
   clear g3 HR HGr
   go_wp2_with fail
   go_ret
   exact⟨_,vs,by rfl,HR3.out.1,HR3.out.2.1,HR3.out.2.2⟩
  | true =>
   obtain⟨a,r,hc,_⟩:=hP.2.2 rfl
   subst hc
   have HGr:=hD0 (show Calls prog 19 #[.slice va2 (a::r).length vc2,.func (.func kf) #[] lb] w2 fun e w'=>e=.returned (.tuple #[.int .i64 (Zu ages a r),.bool true])∧Nw w2 w' from HGr.out)
   obtain⟨q,hq⟩:∃q,Zu ages a r=q:=⟨_,rfl⟩
   have HQ:=hD0 hq
   rw[hq] at HGr
   clear hP hq
   go_wp2_with fail
   refine HGr.out.mono ?_
   rintro e w3 ⟨rfl,g3⟩
   obtain⟨gb,cc,w6,hr6,hO6,hE6,hb6,hN6⟩:=HI.out.1.push (Nat.le_trans HB.out.1 (by decide)) q (HG2.out.trans g3)
   obtain⟨n5,hn5⟩:∃n,vs.length+1=n:=⟨_,rfl⟩
   rw[hn5] at hr6 hO6
   have HR6:=hD0 hr6
   have H6:=hD0 (aI0 hO6 (aI0 hE6 (aI0 hb6 hN6)))
   have hb5:b5=vs.length:=by
    obtain⟨_,_,e,_⟩:=(Y2.is HI.out.1.own).box
    simp only[Value.slice.injEq] at e
    exact e.2.1
   have HW:=hD0 (Z0x hE6 (Nat.le_trans HL.out (by decide)) q)
   clear g3 hr6 hO6 hE6 hb6 hN6 HGr hb5 hn5
   go_wp2_with (at_builtin;refine Zb (by rfl) (.tmp 27) (.tmp 29) 25 rfl _ _ _ _ rfl rfl HR6.out ?_)
   refine HW.out.mono ?_
   rintro e w7 ⟨v7,rfl,hE7,_,hnb,g7⟩
   have hE7':=hE7
   obtain⟨a7,c7,he7,_⟩:=hE7
   have HV:=hD0 (show VcI w1 ages l (Zh l' q) (vs++[q]) v7 (.slice (some ⟨gb,0,none⟩) n5 cc) w7∧(Zh l' q).length<l'.length from by
    have hd:(Zh l' q).length<l'.length:=Z03 HP.out (by rw[←HQ.out];exact(Ya ages a r).1)
    refine⟨⟨hE7',Vh H6.out.1 g7,fun b o n c e=>?_,H6.out.2.2.2.trans g7,fun e he=>HI.out.1.sub e (Z02.1 he).1,?_,fun vs' hv=>?_⟩,hd⟩
    ·rcases hnb b o n c e with k | k
     ·refine .inl (fun k2=>?_)
      have k3:gb=b:=Option.some.inj k2
      have:=H6.out.2.2.1
      omega
     ·exact .inr k
    ·have:=HI.out.1.len
     rw[List.length_append,List.length_singleton]
     omega
    ·rw[List.append_assoc]
     refine HI.out.1.vic _ ?_
     have:=Vic.step (ages:=ages) HP.out (vs:=vs') (by rw[HQ.out];exact hv)
     rw[HQ.out] at this
     exact this)
   have HM:=hD0 (show(Zh l' q).length<k from by rw[←HI.out.2];exact HV.out.2)
   subst he7
   clear hE7' hnb g7 HW HI H6 HP HQ HI2
   go_wp2_with fail
   exact⟨⟨_,Zh l' q,vs++[q],_,_,_,_,_,rfl,rfl,hD0 ⟨HV.out.1,rfl⟩⟩,HM.out⟩
section
open Go.ChangeShapes Go.WideShapes Go.ChangeAt Go.RowKit
theorem Z0m{n:Int}(h:(Lit.int .i64 n).wf=true):Z9 n:=by
 simp[Lit.wf,IntKind.min,IntKind.max,IntKind.signed,IntKind.bits] at h
 unfold Z9
 omega
structure EgIn(w:World)(a:Option Addr)(len cap:Nat)(l:List (Int × Int)):Prop where
 hl:l.length=len
 rd:Zm w (.slice a len cap) l
 hc:len≤cap
 fit:∀e∈l,Z9 e.1∧Z9 e.2
theorem open_edges{H:Type}{enc:TypeId × Value→H}{W:World}{base fuel:Nat}{held:Bool}{a:Option Addr}{len cap:Nat}{x:DataW H × List MemPlace}(h:DataW.trod enc prog W base (fun _=>true) held fuel 22 (Value.slice a len cap).cells.toList=some x) :
  ∃l,EgIn W a len cap l:=by
 rcases Deep.open_slice underlying22 h with h0 | ⟨ad,len',cap',m,n,D,Pl,hcs,hb,hl,hm,hmm,_,hx⟩
 ·have h1:=h0.1
  simp[Value.cells] at h1
  obtain⟨rfl,rfl,rfl⟩:=h1
  exact⟨[],rfl,Rd.nil W,Nat.le_refl _,by simp⟩
 ·simp[Value.cells] at hcs
  obtain⟨rfl,rfl,rfl⟩:=hcs
  simp only[if_true] at hmm
  subst hmm
  have ce:prog.cellsOf 29=2:=by kernel_rfl
  have ci:prog.cellsOf 3=1:=by kernel_rfl
  have each:∀i,i<m→∃q:Int × Int,W.cell? (ad.add (i*2))=some (.int .i64 q.1)∧W.cell? (ad.add (i*2+1))=some (.int .i64 q.2)∧Z9 q.1∧Z9 q.2:=by
   intro i hi
   obtain⟨cs',h1,h2⟩:=hx i hi
   rw[ce] at h1
   obtain⟨_,hlen,Z6⟩:=World.cells?_some h1
   obtain⟨xs,k,hk,hxy,_,hxl,hf⟩:=DataW.trod_struct underlying29 h2
   match xs,hxl,cs',hlen with
   | [y0,y1],_,[v0,v1],_ =>
    have g0:=hf 0 _ rfl
    have g1:=hf 1 _ rfl
    simp[ci] at g0 g1
    obtain⟨n0,e0,_,u0⟩:=DataW.trod_int underlying3 g0
    obtain⟨n1,e1,_,u1⟩:=DataW.trod_int underlying3 g1
    simp only[List.cons.injEq,and_true] at e0 e1
    subst e0 e1
    have c0:=Z6 0 (by omega)
    have c1:=Z6 1 (by omega)
    rw[Deep.add_add] at c0 c1
    exact⟨(n0,n1),by simpa using c0,by simpa using c1,Z0m u0,Z0m u1⟩
  obtain⟨q,hq⟩:=Deep.choose_lt each
  have hL:((List.range len).map q).length=len:=by simp
  refine⟨(List.range len).map q,hL,?_,hl,fun e he=>?_⟩
  ·by_cases h0:len=0
   ·subst h0
    exact⟨some ad,m,rfl,.inl ⟨rfl,fun e=>by cases e⟩⟩
   ·obtain⟨b,o,spot⟩:=ad
    have hs:spot=none:=by simpa [Addr.add] using World.cell?_spot (hq 0 (by omega)).1
    subst hs
    refine⟨_,m,by rw[hL],.inr ⟨b,o,rfl,⟨World.block_lt_of_cell? _ _ (hq 0 (by omega)).1,fun i hi c u hu=>?_⟩⟩⟩
    rw[hL] at hi
    obtain⟨q0,q1,_⟩:=hq i (by omega)
    simp only[List.getElem_map,List.getElem_range] at hu
    rw[Addr.add_lit] at q0 q1
    match c,hu with
    | 0,hu=>simp[Zc] at hu;subst hu;simpa using q0
    | 1,hu=>simp[Zc] at hu;subst hu;simpa [Nat.add_assoc] using q1
  ·obtain⟨i,hi,rfl⟩:=List.mem_map.1 he
   exact(hq i (by have:=List.mem_range.1 hi;omega)).2.2
end
section
open Go.ChangeShapes Go.WideShapes Go.ChangeAt Go.RowKit
structure AgIn(w:World)(a:Option Addr)(len cap:Nat)(l:List (Int × Int)):Prop where
 hl:l.length=len
 rd:Zm w (.slice a len cap) l
 hc:len≤cap
 fit:∀e∈l,Z9 e.1∧Z9 e.2
theorem open_ages{H:Type}{enc:TypeId × Value→H}{W:World}{base fuel:Nat}{held:Bool}{a:Option Addr}{len cap:Nat}{x:DataW H × List MemPlace}(h:DataW.trod enc prog W base (fun _=>true) held fuel 23 (Value.slice a len cap).cells.toList=some x) :
  ∃l,AgIn W a len cap l:=by
 rcases Deep.open_slice underlying23 h with h0 | ⟨ad,len',cap',m,n,D,Pl,hcs,hb,hl,hm,hmm,_,hx⟩
 ·have h1:=h0.1
  simp[Value.cells] at h1
  obtain⟨rfl,rfl,rfl⟩:=h1
  exact⟨[],rfl,Rd.nil W,Nat.le_refl _,by simp⟩
 ·simp[Value.cells] at hcs
  obtain⟨rfl,rfl,rfl⟩:=hcs
  simp only[if_true] at hmm
  subst hmm
  have ce:prog.cellsOf 43=2:=by kernel_rfl
  have ci:prog.cellsOf 3=1:=by kernel_rfl
  have ci64:prog.cellsOf 2=1:=by kernel_rfl
  have each:∀i,i<m→∃q:Int × Int,W.cell? (ad.add (i*2))=some (.int .i64 q.1)∧W.cell? (ad.add (i*2+1))=some (.int .i64 q.2)∧Z9 q.1∧Z9 q.2:=by
   intro i hi
   obtain⟨cs',h1,h2⟩:=hx i hi
   rw[ce] at h1
   obtain⟨_,hlen,Z6⟩:=World.cells?_some h1
   obtain⟨xs,k,hk,hxy,_,hxl,hf⟩:=DataW.trod_struct underlying43 h2
   match xs,hxl,cs',hlen with
   | [y0,y1],_,[v0,v1],_ =>
    have g0:=hf 0 _ rfl
    have g1:=hf 1 _ rfl
    simp[ci,ci64] at g0 g1
    obtain⟨n0,e0,_,u0⟩:=DataW.trod_int underlying3 g0
    obtain⟨n1,e1,_,u1⟩:=DataW.trod_int underlying2 g1
    simp only[List.cons.injEq,and_true] at e0 e1
    subst e0 e1
    have c0:=Z6 0 (by omega)
    have c1:=Z6 1 (by omega)
    rw[Deep.add_add] at c0 c1
    exact⟨(n0,n1),by simpa using c0,by simpa using c1,Z0m u0,Z0m u1⟩
  obtain⟨q,hq⟩:=Deep.choose_lt each
  have hL:((List.range len).map q).length=len:=by simp
  refine⟨(List.range len).map q,hL,?_,hl,fun e he=>?_⟩
  ·by_cases h0:len=0
   ·subst h0
    exact⟨some ad,m,rfl,.inl ⟨rfl,fun e=>by cases e⟩⟩
   ·obtain⟨b,o,spot⟩:=ad
    have hs:spot=none:=by simpa [Addr.add] using World.cell?_spot (hq 0 (by omega)).1
    subst hs
    refine⟨_,m,by rw[hL],.inr ⟨b,o,rfl,⟨World.block_lt_of_cell? _ _ (hq 0 (by omega)).1,fun i hi c u hu=>?_⟩⟩⟩
    rw[hL] at hi
    obtain⟨q0,q1,_⟩:=hq i (by omega)
    simp only[List.getElem_map,List.getElem_range] at hu
    rw[Addr.add_lit] at q0 q1
    match c,hu with
    | 0,hu=>simp[Zc] at hu;subst hu;simpa using q0
    | 1,hu=>simp[Zc] at hu;subst hu;simpa [Nat.add_assoc] using q1
  ·obtain⟨i,hi,rfl⟩:=List.mem_map.1 he
   exact(hq i (by have:=List.mem_range.1 hi;omega)).2.2
structure Z85(w:World)(a:Option Addr)(len cap:Nat)(l:List Int):Prop where
 hl:l.length=len
 rd:Z3u w (.slice a len cap) l
 hc:len≤cap
 fit:∀e∈l,Z9 e
structure Z81(w:World)(a:Option Addr)(len cap:Nat)(l:List Int):Prop where
 hl:l.length=len
 rd:Z3u w (.slice a len cap) l
 hc:len≤cap
 fit:∀e∈l,Z9 e
end
structure Z6x(l:List (Int × Int))(n:Nat):Prop where
 pos:0<n
 low:n≤12
 has:∀i:Nat,i<n→((i:Int),(((i+1)%n:Nat):Int))∈l
 only:∀x y,(x,y)∈l→(∃i:Nat,i<n∧x=i∧y=((i+1)%n:Nat))∨(x=100∧∃j:Nat,j<n∧y=j)
section
variable {l:List (Int × Int)} {n:Nat} (h:Z6x l n)
include h
end
abbrev vxE:List (Int × Int):=[(1,2),(2,1)]
abbrev vxA:List (Int × Int):=[(1,5),(2,3)]
theorem Z62:Y1 vxE [1,2] true:=by
 have m12:((1:Int),(2:Int))∈vxE:=by simp
 have m21:((2:Int),(1:Int))∈vxE:=by simp
 have r11:Yf vxE 1 1:=.tail (.single m12) m21
 have f21:V1 vxE 2 1 1:=⟨.one m21,fun m w=>Yl w⟩
 refine⟨⟨fun _=>⟨1,r11⟩,fun _=>rfl⟩,(fun h=>nomatch h),fun _=>⟨1,[2],rfl,r11,fun v r=>?_,⟨.step m12 (.one m21),fun m w=>?_⟩,.step m12 f21 (fun y hy _=>?_) (.last m21)⟩⟩
 ·obtain⟨y,hy⟩:=Yo r
  simp at hy
  omega
 ·have:=Yl w
  cases w with
  | one k=>simp at k
  | step _ k=>have:=Yl k;simp only[List.length_cons,List.length_nil];omega
 ·simp at hy
  show(2:Int)≤y
  omega
theorem Z53:Y1 [] [] false:=Z0h (fun⟨x,r⟩=>by
 obtain⟨y,hy⟩:=Yo r
 cases hy)
theorem Z6w:Vic vxA vxE [1]:=by
 have e:Zu vxA 1 [2]=1:=by kernel_rfl
 have d:Zh vxE 1=[]:=by kernel_rfl
 have:=Vic.step (ages:=vxA) Z62 (vs:=[]) (by rw[e,d];exact .done Z53)
 rwa [e] at this
theorem Z63:∀e∈vxE,Z9 e.1∧Z9 e.2:=by
 intro e he
 unfold Z9
 simp at he
 rcases he with rfl | rfl<;>simp
theorem Z61:∀e∈vxA,Z9 e.1:=by
 intro e he
 unfold Z9
 simp at he
 rcases he with rfl | rfl<;>simp
theorem Z77(w:World)(x:Int):IS (w.alloc (.cells #[.int .i64 x] 3)) (.slice (some ⟨w.heap.size,0,none⟩) 1 1) [x]:=by
 have h:=World.ownsRow_lit (base:=0) (size:=1) (e:=3) w #[.int .i64 x] 1 (Nat.zero_le _) (by unfold maxLen;omega) (by simp)
 unfold IS
 simpa using h
theorem Z3s(w:World):Calls prog 6 #[] w fun e w'=>e=.returned (.bool true)∧Nw w w':=by
 have hal:=Z7 w (.cells #[.int .i64 1,.int .i64 2,.int .i64 2,.int .i64 1] 29)
 have g1:Nw w (w.alloc (.cells #[.int .i64 1,.int .i64 2,.int .i64 2,.int .i64 1] 29)):=(Nw.refl w).alloc _
 obtain⟨w1,hw1⟩:∃x,w.alloc (.cells #[.int .i64 1,.int .i64 2,.int .i64 2,.int .i64 1] 29)=x:=⟨_,rfl⟩
 rw[hw1] at hal g1
 have hal2:=Z7 w1 (.cells #[.int .i64 1,.int .i64 5,.int .i64 2,.int .i64 3] 43)
 have g2:Nw w1 (w1.alloc (.cells #[.int .i64 1,.int .i64 5,.int .i64 2,.int .i64 3] 43)):=(Nw.refl w1).alloc _
 obtain⟨w2,hw2⟩:∃x,w1.alloc (.cells #[.int .i64 1,.int .i64 5,.int .i64 2,.int .i64 3] 43)=x:=⟨_,rfl⟩
 rw[hw2] at hal2 g2
 obtain⟨B1,hB1⟩:∃x,w.heap.size=x:=⟨_,rfl⟩
 obtain⟨B2,hB2⟩:∃x,w1.heap.size=x:=⟨_,rfl⟩
 have hs:w.heap.size+1=B2:=by rw[←hB2,←hw1];simp
 rw[hB1] at hal
 rw[hB2] at hal2
 have hE:Zm w2 (.slice (some ⟨B1,0,none⟩) 2 2) vxE:=Rd.nw (Z1t (row:=Zc) (sz:=2) (fun _=>rfl) (l:=vxE) hal 2) g2
 have hA:Zm w2 (.slice (some ⟨B2,0,none⟩) 2 2) vxA:=Z1t (row:=Zc) (sz:=2) (fun _=>rfl) (l:=vxA) hal2 2
 have HC:=hD0 (Z0d hE (by decide) Z63 hA (by decide) Z61)
 have HG:=hD0 (g1.trans g2)
 have HW1:=hD0 (aI0 hw1 (aI0 hw2 (aI0 hB1 (hB1▸hs))))
 clear hw1 hw2 hal hal2 g1 g2 hE hA hB1 hB2 hs
 go_enter func6,ntmps6
 go_wp2_with fail
 rw[HW1.out.1,HW1.out.2.1,HW1.out.2.2.1,HW1.out.2.2.2]
 refine HC.out.mono ?_
 rintro e w3 ⟨v3,vs,rfl,hIo,hV,g3⟩
 have hI:=Y2.is hIo
 clear hIo
 obtain rfl:=Z52 hV Z6w
 have g4:Nw w3 (w3.alloc (.cells #[.int .i64 1] 3)):=(Nw.refl w3).alloc _
 have HS:=hD0 (Z4n _ v3 (.slice (some ⟨w3.heap.size,0,none⟩) 1 1) [1] (hI.nw g4) (Z77 w3 1))
 have HG2:=hD0 ((HG.out.trans g3).trans g4)
 clear hI hV g3 g4 HC HW1
 go_wp2_with fail
 refine HS.out.mono ?_
 rintro e w5 ⟨rfl,g5⟩
 have HZ:=hD0 (HG2.out.trans g5)
 clear g5
 go_wp2
 go_ret
 exact⟨rfl,HZ.out⟩
theorem Z7j(A:List Int)(j:Nat)(hj:j<A.length)(x:Int):(decide (x∈A.take j) || (A[j]==x))=decide (x∈A.take (j+1)):=by
 rw[List.take_succ_eq_append_getElem hj,Bool.eq_iff_iff]
 simp only[Bool.or_eq_true,decide_eq_true_eq,beq_iff_eq,List.mem_append,List.mem_singleton]
 exact⟨fun h=>h.elim .inl fun e=>.inr e.symm,fun h=>h.elim .inl fun e=>.inr e.symm⟩
theorem Yz(l:List (Int × Int))(vs:List Int)(i:Nat):(Y7 l vs i).length≤l.length:=by
 induction i with
 | zero=>exact Nat.le_refl _
 | succ i ih =>
  by_cases hi:i<vs.length
  ·rw[V4 hi]
   exact Nat.le_trans (List.length_filter_le _ _) ih
  ·have e1:Y7 l vs (i+1)=Y7 l vs i:=by
    unfold Y7
    rw[List.take_of_length_le (by omega),List.take_of_length_le (by omega)]
   rw[e1];exact ih
theorem Z5m{ages:List (Int × Int)}{c:List Int}{v x:Int}(h:Z32 ages c v)(hx:x∈c):decide (Yh ages v<Yh ages x)=false:=by
 rw[decide_eq_false_iff_not]
 exact fun q=>h.2 x hx (.inl q)
theorem Z22(a0:Option Addr)(len0 cap0:Nat)(l:List (Int × Int))(a1:Option Addr)(len1 cap1:Nat)(ages:List (Int × Int))(W:World)(h:EgIn W a0 len0 cap0 l)(ha:AgIn W a1 len1 cap1 ages) :
  Calls prog 3 #[.slice a0 len0 cap0,.slice a1 len1 cap1] W fun e W'=>e=.returned (.bool true)∧Nw W W':=by
 have HL:=hD0 (Z3s W)
 have HE:=hD0 h
 have HA:=hD0 ha
 clear ha h
 by_cases h0:30<len0
 ·have d:decide ((30:Int)<(len0:Int))=true:=by rw[decide_eq_true_iff];omega
  have d2:decide (30<len0)=true:=by simpa using h0
  clear h0
  go_enter func3,ntmps3
  go_wp2_with fail
  refine HL.out.mono ?_
  rintro e w1 ⟨rfl,g1⟩
  have HG:=hD0 g1
  clear g1
  go_wp2_with fail
  go_ret
  exact⟨rfl,HG.out⟩
 have d0:decide ((30:Int)<(len0:Int))=false:=by rw[decide_eq_false_iff_not];omega
 have d02:decide (30<len0)=false:=decide_eq_false h0
 by_cases h1:20<len1
 ·have d:decide ((20:Int)<(len1:Int))=true:=by rw[decide_eq_true_iff];omega
  have d2:decide (20<len1)=true:=by simpa using h1
  clear h1 h0
  go_enter func3,ntmps3
  go_wp2_with fail
  refine HL.out.mono ?_
  rintro e w1 ⟨rfl,g1⟩
  have HG:=hD0 g1
  clear g1
  go_wp2_with fail
  go_ret
  exact⟨rfl,HG.out⟩
 have d1:decide ((20:Int)<(len1:Int))=false:=by rw[decide_eq_false_iff_not];omega
 have d12:decide (20<len1)=false:=decide_eq_false h1
 have hl30:l.length≤30:=by rw[HE.out.hl];omega
 have hA20:ages.length≤1000:=by rw[HA.out.hl];omega
 have HB:=hD0 (aI0 hl30 hA20)
 have HVi:=hD0 (fun(z:World) (g:Nw W z)=>Z0d (HE.out.rd.nw g) (Nat.le_trans hl30 (by decide)) HE.out.fit (HA.out.rd.nw g) hA20 (fun e he=>(HA.out.fit e he).1))
 have HAg:=hD0 (fun(z:World) (g:Nw W z) (t:Int)=>Z4y (HA.out.rd.nw g) hA20 t)
 clear h0 h1 hl30 hA20
 go_enter func3,ntmps3
 go_wp2_with fail
 refine HL.out.mono ?_
 rintro e w1 ⟨rfl,g1⟩
 have HG1:=hD0 g1
 have HV1:=hD0 (HVi.out w1 g1)
 clear g1 HL HVi
 go_wp2_with fail
 refine HV1.out.mono ?_
 rintro e w2 ⟨v2,vs,rfl,hIo,hV2,g2⟩
 have hI2:=Y2.is hIo
 clear hIo
 obtain⟨va,vc,rfl,hvb⟩:=hI2.box
 have HV:=hD0 hV2
 have HVs:=hD0 hI2
 have HVb:=hD0 hvb
 have HG2:=hD0 (HG1.out.trans g2)
 have HO2:=hD0 (Z78 _ l w2 (Nat.le_trans HB.out.1 (by decide)) (HE.out.rd.nw (HG1.out.trans g2)))
 obtain⟨n,hn⟩:∃n,vs.length=n:=⟨_,rfl⟩
 have HN:=hD0 hn
 have hn30:n≤30:=by rw[←hn];exact Nat.le_trans (Z60 hV2) HB.out.1
 rw[hn]
 clear hI2 hV2 hvb g2 HV1 HG1 hn
 go_wp2_with fail
 refine HO2.out.mono ?_
 rintro e w3 ⟨v3,rfl,g3,hO3⟩
 obtain⟨ea,ec,rfl,_⟩:=Za.at_ hO3
 have H3:=hD0 (show Zm w3 (.slice ea l.length ec) (Y7 l vs 0)∧Nw w3 w3 from⟨Za.at_ hO3,Nw.refl _⟩)
 have HVs3:=hD0 (HVs.out.nw g3)
 have HG3:=hD0 (HG2.out.trans g3)
 rw[HN.out] at HVs3
 clear g3 hO3 HO2 HVs HG2
 go_wp2_with fail
 go_loopw [6,7] (fun v6 v7 wr=>∃(i:Nat) (a6:Option Addr) (b6 c6:Nat),v6=.slice a6 b6 c6∧v7=.int .i64 i∧i≤n∧Hid (Zm wr (.slice a6 b6 c6) (Y7 l vs i)∧Nw w3 wr)) (fun _ v7 _=>n-(intOf v7).toNat)
 case atStart=>exact⟨0,_,_,_,rfl,rfl,Nat.zero_le _,H3⟩
 case round =>
  clear H3
  obtain⟨i,a6,b6,c6,rfl,rfl,hin,HI⟩:=hrel
  by_cases hlt:i<n
  ·have hil:i<vs.length:=by rw[HN.out];exact hlt
   obtain⟨vg,rfl,_⟩:=HVb.out (by omega)
   have cq:=Uc HVs3.out hil
   obtain⟨q,hq⟩:∃q,vs[i]=q:=⟨_,rfl⟩
   rw[hq] at cq
   have HQ:=hD0 (show(∀z,Nw w3 z→z.cell? ⟨vg,i,none⟩=some (.int .i64 q)∧vg<z.heap.size)∧∃h:i<vs.length,vs[i]=q from⟨fun z g=>⟨g.kp cq,lL0 HVs3.out.glt g.sz⟩,hil,hq⟩)
   obtain⟨a,r,hP,hqc⟩:=Z4z HV.out i hil
   have HM:=hD0 (show Z32 ages (a::r) q from by rw[←hq,hqc];exact Ya ages a r)
   have HPc:=hD0 hP
   have HCy:=hD0 (Uh HI.out.1 (Nat.le_trans (Yz l vs i) (Nat.le_trans HB.out.1 (by decide))))
   have Y5:=Zp hlt
   have hw:=Zw i (i+1) (by omega) rfl
   obtain⟨i1,hi1⟩:∃m,i+1=m:=⟨_,rfl⟩
   have HI1:=hD0 (aI0 hi1 hlt)
   rw[hi1] at hw
   clear hi1 hil cq hq hqc hP hlt
   go_wp2_with fail
   refine HCy.out.mono ?_
   rintro e w4 ⟨v4,c4,b4,rfl,hI4,hP4,g4⟩
   obtain⟨rfl,rfl⟩:=Y9 hP4 HPc.out
   obtain⟨ca,cc,rfl,hcb⟩:=hI4.box
   obtain⟨cg,rfl,_⟩:=hcb (by simp)
   have hnc:(a::r).length≤30:=Nat.le_trans (Z14 hP4) (Nat.le_trans (Yz l vs i) HB.out.1)
   obtain⟨nc,hncc⟩:∃n,(a::r).length=n:=⟨_,rfl⟩
   have HNc:=hD0 hncc
   have HI4:=hD0 hI4
   have HG4:=hD0 (aI0 g4 (HI.out.2.trans g4))
   rw[hncc] at hnc ⊢
   clear hI4 hP4 g4 hcb HCy hncc
   go_wp2_with fail
   go_loopw [10,11] (fun v10 v11 wr=>∃(k:Nat) (b:Bool),v10=.bool b∧v11=.int .i64 k∧k≤nc∧Hid (b=decide (q∈(a::r).take k)∧Nw w4 wr)) (fun _ v11 _=>nc-(intOf v11).toNat)
   case atStart=>exact⟨0,false,rfl,rfl,Nat.zero_le _,hD0 ⟨by simp,Nw.refl _⟩⟩
   case round =>
    obtain⟨k,b,rfl,rfl,hk,HK⟩:=hrel
    by_cases hkl:k<nc
    ·have hkc:k<(a::r).length:=by rw[HNc.out];exact hkl
     have cy:=Uc (HI4.out.nw HK.out.2) hkc
     obtain⟨y,hy⟩:∃y,(a::r)[k]=y:=⟨_,rfl⟩
     rw[hy] at cy
     obtain⟨cq,hvg⟩:=HQ.out.1 wr (HG4.out.2.trans HK.out.2)
     have hcg:=(HI4.out.nw HK.out.2).glt
     have t1:∀z,Nw wr z→z.cell? ⟨cg,k,none⟩=some (.int .i64 y):=fun z g=>g.kp cy
     have t2:∀z,Nw wr z→z.cell? ⟨vg,i,none⟩=some (.int .i64 q):=fun z g=>g.kp cq
     have HT1:=hD0 t1
     have HT2:=hD0 t2
     have HBn:=hD0 (show(b || (y==q))=decide (q∈(a::r).take (k+1)) from by rw[HK.out.1,←hy];exact Z7j _ k hkc q)
     have HMx:=hD0 (Z5m HM.out (show y∈a::r from hy▸gM0 hkc))
     have hkl':=Zp hkl
     have hwk:=Zw k (k+1) (by omega) rfl
     obtain⟨k1,hk1⟩:∃m,k+1=m:=⟨_,rfl⟩
     have HK1:=hD0 (aI0 hk1 hkl)
     rw[hk1] at hwk HBn
     have HKn:=hD0 HK.out.2
     have HA1:=hD0 (fun(z:World) (g:Nw wr z)=>HAg.out z (HG3.out.trans (HG4.out.2.trans (HKn.out.trans g))) y)
     have HA2:=hD0 (fun(z:World) (g:Nw wr z)=>HAg.out z (HG3.out.trans (HG4.out.2.trans (HKn.out.trans g))) q)
     obtain⟨Ay,hAy⟩:∃x,Yh ages y=x:=⟨_,rfl⟩
     obtain⟨Aq,hAq⟩:∃x,Yh ages q=x:=⟨_,rfl⟩
     rw[hAy,hAq] at HMx
     rw[hAy] at HA1
     rw[hAq] at HA2
     clear hk1 hkc hy cy cq hkl HK hAy hAq
     cases b with
     | true =>
      have HB2:=hD0 (show true=decide (q∈(a::r).take k1) from HBn.out)
      clear HBn
      go_wp2_with fail
      refine Z8 [] (Nw wr) (by kernel_rfl) ?_
      change Z5 _ _ _ _ _ _ 13 #[false,false,false,false,false,false,false,false,false,false,false,false,false] _ wr.drew
      obtain⟨y4,hy4⟩:∃y,wr.drew=y:=⟨_,rfl⟩
      rw[hy4]
      have hS0:Nw wr y4:=by rw[←hy4];exact(Nw.refl wr).dr
      clear hy4
      refine Z0 0 rfl (by kernel_rfl) (by kernel_rfl) (by kernel_rfl) (fun v c a w h=>h) ?_
      (first | (refine⟨undef,Or.inr ⟨by rfl,rfl⟩,?_⟩) | (apply Exists.intro;refine⟨Or.inl ⟨by rfl,?_⟩,?_⟩;(intro x hx';go_simp;first | done | with_reducible rfl)))
      (try simp only[Act.put,List.getElem_toArray,List.getElem_cons_zero,List.getElem_cons_succ,List.setIfInBounds_toArray,List.set_cons_zero,List.set_cons_succ])
      refine Z0 1 rfl (by kernel_rfl) (by kernel_rfl) (by kernel_rfl) (fun v c a w h=>h) ?_
      (first | (refine⟨undef,Or.inr ⟨by rfl,rfl⟩,?_⟩) | (apply Exists.intro;refine⟨Or.inl ⟨by rfl,?_⟩,?_⟩;(intro x hx';go_simp;first | done | with_reducible rfl)))
      (try simp only[Act.put,List.getElem_toArray,List.getElem_cons_zero,List.getElem_cons_succ,List.setIfInBounds_toArray,List.set_cons_zero,List.set_cons_succ])
      refine Z0 2 rfl (by kernel_rfl) (by kernel_rfl) (by kernel_rfl) (fun v c a w h=>h) ?_
      (first | (refine⟨undef,Or.inr ⟨by rfl,rfl⟩,?_⟩) | (apply Exists.intro;refine⟨Or.inl ⟨by rfl,?_⟩,?_⟩;(intro x hx';go_simp;first | done | with_reducible rfl)))
      (try simp only[Act.put,List.getElem_toArray,List.getElem_cons_zero,List.getElem_cons_succ,List.setIfInBounds_toArray,List.set_cons_zero,List.set_cons_succ])
      refine Z0 3 rfl (by kernel_rfl) (by kernel_rfl) (by kernel_rfl) (fun v c a w h=>h) ?_
      (first | (refine⟨undef,Or.inr ⟨by rfl,rfl⟩,?_⟩) | (apply Exists.intro;refine⟨Or.inl ⟨by rfl,?_⟩,?_⟩;(intro x hx';go_simp;first | done | with_reducible rfl)))
      (try simp only[Act.put,List.getElem_toArray,List.getElem_cons_zero,List.getElem_cons_succ,List.setIfInBounds_toArray,List.set_cons_zero,List.set_cons_succ])
      refine Z0 4 rfl (by kernel_rfl) (by kernel_rfl) (by kernel_rfl) (fun v c a w h=>h) ?_
      (first | (refine⟨undef,Or.inr ⟨by rfl,rfl⟩,?_⟩) | (apply Exists.intro;refine⟨Or.inl ⟨by rfl,?_⟩,?_⟩;(intro x hx';go_simp;first | done | with_reducible rfl)))
      (try simp only[Act.put,List.getElem_toArray,List.getElem_cons_zero,List.getElem_cons_succ,List.setIfInBounds_toArray,List.set_cons_zero,List.set_cons_succ])
      refine Z1 5 rfl (by kernel_rfl) (by kernel_rfl) (by kernel_rfl) (by kernel_rfl) (fun v c a w h=>h) hS0 ?_
      (first | (refine⟨undef,Or.inr ⟨by rfl,rfl⟩,?_⟩) | (apply Exists.intro;refine⟨Or.inl ⟨by rfl,?_⟩,?_⟩;(intro x hx';go_simp;first | done | with_reducible rfl)))
      (try simp only[Act.put,List.getElem_toArray,List.getElem_cons_zero,List.getElem_cons_succ,List.setIfInBounds_toArray,List.set_cons_zero,List.set_cons_succ])
      refine Z0 6 rfl (by kernel_rfl) (by kernel_rfl) (by kernel_rfl) (fun v c a w h=>h) ?_
      (first | (refine⟨undef,Or.inr ⟨by rfl,rfl⟩,?_⟩) | (apply Exists.intro;refine⟨Or.inl ⟨by rfl,?_⟩,?_⟩;(intro x hx';go_simp;first | done | with_reducible rfl)))
      (try simp only[Act.put,List.getElem_toArray,List.getElem_cons_zero,List.getElem_cons_succ,List.setIfInBounds_toArray,List.set_cons_zero,List.set_cons_succ])
      refine Z0 7 rfl (by kernel_rfl) (by kernel_rfl) (by kernel_rfl) (fun v c a w h=>h) ?_
      (first | (refine⟨undef,Or.inr ⟨by rfl,rfl⟩,?_⟩) | (apply Exists.intro;refine⟨Or.inl ⟨by rfl,?_⟩,?_⟩;(intro x hx';go_simp;first | done | with_reducible rfl)))
      (try simp only[Act.put,List.getElem_toArray,List.getElem_cons_zero,List.getElem_cons_succ,List.setIfInBounds_toArray,List.set_cons_zero,List.set_cons_succ])
      refine Z0 8 rfl (by kernel_rfl) (by kernel_rfl) (by kernel_rfl) (fun v c a w h=>h) ?_
      (first | (refine⟨undef,Or.inr ⟨by rfl,rfl⟩,?_⟩) | (apply Exists.intro;refine⟨Or.inl ⟨by rfl,?_⟩,?_⟩;(intro x hx';go_simp;first | done | with_reducible rfl)))
      (try simp only[Act.put,List.getElem_toArray,List.getElem_cons_zero,List.getElem_cons_succ,List.setIfInBounds_toArray,List.set_cons_zero,List.set_cons_succ])
      refine Z1 9 rfl (by kernel_rfl) (by kernel_rfl) (by kernel_rfl) (by kernel_rfl) (fun v c a w h=>h) hS0 ?_
      (first | (refine⟨undef,Or.inr ⟨by rfl,rfl⟩,?_⟩) | (apply Exists.intro;refine⟨Or.inl ⟨by rfl,?_⟩,?_⟩;(intro x hx';go_simp;first | done | with_reducible rfl)))
      (try simp only[Act.put,List.getElem_toArray,List.getElem_cons_zero,List.getElem_cons_succ,List.setIfInBounds_toArray,List.set_cons_zero,List.set_cons_succ])
      refine Z0 10 rfl (by kernel_rfl) (by kernel_rfl) (by kernel_rfl) (fun v c a w h=>h) ?_
      (first | (refine⟨undef,Or.inr ⟨by rfl,rfl⟩,?_⟩) | (apply Exists.intro;refine⟨Or.inl ⟨by rfl,?_⟩,?_⟩;(intro x hx';go_simp;first | done | with_reducible rfl)))
      (try simp only[Act.put,List.getElem_toArray,List.getElem_cons_zero,List.getElem_cons_succ,List.setIfInBounds_toArray,List.set_cons_zero,List.set_cons_succ])
      refine Z0 11 rfl (by kernel_rfl) (by kernel_rfl) (by kernel_rfl) (fun v c a w h=>h) ?_
      (first | (refine⟨undef,Or.inr ⟨by rfl,rfl⟩,?_⟩) | (apply Exists.intro;refine⟨Or.inl ⟨by rfl,?_⟩,?_⟩;(intro x hx';go_simp;first | done | with_reducible rfl)))
      (try simp only[Act.put,List.getElem_toArray,List.getElem_cons_zero,List.getElem_cons_succ,List.setIfInBounds_toArray,List.set_cons_zero,List.set_cons_succ])
      refine Z0 12 rfl (by kernel_rfl) (by kernel_rfl) (by kernel_rfl) (fun v c a w h=>h) ?_
      (first | (refine⟨undef,Or.inr ⟨by rfl,rfl⟩,?_⟩) | (apply Exists.intro;refine⟨Or.inl ⟨by rfl,?_⟩,?_⟩;(intro x hx';go_simp;first | done | with_reducible rfl)))
      (try simp only[Act.put,List.getElem_toArray,List.getElem_cons_zero,List.getElem_cons_succ,List.setIfInBounds_toArray,List.set_cons_zero,List.set_cons_succ])
      refine Z3 (by kernel_rfl) ?_ _
      refine NoPanic.normal ?_
      (try simp only[Act.put,List.getElem_toArray,List.getElem_cons_zero,List.getElem_cons_succ,List.setIfInBounds_toArray,List.set_cons_zero,List.set_cons_succ])
      have HS4:=hD0 hS0
      clear hS0 t1 t2
      have q1:=HT1.out y4 HS4.out
      have q2:=HT2.out y4 HS4.out
      have hcg2:=lL0 hcg HS4.out.sz
      have hvg2:=lL0 hvg HS4.out.sz
      clear hcg hvg
      have HB1:=hD0 (fun(z:World) (g:Nw y4 z)=>HA1.out z (HS4.out.trans g))
      have HB3:=hD0 (fun(z:World) (g:Nw y4 z)=>HA2.out z (HS4.out.trans g))
      go_wp2_with fail
      have hmx:=HMx.out
      have hmx2:=of_decide_eq_false hmx
      refine Zj (fun z=>Nw y4 z) (by kernel_rfl) (by kernel_rfl) (Nw.refl _).dr ?_
      have e1:∀d:Wd (fun z=>Nw y4 z),d.w.cell? _=_:=fun d=>d.h.kp q1
      have e2:∀d:Wd (fun z=>Nw y4 z),d.w.cell? _=_:=fun d=>d.h.kp q2
      have hne:Nonempty (Wd (fun z=>Nw y4 z)):=⟨⟨_,Nw.refl y4⟩⟩
      repeat (first | go_big_quiet_step ((first | (with_reducible exact Ye (fun a b h g=>h.trans g) (HB1.out _ (Wd.h _))) | (with_reducible exact Ye (fun a b h g=>h.trans g) (HB3.out _ (Wd.h _))))) | quiet_step ((first | (with_reducible exact Ye (fun a b h g=>h.trans g) (HB1.out _ (Wd.h _))) | (with_reducible exact Ye (fun a b h g=>h.trans g) (HB3.out _ (Wd.h _))))))
      refine wpQuiet_nil ?_
      intro d
      have HZn:=hD0 (HKn.out.trans (HS4.out.trans d.h))
      clear hne e1 e2 q1 q2 hcg2 hvg2
      revert HZn
      generalize d.w=z3
      intro HZ
      clear d
      go_wp2_with fail
      exact⟨⟨k1,true,rfl,rfl,by rw[←HK1.out.1];exact HK1.out.2,hD0 ⟨HB2.out,HZ.out⟩⟩,by rw[←HK1.out.1];exact Zk HK1.out.2⟩
     | false =>
      obtain⟨b2,hb2⟩:∃b2,(y==q)=b2:=⟨_,rfl⟩
      have HB2:=hD0 (show b2=decide (q∈(a::r).take k1) from by rw[←HBn.out,hb2];rfl)
      clear HBn
      go_wp2_with fail
      refine Z8 [] (Nw wr) (by kernel_rfl) ?_
      change Z5 _ _ _ _ _ _ 13 #[false,false,false,false,false,false,false,false,false,false,false,false,false] _ wr.drew
      obtain⟨y4,hy4⟩:∃y,wr.drew=y:=⟨_,rfl⟩
      rw[hy4]
      have hS0:Nw wr y4:=by rw[←hy4];exact(Nw.refl wr).dr
      clear hy4
      refine Z0 0 rfl (by kernel_rfl) (by kernel_rfl) (by kernel_rfl) (fun v c a w h=>h) ?_
      (first | (refine⟨undef,Or.inr ⟨by rfl,rfl⟩,?_⟩) | (apply Exists.intro;refine⟨Or.inl ⟨by rfl,?_⟩,?_⟩;(intro x hx';go_simp;first | done | with_reducible rfl)))
      (try simp only[Act.put,List.getElem_toArray,List.getElem_cons_zero,List.getElem_cons_succ,List.setIfInBounds_toArray,List.set_cons_zero,List.set_cons_succ])
      refine Z0 1 rfl (by kernel_rfl) (by kernel_rfl) (by kernel_rfl) (fun v c a w h=>h) ?_
      (first | (refine⟨undef,Or.inr ⟨by rfl,rfl⟩,?_⟩) | (apply Exists.intro;refine⟨Or.inl ⟨by rfl,?_⟩,?_⟩;(intro x hx';go_simp;first | done | with_reducible rfl)))
      (try simp only[Act.put,List.getElem_toArray,List.getElem_cons_zero,List.getElem_cons_succ,List.setIfInBounds_toArray,List.set_cons_zero,List.set_cons_succ])
      refine Z0 2 rfl (by kernel_rfl) (by kernel_rfl) (by kernel_rfl) (fun v c a w h=>h) ?_
      (first | (refine⟨undef,Or.inr ⟨by rfl,rfl⟩,?_⟩) | (apply Exists.intro;refine⟨Or.inl ⟨by rfl,?_⟩,?_⟩;(intro x hx';go_simp;first | done | with_reducible rfl)))
      (try simp only[Act.put,List.getElem_toArray,List.getElem_cons_zero,List.getElem_cons_succ,List.setIfInBounds_toArray,List.set_cons_zero,List.set_cons_succ])
      refine Z0 3 rfl (by kernel_rfl) (by kernel_rfl) (by kernel_rfl) (fun v c a w h=>h) ?_
      (first | (refine⟨undef,Or.inr ⟨by rfl,rfl⟩,?_⟩) | (apply Exists.intro;refine⟨Or.inl ⟨by rfl,?_⟩,?_⟩;(intro x hx';go_simp;first | done | with_reducible rfl)))
      (try simp only[Act.put,List.getElem_toArray,List.getElem_cons_zero,List.getElem_cons_succ,List.setIfInBounds_toArray,List.set_cons_zero,List.set_cons_succ])
      refine Z0 4 rfl (by kernel_rfl) (by kernel_rfl) (by kernel_rfl) (fun v c a w h=>h) ?_
      (first | (refine⟨undef,Or.inr ⟨by rfl,rfl⟩,?_⟩) | (apply Exists.intro;refine⟨Or.inl ⟨by rfl,?_⟩,?_⟩;(intro x hx';go_simp;first | done | with_reducible rfl)))
      (try simp only[Act.put,List.getElem_toArray,List.getElem_cons_zero,List.getElem_cons_succ,List.setIfInBounds_toArray,List.set_cons_zero,List.set_cons_succ])
      refine Z1 5 rfl (by kernel_rfl) (by kernel_rfl) (by kernel_rfl) (by kernel_rfl) (fun v c a w h=>h) hS0 ?_
      (first | (refine⟨undef,Or.inr ⟨by rfl,rfl⟩,?_⟩) | (apply Exists.intro;refine⟨Or.inl ⟨by rfl,?_⟩,?_⟩;(intro x hx';go_simp;first | done | with_reducible rfl)))
      (try simp only[Act.put,List.getElem_toArray,List.getElem_cons_zero,List.getElem_cons_succ,List.setIfInBounds_toArray,List.set_cons_zero,List.set_cons_succ])
      refine Z0 6 rfl (by kernel_rfl) (by kernel_rfl) (by kernel_rfl) (fun v c a w h=>h) ?_
      (first | (refine⟨undef,Or.inr ⟨by rfl,rfl⟩,?_⟩) | (apply Exists.intro;refine⟨Or.inl ⟨by rfl,?_⟩,?_⟩;(intro x hx';go_simp;first | done | with_reducible rfl)))
      (try simp only[Act.put,List.getElem_toArray,List.getElem_cons_zero,List.getElem_cons_succ,List.setIfInBounds_toArray,List.set_cons_zero,List.set_cons_succ])
      refine Z0 7 rfl (by kernel_rfl) (by kernel_rfl) (by kernel_rfl) (fun v c a w h=>h) ?_
      (first | (refine⟨undef,Or.inr ⟨by rfl,rfl⟩,?_⟩) | (apply Exists.intro;refine⟨Or.inl ⟨by rfl,?_⟩,?_⟩;(intro x hx';go_simp;first | done | with_reducible rfl)))
      (try simp only[Act.put,List.getElem_toArray,List.getElem_cons_zero,List.getElem_cons_succ,List.setIfInBounds_toArray,List.set_cons_zero,List.set_cons_succ])
      refine Z0 8 rfl (by kernel_rfl) (by kernel_rfl) (by kernel_rfl) (fun v c a w h=>h) ?_
      (first | (refine⟨undef,Or.inr ⟨by rfl,rfl⟩,?_⟩) | (apply Exists.intro;refine⟨Or.inl ⟨by rfl,?_⟩,?_⟩;(intro x hx';go_simp;first | done | with_reducible rfl)))
      (try simp only[Act.put,List.getElem_toArray,List.getElem_cons_zero,List.getElem_cons_succ,List.setIfInBounds_toArray,List.set_cons_zero,List.set_cons_succ])
      refine Z1 9 rfl (by kernel_rfl) (by kernel_rfl) (by kernel_rfl) (by kernel_rfl) (fun v c a w h=>h) hS0 ?_
      (first | (refine⟨undef,Or.inr ⟨by rfl,rfl⟩,?_⟩) | (apply Exists.intro;refine⟨Or.inl ⟨by rfl,?_⟩,?_⟩;(intro x hx';go_simp;first | done | with_reducible rfl)))
      (try simp only[Act.put,List.getElem_toArray,List.getElem_cons_zero,List.getElem_cons_succ,List.setIfInBounds_toArray,List.set_cons_zero,List.set_cons_succ])
      refine Z0 10 rfl (by kernel_rfl) (by kernel_rfl) (by kernel_rfl) (fun v c a w h=>h) ?_
      (first | (refine⟨undef,Or.inr ⟨by rfl,rfl⟩,?_⟩) | (apply Exists.intro;refine⟨Or.inl ⟨by rfl,?_⟩,?_⟩;(intro x hx';go_simp;first | done | with_reducible rfl)))
      (try simp only[Act.put,List.getElem_toArray,List.getElem_cons_zero,List.getElem_cons_succ,List.setIfInBounds_toArray,List.set_cons_zero,List.set_cons_succ])
      refine Z0 11 rfl (by kernel_rfl) (by kernel_rfl) (by kernel_rfl) (fun v c a w h=>h) ?_
      (first | (refine⟨undef,Or.inr ⟨by rfl,rfl⟩,?_⟩) | (apply Exists.intro;refine⟨Or.inl ⟨by rfl,?_⟩,?_⟩;(intro x hx';go_simp;first | done | with_reducible rfl)))
      (try simp only[Act.put,List.getElem_toArray,List.getElem_cons_zero,List.getElem_cons_succ,List.setIfInBounds_toArray,List.set_cons_zero,List.set_cons_succ])
      refine Z0 12 rfl (by kernel_rfl) (by kernel_rfl) (by kernel_rfl) (fun v c a w h=>h) ?_
      (first | (refine⟨undef,Or.inr ⟨by rfl,rfl⟩,?_⟩) | (apply Exists.intro;refine⟨Or.inl ⟨by rfl,?_⟩,?_⟩;(intro x hx';go_simp;first | done | with_reducible rfl)))
      (try simp only[Act.put,List.getElem_toArray,List.getElem_cons_zero,List.getElem_cons_succ,List.setIfInBounds_toArray,List.set_cons_zero,List.set_cons_succ])
      refine Z3 (by kernel_rfl) ?_ _
      refine NoPanic.normal ?_
      (try simp only[Act.put,List.getElem_toArray,List.getElem_cons_zero,List.getElem_cons_succ,List.setIfInBounds_toArray,List.set_cons_zero,List.set_cons_succ])
      have HS4:=hD0 hS0
      clear hS0 t1 t2
      have q1:=HT1.out y4 HS4.out
      have q2:=HT2.out y4 HS4.out
      have hcg2:=lL0 hcg HS4.out.sz
      have hvg2:=lL0 hvg HS4.out.sz
      clear hcg hvg
      have HB1:=hD0 (fun(z:World) (g:Nw y4 z)=>HA1.out z (HS4.out.trans g))
      have HB3:=hD0 (fun(z:World) (g:Nw y4 z)=>HA2.out z (HS4.out.trans g))
      go_wp2_with fail
      have hmx:=HMx.out
      have hmx2:=of_decide_eq_false hmx
      refine Zj (fun z=>Nw y4 z) (by kernel_rfl) (by kernel_rfl) (Nw.refl _).dr ?_
      have e1:∀d:Wd (fun z=>Nw y4 z),d.w.cell? _=_:=fun d=>d.h.kp q1
      have e2:∀d:Wd (fun z=>Nw y4 z),d.w.cell? _=_:=fun d=>d.h.kp q2
      have hne:Nonempty (Wd (fun z=>Nw y4 z)):=⟨⟨_,Nw.refl y4⟩⟩
      repeat (first | go_big_quiet_step ((first | (with_reducible exact Ye (fun a b h g=>h.trans g) (HB1.out _ (Wd.h _))) | (with_reducible exact Ye (fun a b h g=>h.trans g) (HB3.out _ (Wd.h _))))) | quiet_step ((first | (with_reducible exact Ye (fun a b h g=>h.trans g) (HB1.out _ (Wd.h _))) | (with_reducible exact Ye (fun a b h g=>h.trans g) (HB3.out _ (Wd.h _))))))
      refine wpQuiet_nil ?_
      intro d
      have HZn:=hD0 (HKn.out.trans (HS4.out.trans d.h))
      clear hne e1 e2 q1 q2 hcg2 hvg2
      revert HZn
      generalize d.w=z3
      intro HZ
      clear d
      go_wp2_with fail
      exact⟨⟨k1,b2,rfl,rfl,by rw[←HK1.out.1];exact HK1.out.2,hD0 ⟨HB2.out,HZ.out⟩⟩,by rw[←HK1.out.1];exact Zk HK1.out.2⟩
    ·obtain rfl:k=nc:=Nat.le_antisymm hk (Nat.le_of_not_lt hkl)
     have hkl':¬k<k:=Nat.lt_irrefl k
     have hbt:b=true:=by
      rw[HK.out.1,List.take_of_length_le (by rw[HNc.out];exact Nat.le_refl _)]
      exact decide_eq_true HM.out.1
     subst hbt
     have HG5:=hD0 (aI0 (HG4.out.1.trans HK.out.2) (HG4.out.2.trans HK.out.2))
     clear hkl HK
     generalize wr=w5 at *
     go_wp2_with fail
     go_loopw [12] (fun v wr=>∃j:Nat,v=.int .i64 j∧j≤i∧Hid (Nw w5 wr)) (fun v _=>i-(intOf v).toNat)
     case atStart=>exact⟨0,rfl,Nat.zero_le _,hD0 (Nw.refl _)⟩
     case round =>
      obtain⟨j,rfl,hj,HJ⟩:=hrel
      obtain⟨cq,hvg⟩:=HQ.out.1 wr (HG5.out.2.trans HJ.out)
      by_cases hji:j<i
      ·obtain⟨hiv,hqv⟩:=HQ.out.2
       have hjv:j<vs.length:=Nat.lt_trans hji hiv
       have cp:=Uc (HVs3.out.nw (HG5.out.2.trans HJ.out)) hjv
       obtain⟨p,hp⟩:∃p,vs[j]=p:=⟨_,rfl⟩
       rw[hp] at cp
       have hpq:(p==q)=false:=by
        rw[beq_eq_false_iff_ne,←hp,←hqv]
        exact Z51 HV.out hiv hji
       have t1:∀z,Nw wr z→z.cell? ⟨vg,j,none⟩=some (.int .i64 p):=fun z g=>g.kp cp
       have t2:∀z,Nw wr z→z.cell? ⟨vg,i,none⟩=some (.int .i64 q):=fun z g=>g.kp cq
       have hji':=Zp hji
       have hjn:j<n:=by omega
       have hjn':=Zp hjn
       have hin2:i<n:=by rw[←HN.out];exact hiv
       have hwj:=Zw j (j+1) (by omega) rfl
       obtain⟨j1,hj1⟩:∃m,j+1=m:=⟨_,rfl⟩
       have HJ1:=hD0 (aI0 hj1 hji)
       rw[hj1] at hwj
       clear hj1 hjv hp cp cq hji hiv hqv
       go_wp2_with fail
       refine Z8 [] (Nw wr) (by kernel_rfl) ?_
       change Z5 _ _ _ _ _ _ 9 #[false,false,false,false,false,false,false,false,false] _ wr.drew
       obtain⟨y4,hy4⟩:∃y,wr.drew=y:=⟨_,rfl⟩
       rw[hy4]
       have hS0:Nw wr y4:=by rw[←hy4];exact(Nw.refl wr).dr
       clear hy4
       refine Z0 0 rfl (by kernel_rfl) (by kernel_rfl) (by kernel_rfl) (fun v c a w h=>h) ?_
       (first | (refine⟨undef,Or.inr ⟨by rfl,rfl⟩,?_⟩) | (apply Exists.intro;refine⟨Or.inl ⟨by rfl,?_⟩,?_⟩;(intro x hx';go_simp;first | done | with_reducible rfl)))
       (try simp only[Act.put,List.getElem_toArray,List.getElem_cons_zero,List.getElem_cons_succ,List.setIfInBounds_toArray,List.set_cons_zero,List.set_cons_succ])
       refine Z0 1 rfl (by kernel_rfl) (by kernel_rfl) (by kernel_rfl) (fun v c a w h=>h) ?_
       (first | (refine⟨undef,Or.inr ⟨by rfl,rfl⟩,?_⟩) | (apply Exists.intro;refine⟨Or.inl ⟨by rfl,?_⟩,?_⟩;(intro x hx';go_simp;first | done | with_reducible rfl)))
       (try simp only[Act.put,List.getElem_toArray,List.getElem_cons_zero,List.getElem_cons_succ,List.setIfInBounds_toArray,List.set_cons_zero,List.set_cons_succ])
       refine Z0 2 rfl (by kernel_rfl) (by kernel_rfl) (by kernel_rfl) (fun v c a w h=>h) ?_
       (first | (refine⟨undef,Or.inr ⟨by rfl,rfl⟩,?_⟩) | (apply Exists.intro;refine⟨Or.inl ⟨by rfl,?_⟩,?_⟩;(intro x hx';go_simp;first | done | with_reducible rfl)))
       (try simp only[Act.put,List.getElem_toArray,List.getElem_cons_zero,List.getElem_cons_succ,List.setIfInBounds_toArray,List.set_cons_zero,List.set_cons_succ])
       refine Z1 3 rfl (by kernel_rfl) (by kernel_rfl) (by kernel_rfl) (by kernel_rfl) (fun v c a w h=>h) hS0 ?_
       (first | (refine⟨undef,Or.inr ⟨by rfl,rfl⟩,?_⟩) | (apply Exists.intro;refine⟨Or.inl ⟨by rfl,?_⟩,?_⟩;(intro x hx';go_simp;first | done | with_reducible rfl)))
       (try simp only[Act.put,List.getElem_toArray,List.getElem_cons_zero,List.getElem_cons_succ,List.setIfInBounds_toArray,List.set_cons_zero,List.set_cons_succ])
       refine Z0 4 rfl (by kernel_rfl) (by kernel_rfl) (by kernel_rfl) (fun v c a w h=>h) ?_
       (first | (refine⟨undef,Or.inr ⟨by rfl,rfl⟩,?_⟩) | (apply Exists.intro;refine⟨Or.inl ⟨by rfl,?_⟩,?_⟩;(intro x hx';go_simp;first | done | with_reducible rfl)))
       (try simp only[Act.put,List.getElem_toArray,List.getElem_cons_zero,List.getElem_cons_succ,List.setIfInBounds_toArray,List.set_cons_zero,List.set_cons_succ])
       refine Z0 5 rfl (by kernel_rfl) (by kernel_rfl) (by kernel_rfl) (fun v c a w h=>h) ?_
       (first | (refine⟨undef,Or.inr ⟨by rfl,rfl⟩,?_⟩) | (apply Exists.intro;refine⟨Or.inl ⟨by rfl,?_⟩,?_⟩;(intro x hx';go_simp;first | done | with_reducible rfl)))
       (try simp only[Act.put,List.getElem_toArray,List.getElem_cons_zero,List.getElem_cons_succ,List.setIfInBounds_toArray,List.set_cons_zero,List.set_cons_succ])
       refine Z0 6 rfl (by kernel_rfl) (by kernel_rfl) (by kernel_rfl) (fun v c a w h=>h) ?_
       (first | (refine⟨undef,Or.inr ⟨by rfl,rfl⟩,?_⟩) | (apply Exists.intro;refine⟨Or.inl ⟨by rfl,?_⟩,?_⟩;(intro x hx';go_simp;first | done | with_reducible rfl)))
       (try simp only[Act.put,List.getElem_toArray,List.getElem_cons_zero,List.getElem_cons_succ,List.setIfInBounds_toArray,List.set_cons_zero,List.set_cons_succ])
       refine Z1 7 rfl (by kernel_rfl) (by kernel_rfl) (by kernel_rfl) (by kernel_rfl) (fun v c a w h=>h) hS0 ?_
       (first | (refine⟨undef,Or.inr ⟨by rfl,rfl⟩,?_⟩) | (apply Exists.intro;refine⟨Or.inl ⟨by rfl,?_⟩,?_⟩;(intro x hx';go_simp;first | done | with_reducible rfl)))
       (try simp only[Act.put,List.getElem_toArray,List.getElem_cons_zero,List.getElem_cons_succ,List.setIfInBounds_toArray,List.set_cons_zero,List.set_cons_succ])
       refine Z0 8 rfl (by kernel_rfl) (by kernel_rfl) (by kernel_rfl) (fun v c a w h=>h) ?_
       (first | (refine⟨undef,Or.inr ⟨by rfl,rfl⟩,?_⟩) | (apply Exists.intro;refine⟨Or.inl ⟨by rfl,?_⟩,?_⟩;(intro x hx';go_simp;first | done | with_reducible rfl)))
       (try simp only[Act.put,List.getElem_toArray,List.getElem_cons_zero,List.getElem_cons_succ,List.setIfInBounds_toArray,List.set_cons_zero,List.set_cons_succ])
       refine Z3 (by kernel_rfl) ?_ _
       refine NoPanic.normal ?_
       (try simp only[Act.put,List.getElem_toArray,List.getElem_cons_zero,List.getElem_cons_succ,List.setIfInBounds_toArray,List.set_cons_zero,List.set_cons_succ])
       have HGj:=hD0 (HJ.out.trans hS0)
       clear hS0 t1 t2
       go_wp2_with fail
       exact⟨⟨j1,rfl,by rw[←HJ1.out.1];exact HJ1.out.2,HGj⟩,by rw[←HJ1.out.1];exact Zk HJ1.out.2⟩
      ·obtain rfl:j=i:=Nat.le_antisymm hj (Nat.le_of_not_lt hji)
       have hji':¬j<j:=Nat.lt_irrefl j
       have HG6:=hD0 (aI0 (HG5.out.1.trans HJ.out) (HG5.out.2.trans HJ.out))
       have HWo:=hD0 (Z0t (HI.out.1.nw (HG5.out.1.trans HJ.out)) (Nat.le_trans (Yz l vs j) (Nat.le_trans HB.out.1 (by decide))) q)
       clear hji HJ
       go_wp2_with fail
       refine HWo.out.mono ?_
       rintro e w8 ⟨v8,rfl,hO8,g8⟩
       obtain⟨ra,rc,rfl,_⟩:=Za.at_ hO8
       have HR:=hD0 (show Zm w8 (.slice ra (Zh (Y7 l vs j) q).length rc) (Y7 l vs i1)∧Nw w3 w8 from⟨by
        obtain⟨h1,h2⟩:=HQ.out.2
        have:=Za.at_ hO8
        rw[←HI1.out.1,V4 h1,h2]
        exact this,HG6.out.2.trans g8⟩)
       clear hO8 g8 HWo
       go_wp2_with fail
       exact⟨⟨i1,_,_,_,rfl,rfl,by rw[←HI1.out.1];exact HI1.out.2,HR⟩,by rw[←HI1.out.1];exact Zk HI1.out.2⟩
  ·obtain rfl:i=n:=Nat.le_antisymm hin (Nat.le_of_not_lt hlt)
   have Y5:¬i<i:=Nat.lt_irrefl i
   have HAc:=hD0 (Vc HI.out.1 (Nat.le_trans (Yz l vs i) (Nat.le_trans HB.out.1 (by decide))))
   have HEnd:=hD0 (show Y1 (Y7 l vs i) [] false from by have:=Z5z HV.out;rwa [HN.out] at this)
   have HGI:=hD0 (HG3.out.trans HI.out.2)
   have HNone:=hD0 (show i=0↔Y1 l [] false from by rw[←HN.out,List.length_eq_zero_iff];exact Z50 HV.out)
   clear hlt HI
   go_wp2_with fail
   refine HAc.out.mono ?_
   rintro e w9 ⟨c9,b9,rfl,hP9,g9⟩
   obtain⟨rfl,rfl⟩:=Y9 hP9 HEnd.out
   have HG9:=hD0 (HGI.out.trans g9)
   have HA9:=hD0 (Vc (HE.out.rd.nw (HGI.out.trans g9)) (Nat.le_trans HB.out.1 (by decide)))
   clear hP9 g9 HAc HGI
   go_wp2_with fail
   refine HA9.out.mono ?_
   rintro e w10 ⟨c10,b10,rfl,hP10,g10⟩
   have HG10:=hD0 (HG9.out.trans g10)
   have hz:decide (i=0)=!b10:=by
    cases b10 with
    | false =>
     have:=hP10.2.1 rfl
     subst this
     exact decide_eq_true (HNone.out.2 hP10)
    | true =>
     refine decide_eq_false fun e=>?_
     have:=(Y9 hP10 (HNone.out.1 e)).2
     cases this
   have hz2:((i:Int)==0)=!b10:=by
    rw[←hz]
    by_cases e:i=0
    ·simp[e]
    ·rw[decide_eq_false e,beq_eq_false_iff_ne];omega
   have hbb:((!b10)==(!b10))=true:=by simp
   clear hP10 g10 HA9 HG9
   go_wp2_with fail
   go_ret
   exact⟨by cases b10<;>rfl,HG10.out⟩
theorem victimBreaks_law(a0:Option Addr)(len0 cap0:Nat)(l:List (Int × Int))(a1:Option Addr)(len1 cap1:Nat)(ages:List (Int × Int))(W:World)(h:EgIn W a0 len0 cap0 l)(ha:AgIn W a1 len1 cap1 ages) :
  Calls prog 3 #[.slice a0 len0 cap0,.slice a1 len1 cap1] W fun e W'=>e=.returned (.bool true)∧Below W.heap.size W W':=Z22 a0 len0 cap0 l a1 len1 cap1 ages W h ha
end Go.Proofs.Ytbnpnccpobkodaa
