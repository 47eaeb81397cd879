/- Texts merged: WcQ, WdA, WdE -/
import Derived.Test.YtobnolgphljoeaaWaitsFreeB7
import Derived.Lib.SliceRun
import Derived.Deep.Upon
import Derived.ChangeOld
import Derived.Below
import Derived.Deep.Slices
set_option linter.unusedVariables false
set_option maxRecDepth 100000
set_option maxHeartbeats 16000000
namespace Go.Proofs.Ytobnolgphljoeaa
open Go.RowKit _root_.Go.Proofs.Try
def Ua(w:World)(f:Value)(p:(Int × Int)→Bool):Prop:=∃(g:Nat) (lb:Array Value),f=.func (.func g) #[] lb∧(∀args w,(callFunc g args).run prog w=.ok (.enter g args) w)∧∀(R:Int × Int) (w1:World),Nw w w1→Calls prog g (#[egV R]++lb) w1 fun e w'=>e=.returned (.bool (p R))∧Nw w1 w'
def Z0s:Value→Prop
 | .slice _ n c=>n≤c
 | _=>True
theorem Za.capE{w:World}{g0:Nat}{v:Value}{q:List (Int × Int)}(h:Za w g0 v q):Z0s v:=by
 rcases h.2 with⟨rfl,_⟩ | ⟨g',cap',cur,rfl,_,_,q4,_⟩
 ·exact Nat.le_refl _
 ·exact q4
theorem Za.atE{w:World}{g0:Nat}{v:Value}{q:List (Int × Int)}(h:Za w g0 v q){k:Nat}(hk:k<q.length):∃g cap,v=.slice (some ⟨g,0,none⟩) q.length cap∧g0≤g∧g<w.heap.size∧True:=by
 rcases Yr h with⟨_,e⟩ | ⟨g,cap,rfl⟩
 ·omega
 ·exact⟨g,cap,rfl,oge h rfl,olt h rfl,trivial⟩
theorem Z01{w:World}{g0 g cap n:Nat}{q:List (Int × Int)}(h:Za w g0 (.slice (some ⟨g,0,none⟩) n cap) q)(hn:n=q.length)(k:Nat)(hk:k<q.length)(j:Nat)(hj:j<2)(u:Value)(new:Int × Int)(e:(Zk q[k]).set j u=Zk new) :
  Za (w.setCell ⟨g,k*2+j,none⟩ u) g0 (.slice (some ⟨g,0,none⟩) n cap) (q.set k new):=by
 subst hn
 have h1:=(World.ownsRow.stored h (k*2+j) u).1
 unfold Za Yl
 rw[List.length_set,←Vj (row:=Zk) (sz:=2) (fun _=>rfl) q k hk j hj u new e]
 exact h1
theorem Yx{w:World}{g0 g cap n:Nat}{q:List (Int × Int)}(h:Za w g0 (.slice (some ⟨g,0,none⟩) n cap) q)(hn:n=q.length)(k:Nat)(hk:k<q.length)(j:Nat)(u:Value)(hu:(Zk q[k])[j]?=some u):w.cell? ⟨g,k*2+j,none⟩=some u:=by
 subst hn
 have hj:j<2:=by have:=(List.getElem?_eq_some_iff.1 hu).1;simpa [Zk] using this
 refine(World.ownsRow.cellAt h (k*2+j) (by omega)).trans ?_
 rw[Zy (sz:=2) (fun _=>rfl) q k j hk hj];exact hu
theorem Z00{w:World}{g0 g cap n:Nat}{q:List (Int × Int)}(h:Za w g0 (.slice (some ⟨g,0,none⟩) n cap) q)(hn:n=q.length)(j:Nat):w.frozen? ⟨g,j,none⟩=false:=by
 subst hn
 exact World.ownsRow.frozenAt h j
def Vt(p:(Int × Int)→Bool):List (Int × Int)→Int
 | []=>-1
 | a::r=>if p a=true then 0 else if Vt p r = -1 then -1 else Vt p r+1
theorem Yd(p:(Int × Int)→Bool):∀q:List (Int × Int),(Vt p q = -1∧∀a∈q,p a=false)∨∃k:Nat,Vt p q=k∧∃h:k<q.length,p q[k]=true∧∀i (hi:i<q.length),i<k→p q[i]=false
 | []=>.inl ⟨rfl,by simp⟩
 | a::r=>by
  unfold Vt
  cases e:p a with
  | true=>exact .inr ⟨0,rfl,by simp,e,fun i _ h=>by omega⟩
  | false =>
   rcases Yd p r with⟨h1,h2⟩ | ⟨k,h1,h2,h3,h4⟩
   ·rw[h1]
    refine .inl ⟨rfl,fun x hx=>?_⟩
    rcases List.mem_cons.1 hx with rfl | hx
    ·exact e
    ·exact h2 x hx
   ·rw[h1]
    refine .inr ⟨k+1,?_,by simpa using h2,h3,fun i hi hik=>?_⟩
    ·simp only[Bool.false_eq_true,if_false]
     rw[if_neg (by omega)];rfl
    ·cases i with
     | zero=>exact e
     | succ i=>exact h4 i (by simpa using hi) (by omega)
theorem Z2b{p:(Int × Int)→Bool}{q:List (Int × Int)}{k:Nat}(hk:k<q.length)(h:p q[k]=true)(hb:∀i (hi:i<q.length),i<k→p q[i]=false):Vt p q=k:=by
 rcases Yd p q with⟨_,h2⟩ | ⟨j,h1,h2,h3,h4⟩
 ·rw[h2 _ (gM0 hk)] at h;cases h
 ·rw[h1]
  rcases Nat.lt_trichotomy j k with g | g | g
  ·rw[hb j h2 g] at h3;cases h3
  ·rw[g]
  ·rw[h4 k hk g] at h;cases h
theorem Z1o{p:(Int × Int)→Bool}{q:List (Int × Int)}(h:∀i (hi:i<q.length),p q[i]=false):Vt p q = -1:=by
 rcases Yd p q with⟨h1,_⟩ | ⟨j,h1,h2,h3,_⟩
 ·exact h1
 ·rw[h j h2] at h3;cases h3
theorem Z3b(v f:Value)(p:(Int × Int)→Bool)(q:List (Int × Int))(w:World)(hl:q.length≤1000)(h:Y5 w v q)(hf:Ua w f p) :
  Calls prog 50 #[v,f] w fun e w'=>e=.returned (.int .i64 (Vt p q))∧Nw w w':=by
 obtain⟨g,lb,rfl,eg,hT⟩:=hf
 have HT:=hD0 hT
 clear hT
 obtain⟨a,c,rfl,⟨rfl,_⟩ | ⟨b,o,rfl,hc⟩⟩:=h
 ·go_enter func50,ntmps50
  go_wp2
  refine wp_loop_rounds 1 ?_
  repeat (rw[rounds_succ];go_wp2)
  go_ret
  exact⟨rfl,Nw.refl _⟩
 ·have H:=hD0 hc
  clear hc
  obtain⟨V,hV⟩:∃V,Vt p q=V:=⟨_,rfl⟩
  rw[hV]
  have HV:=hD0 hV
  clear hV
  go_enter func50,ntmps50
  go_wp2
  go_loopw [8] (fun i wr=>∃k:Nat,k≤q.length∧i=.int .i64 k∧(∀i (hi:i<q.length),i<k→p q[i]=false)∧Nw w wr) (fun i _=>q.length-(intOf i).toNat)
  case atStart=>exact⟨0,Nat.zero_le _,rfl,fun _ _ h=>by omega,Nw.refl _⟩
  case round =>
   obtain⟨k,hk,rfl,hF,hN⟩:=hrel
   by_cases hlt:k<q.length
   ·have hce:=(H.out.nw hN).cell k hlt
    obtain⟨R,hR⟩:∃R,q[k]=R:=⟨_,rfl⟩
    rw[hR] at hce
    have HC:=hD0 (HT.out R)
    have HS:=hD0 hR
    have HF:=hD0 hF
    have HN:=hD0 hN
    clear hR hF hN
    obtain⟨B,hB⟩:∃B,p R=B:=⟨_,rfl⟩
    rw[hB] at HC
    have HB:=hD0 hB
    clear hB
    obtain⟨b0,b1⟩:=R
    have e0:=hce 0 _ rfl
    have e1:=hce 1 _ rfl
    simp only[Nat.add_zero] at e0
    clear hce
    cases B
    case true =>
     go_wp2_with (go_at_fn g;refine(HC.out _ HN.out).mono ?_;rintro e w1 ⟨rfl,g1⟩)
     go_ret
     exact⟨by rw[←HV.out,Z2b hlt (by rw[HS.out];exact HB.out) HF.out];rfl,HN.out.trans g1⟩
    case false =>
     go_wp2_with (go_at_fn g;refine(HC.out _ HN.out).mono ?_;rintro e w1 ⟨rfl,g1⟩)
     go_roundw
     case rel =>
      refine⟨k+1,by omega,by go_num,fun i hi hik=>?_,HN.out.trans g1⟩
      by_cases q:i<k
      ·exact HF.out i hi q
      ·have:i=k:=by omega
       subst this
       rw[HS.out];exact HB.out
     case measure=>simp[intOf];omega
   ·have HF:=hD0 hF
    have HN:=hD0 hN
    clear hF hN
    go_wp2
    go_ret
    exact⟨by rw[←HV.out,Z1o fun i hi=>HF.out i hi (by omega)];rfl,HN.out⟩
abbrev ezQ:Value:=.agg #[.int .i64 0,.int .i64 0]
theorem Z0u(w:World)(g o n c:Nat)(hn:0<n)(hc:∀j,j<n*2→(w.cell? ⟨g,o+j,none⟩).isSome=true)(hf:∀j,w.frozen? ⟨g,j,none⟩=false) :
  ∃vs,∀ty,(Builtin.clear_ #[22] ty #[.slice (some ⟨g,o,none⟩) n c]).run prog w=.ok (.tuple #[]) (w.setCells g o vs):=by
 obtain⟨m,rfl⟩:∃m,n=m+1:=⟨n-1,by omega⟩
 refine⟨(Builtin.zeroCells ezQ.cells (m+1)).toList,fun ty=>?_⟩
 have hlen:(Builtin.zeroCells ezQ.cells (m+1)).toList.length=(m+1)*2:=by simp[Builtin.zeroCells,Value.cells]
 have hst:=run_storeCells_cells (P:=prog) g o (Builtin.zeroCells ezQ.cells (m+1)).toList 0 w (by rw[hlen];simpa using hc) (by intro j _;exact hf _) (by
  intro v hv
  obtain⟨i,hi,rfl⟩:=List.getElem_of_mem hv
  simp only[Builtin.zeroCells,Array.toList_map,List.getElem_map]
  have h5:∀i:Nat,i<2→(ezQ.cells[i]!).oneCell'=true:=by decide
  exact h5 _ (Nat.mod_lt _ (by decide)))
 simp only[Nat.add_zero] at hst
 simp[Builtin.clear_,run_underlying underlying22,hst]
theorem Nw.rlsE{a b:World}(h:Nw a b):(∀k o,k<a.heap.size→b.cell? ⟨k,o,none⟩=a.cell? ⟨k,o,none⟩)∧(∀k o,k<a.heap.size→b.frozen? ⟨k,o,none⟩=a.frozen? ⟨k,o,none⟩):=⟨fun _ _ h1=>h.cell h1,fun _ _ h1=>h.froz h1⟩
theorem Z1q{w:World}{g0 g n cap:Nat}{l:List (Int × Int)}(h:Za w g0 (.slice (some ⟨g,0,none⟩) n cap) l)(hn:n=l.length)(j:Nat)(hj:j<l.length*2):(w.cell? ⟨g,j,none⟩).isSome=true:=by
 subst hn
 have e:w.cell? ⟨g,j,none⟩=(Z4 Zk l)[j]?:=World.ownsRow.cellAt h j hj
 rw[e,List.getElem?_eq_getElem (by rw[Y3 (sz:=2) (fun _=>rfl)];exact hj)];rfl
theorem Ve(g:Nat):∀(vs:List Value) (o:Nat) (w:World),Zd (fun k=>k=g) w (w.setCells g o vs)
 | [],_,w=>Zd.refl _ w
 | v::r,o,w=>by
  rw[World.setCells]
  exact(Zn w ⟨g,o,none⟩ v).trans (Ve g r (o+1) _)
def Z1a(w:World)(g a:Nat)(s:Int × Int):World:=(w.setCell ⟨g,a*2,none⟩ (.int .i64 s.1)).setCell ⟨g,a*2+1,none⟩ (.int .i64 s.2)
theorem Z1n{w:World}{g0 g n cap a:Nat}{R:List (Int × Int)}(h:Za w g0 (.slice (some ⟨g,0,none⟩) n cap) R)(hn:n=R.length)(ha:a<R.length)(s:Int × Int):Za (Z1a w g a s) g0 (.slice (some ⟨g,0,none⟩) n cap) (R.set a s):=by
 have l1:∀x:Int × Int,n=(R.set a x).length:=fun x=>by rw[List.length_set];exact hn
 have k1:∀x:Int × Int,a<(R.set a x).length:=fun x=>by rw[List.length_set];exact ha
 have h0:=Z01 h hn a ha 0 (by decide) (.int .i64 s.1) (s.1,R[a].2) rfl
 have h1:=Z01 h0 (l1 _) a (k1 _) 1 (by decide) (.int .i64 s.2) s (by rw[List.getElem_set_self];rfl)
 rw[List.set_set] at h1
 exact h1
theorem Z1p(w:World)(g a:Nat)(s:Int × Int):Zd (fun k=>k=g) w (Z1a w g a s):=by
 unfold Z1a
 exact((Zd.refl (fun k=>k=g) w).set (p:=⟨g,a*2,none⟩) (.inl rfl) _).set (p:=⟨g,a*2+1,none⟩) (.inl rfl) _
abbrev Zx(p:(Int × Int)→Bool)(l:List (Int × Int)):List (Int × Int):=l.filter fun s=>!p s
structure Uo(p:(Int × Int)→Bool)(w wr:World)(g0 g n cap a b:Nat)(l R:List (Int × Int)):Prop where
 ab:a<b
 bn:b≤l.length
 len:R.length=l.length
 front:R.take a=Zx p (l.take b)
 rest:R.drop b=l.drop b
 row:Za wr g0 (.slice (some ⟨g,0,none⟩) n cap) R
 tch:Zd (fun k=>k=g) w wr
theorem Ue{α:Type}{l:List α}{b:Nat}(h:b<l.length):l.take (b+1)=l.take b++[l[b]]:=by
 rw[List.take_add_one,List.getElem?_eq_getElem h];rfl
theorem Uv{p:(Int × Int)→Bool}{L:List (Int × Int)}{s:Int × Int}(h:p s=true):Zx p (L++[s])=Zx p L:=by
 simp only[Zx,List.filter_append,List.filter_cons,h,Bool.not_true,Bool.false_eq_true,if_false,List.filter_nil,List.append_nil]
theorem Z3c{p:(Int × Int)→Bool}{L:List (Int × Int)}{s:Int × Int}(h:p s=false):Zx p (L++[s])=Zx p L++[s]:=by
 simp only[Zx,List.filter_append,List.filter_cons,h,Bool.not_false,if_true,List.filter_nil]
theorem Z1m{α:Type}{R l:List α}{b:Nat}(h:R.drop b=l.drop b)(hb:b<l.length)(hR:R.length=l.length):∃hr:b<R.length,R[b]=l[b]:=by
 refine⟨by omega,?_⟩
 have:=congrArg (fun x=>x[0]?) h
 simp only[List.getElem?_drop,Nat.add_zero] at this
 rw[List.getElem?_eq_getElem hb,List.getElem?_eq_getElem (by omega)] at this
 exact Option.some.inj this
theorem U1{α:Type}{R l:List α}{b:Nat}(h:R.drop b=l.drop b):R.drop (b+1)=l.drop (b+1):=by
 rw[←List.drop_drop,←List.drop_drop,h]
section
variable {p:(Int × Int)→Bool} {w wr wr':World} {g0 g n cap a b:Nat} {l R:List (Int × Int)}
theorem Uo.skip(h:Uo p w wr g0 g n cap a b l R)(hb:b<l.length)(he:p l[b]=true)(g':Nw wr wr'):Uo p w wr' g0 g n cap a (b+1) l R :=
 ⟨by have:=h.ab;omega,hb,h.len,by rw[h.front,Ue hb,Uv he],U1 h.rest,onw h.row g',h.tch.trans (Zd.nw g')⟩
theorem Uo.move(h:Uo p w wr g0 g n cap a b l R)(hn:n=l.length)(hb:b<l.length)(he:p l[b]=false)(g':Nw wr wr'):Uo p w (Z1a wr' g a l[b]) g0 g n cap (a+1) (b+1) l (R.set a l[b]):=by
 have hab:=h.ab
 have hR:=h.len
 have ha:a<R.length:=by omega
 refine⟨by omega,hb,by simp[hR],?_,?_,?_,?_⟩
 ·rw[Ue (by simpa using ha),Ue hb]
  have e1:(R.set a l[b]).take a=R.take a:=List.take_set_of_le (Nat.le_refl a)
  rw[e1,h.front,Z3c he]
  simp
 ·rw[List.drop_set_of_lt (by omega)];exact U1 h.rest
 ·exact Z1n (onw h.row g') (by omega) ha _
 ·exact(h.tch.trans (Zd.nw g')).trans (Z1p _ _ _ _)
end
theorem Vu{p:(Int × Int)→Bool}{l:List (Int × Int)}{j:Nat}(hj:j<l.length)(he:p l[j]=true)(hF:∀i (hi:i<l.length),i<j→p l[i]=false):l.take j=Zx p (l.take (j+1)):=by
 rw[Ue hj,Uv he]
 symm
 rw[Zx,List.filter_eq_self]
 intro s hs
 obtain⟨i,hi,rfl⟩:=List.getElem_of_mem hs
 simp at hi
 simp[hF i (by omega) (by omega)]
theorem Uu{p:(Int × Int)→Bool}{l:List (Int × Int)}(h:∀s∈l,p s=false):Zx p l=l:=by
 rw[Zx,List.filter_eq_self]
 intro s hs
 simp[h s hs]
theorem Z29(p:(Int × Int)→Bool)(f:Value)(g0:Nat)(v:Value)(l:List (Int × Int))(w:World)(hl:l.length≤1000)(h:Za w g0 v l)(hf:Ua w f p)(hfr:∀w1,Zd (fun k=>v.ownBlock=some k) w w1→Ua w1 f p) :
  Calls prog 28 #[v,f] w fun e w'=>∃v',e=.returned v'∧Y5 w' v' (Zx p l)∧Z0s v'∧(∀b o n c,v'=.slice (some ⟨b,o,none⟩) n c→v.ownBlock=some b∨(Zx p l)=[])∧Zd (fun k=>v.ownBlock=some k) w w':=by
 have HI0:=Z3b v f p l w hl (Za.at_ h) hf
 have hf':=hf
 obtain⟨gf,lb,rfl,eg,_⟩:=hf'
 obtain⟨hfo,-⟩:True∧True:=⟨trivial,trivial⟩
 obtain⟨px,hpx⟩:∃px,Vt p l=px:=⟨_,rfl⟩
 rw[hpx] at HI0
 have HI:=hD0 HI0
 clear HI0
 rcases Yd p l with⟨h1,h2⟩ | ⟨j,h1,hj,he,hF⟩
 ·obtain rfl:=hpx.symm.trans h1
  obtain⟨a,c,rfl⟩:=(Za.at_ h).form
  have HR:=hD0 h
  clear h hfr hf
  go_enter func28,ntmps28
  go_wp2_with (go_at_call 50;refine HI.out.mono ?_;rintro e w1 ⟨rfl,g1⟩)
  go_ret
  exact⟨_,rfl,by rw[Uu h2];exact Za.at_ (onw HR.out g1),Za.capE HR.out,fun b o n k e=>by
   rcases Yr HR.out with⟨e2,z⟩ | ⟨g,cap,e2⟩
   ·exact .inr (by rw[Uu h2];exact List.length_eq_zero_iff.1 z)
   ·have e3:=e2.symm.trans e
    simp only[Value.slice.injEq,Option.some.injEq,Addr.mk.injEq] at e3
    refine .inl ?_
    rw[e2,←e3.1.1];rfl,Zd.nw g1⟩
 obtain rfl:=hpx.symm.trans h1
 obtain⟨g,cap,rfl,hg0,hgl,_⟩:=Za.atE h hj
 have hcap:=Za.capE h
 have hcap:l.length≤cap:=hcap
 have d0:((j:Int)==-1)=false:=by simp
 have HX:=hD0 (aI0 he hF)
 have HFr:=hD0 hfr
 have H:=hD0 h
 clear he hF hfr hf h
 go_enter func28,ntmps28
 go_wp2_with (go_at_call 50;refine HI.out.mono ?_;rintro e w1 ⟨rfl,g1⟩)
 have HD:Hid (Uo p w w1 g0 g l.length cap j (j+1) l l):=hD0 ⟨by omega,hj,rfl,Vu hj HX.out.1 HX.out.2,rfl,onw H.out g1,Zd.nw g1⟩
 clear HX H HI g1
 case _ =>
  go_loopw [5,6] (fun i k wr=>∃(a b:Nat) (R:List (Int × Int)),i=.int .i64 a∧k=.int .i64 b∧Uo p w wr g0 g l.length cap a b l R) (fun _ k _=>l.length-(intOf k).toNat)
  case atStart=>exact⟨j,j+1,l,rfl,by go_num,HD.out⟩
  case round =>
   obtain⟨a,b,R,rfl,rfl,hD⟩:=hrel
   have hab:=hD.ab
   have hbn:=hD.bn
   by_cases hlt:b<l.length
   ·obtain⟨hrb,hRb⟩:=Z1m hD.rest hlt hD.len
    obtain⟨s,hs⟩:∃s,l[b]=s:=⟨_,rfl⟩
    rw[hs] at hRb
    have Z7:∀c u,(Zk s)[c]?=some u→wr.cell? ⟨g,b*2+c,none⟩=some u:=fun c u hu=>Yx hD.row hD.len.symm b hrb c u (by rw[hRb];exact hu)
    have c0:=Z7 0 _ rfl
    have c1:=Z7 1 _ rfl
    simp only[Nat.add_zero] at c0
    have hgl:=olt hD.row rfl
    have hT:=HFr.out wr (hD.tch.mono fun i _ e=>by rw[e];rfl)
    obtain⟨gf',lb',eqf,_,hTT⟩:=hT
    simp only[Value.func.injEq,Fn.func.injEq,true_and] at eqf
    obtain⟨rfl,rfl⟩:=eqf
    have HE:=hD0 (hTT s)
    obtain⟨B,hB⟩:∃B,p s=B:=⟨_,rfl⟩
    rw[hB] at HE
    have HB:=hD0 (show p l[b]=B by rw[hs];exact hB)
    have HS:=hD0 hs
    have HR:=hD0 hD
    clear hB Z7 hs hRb hTT
    have g6:Nw wr (wr.alloc (.cells #[.int .i64 s.1,.int .i64 s.2] 30)):=(Nw.refl wr).alloc _
    have hq6:=hD0 (aI0 (Z7 (j:=0) (Z9 wr (.cells #[.int .i64 s.1,.int .i64 s.2] 30))) (Z7 (j:=1) (Z9 wr (.cells #[.int .i64 s.1,.int .i64 s.2] 30))))
    cases B
    case true =>
     clear hD
     go_wp2_with (go_at_fn gf;refine(HE.out _ g6).mono ?_;rintro e w1 ⟨rfl,g1⟩)
     go_roundw
     case rel=>exact⟨a,b+1,R,rfl,by go_num,HR.out.skip hlt HB.out (g6.trans g1)⟩
     case measure=>simp[intOf];omega
    case false =>
     have har:a<R.length:=by have:=hD.len;omega
     have k0:∀c,c<2→∃u,wr.cell? ⟨g,a*2+c,none⟩=some u:=fun c hc=>by
      have:c<(Zk R[a]).length:=hc
      exact⟨_,Yx hD.row hD.len.symm a har c _ (List.getElem?_eq_getElem this)⟩
     obtain⟨y0,a0⟩:=k0 0 (by omega)
     obtain⟨y1,a1⟩:=k0 1 (by omega)
     simp only[Nat.add_zero] at a0
     have fz:=fun c=>Z00 hD.row hD.len.symm c
     have z0:=fz (a*2)
     have z1:=fz (a*2+1)
     have hRl:=hD.len
     have hai:(a:Int)<(l.length:Int):=by omega
     clear k0 fz hD
     go_wp2_with (go_at_fn gf;refine(HE.out _ g6).mono ?_;rintro e w1 ⟨rfl,g1⟩;obtain⟨hc1,hf1⟩:=g1.rlsE)
     go_roundw
     case rel=>exact⟨a+1,b+1,_,by go_num,by go_num,by have:=HR.out.move rfl hlt HB.out (g6.trans g1);rw[HS.out] at this;exact this⟩
     case measure=>simp[intOf];omega
   ·have hbe:b=l.length:=by omega
    subst hbe
    have HR:=hD0 hD
    have hlen:=hD.len
    have hcc:∀q,q<(l.length-a)*2→(wr.cell? ⟨g,a*2+q,none⟩).isSome=true:=fun q hq=>Z1q hD.row hlen.symm (a*2+q) (by omega)
    obtain⟨vs,hvs⟩:=Z0u wr g (a*2) (l.length-a) (cap-a) (by omega) hcc (fun q=>Z00 hD.row hlen.symm q)
    have e1:((l.length:Int)-(a:Int)).toNat=l.length-a:=by omega
    have hne:¬cap=a:=by omega
    clear hD hcc
    go_wp2
    go_ret
    have hfr:=HR.out.front
    rw[List.take_length] at hfr
    have hpl:(Zx p l).length=a:=by rw[←hfr,List.length_take];omega
    have hT:=Ve g vs (a*2) wr
    refine⟨_,rfl,⟨_,cap,by rw[hpl];rfl,.inr ⟨g,0,rfl,lL0 (olt HR.out.row rfl) hT.size,fun i hi c u hu=>?_⟩⟩,by show a≤cap;omega,fun b o n c e=>by
     injection e with e _ _
     injection e with e
     injection e with e _ _
     rw[←e];exact .inl rfl,(HR.out.tch.trans hT).mono fun i _ e=>by rw[e];rfl⟩
    have hc:c<2:=by have:=(List.getElem?_eq_some_iff.1 hu).1;simpa [Zk] using this
    rw[Nat.zero_add,World.cell?_setCells_out g vs _ wr _ (fun _ _=>.inl (show i*2+c<a*2 by omega))]
    have hiR:i<R.length:=by omega
    refine Yx HR.out.row hlen.symm i hiR c u ?_
    have hx:(Zx p l)[i]=R[i]:=by
     have:∀(M:List (Int × Int)) (e:R.take a=M) (h:i<M.length),M[i]=R[i]:=fun M e h=>by subst e;simp
     exact this _ hfr hi
    rw[←hx];exact hu
theorem Ul(e:Int × Int){w:World}{B:Nat}{t:Int}(h:w.cell? ⟨B,0,none⟩=some (.int .i64 t)):Calls prog 30 #[egV e,.pointer (some ⟨B,0,none⟩)] w fun e' w'=>e'=.returned (.bool (decide (e.1=t) || decide (e.2=t)))∧Nw w w':=by
 obtain⟨a,b⟩:=e
 have g1:Nw w (w.alloc (.cells #[.int .i64 a,.int .i64 b] 30)):=(Nw.refl w).alloc _
 have hc:=g1.kp h
 have hal:=Z9 w (.cells #[.int .i64 a,.int .i64 b] 30)
 by_cases q:a=t
 ·have h1:(a==t)=true:=by simpa using q
  have e1:(decide (a=t) || decide (b=t))=true:=by simp[q]
  rw[e1]
  clear e1 q
  go_enter func30,ntmps30
  go_wp2
  go_ret
  exact⟨rfl,g1⟩
 ·have h1:(a==t)=false:=by simpa using q
  have e1:(decide (a=t) || decide (b=t))=(b==t):=by
   rw[decide_eq_false q,Bool.false_or]
   rfl
  rw[e1]
  clear e1
  go_enter func30,ntmps30
  go_wp2
  go_ret
  exact⟨rfl,g1⟩
theorem Z0o{w:World}{B:Nat}{t:Int}(h:w.cell? ⟨B,0,none⟩=some (.int .i64 t)):Ua w (.func (.func 30) #[] #[.pointer (some ⟨B,0,none⟩)]) (fun e=>decide (e.1=t) || decide (e.2=t)):=by
 refine⟨30,_,rfl,enters_of func30 (by kernel_rfl) rfl,fun x w1 g=>?_⟩
 simp only[List.append_toArray,List.cons_append,List.nil_append]
 exact Ul x (g.kp h)
theorem Z2l(l:List (Int × Int))(t:Int):Zx (fun e=>decide (e.1=t) || decide (e.2=t)) l=Y9 l t:=by
 unfold Zx Y9
 congr 1
 funext e
 simp
theorem Z0q{w:World}{v:Value}{l:List (Int × Int)}(h:Y5 w v l)(hl:l.length≤1000)(t:Int) :
  Calls prog 12 #[v,.int .i64 t] w fun e w'=>∃v',e=.returned v'∧Y5 w' v' (Y9 l t)∧Z0s v'∧Nw w w':=by
 have g1:Nw w (w.alloc (.cells #[.int .i64 t] 3)):=(Nw.refl w).alloc _
 have hal:=Z9 w (.cells #[.int .i64 t] 3)
 obtain⟨w1,hw1⟩:∃x,w.alloc (.cells #[.int .i64 t] 3)=x:=⟨_,rfl⟩
 rw[hw1] at g1 hal
 have HW1:=hD0 hw1
 obtain⟨B,hB⟩:∃B,w.heap.size=B:=⟨_,rfl⟩
 have HB:=hD0 hB
 rw[hB] at hal
 have HAL:=hD0 (aI0 hal g1)
 have HC:=hD0 (Z27 v l w1 (Nat.le_trans hl (by decide)) (h.nw g1))
 obtain⟨a,c,rfl⟩:=h.form
 clear h hw1 hB g1 hal
 go_enter func12,ntmps12
 go_upto_region 1 with fail
 rw[HW1.out,HB.out]
 go_wp2_with fail
 refine HC.out.mono ?_
 rintro e w2 ⟨v2,rfl,g2,hO⟩
 have hc2:=g2.kp (Z7 (j:=0) HAL.out.1)
 have hB2:B<w1.heap.size:=hlt HAL.out.1
 have HD:=hD0 (Z29 (fun e=>decide (e.1=t) || decide (e.2=t)) _ _ v2 l w2 hl hO (Z0o hc2) (fun w3 ht=>Z0o ((ht.cell (lL0 hB2 g2.sz) (fun e=>by
  have:=oge hO e
  omega)).trans hc2)))
 have HG:=hD0 (aI0 (HAL.out.2.trans g2) (fun k (e:v2.ownBlock=some k)=>Nat.le_trans HAL.out.2.sz (oge hO e)))
 clear g2 hO hc2 hB2 HC
 go_wp2_with fail
 refine HD.out.mono ?_
 rintro e w3 ⟨v3,rfl,h3,hcp,_,ht⟩
 rw[Z2l] at h3
 have HZ:=hD0 (aI0 h3 (aI0 hcp (Zj HG.out.1 ht (fun i e=>HG.out.2 i e))))
 clear h3 hcp ht HD
 go_wp2
 go_ret
 exact⟨_,rfl,HZ.out.1,HZ.out.2.1,HZ.out.2.2⟩
section
open Go.ChangeShapes Go.WideShapes Go.ChangeAt Go.RowKit
theorem Z2d{n:Int}(h:(Lit.int .i64 n).wf=true):Z8 n:=by
 simp[Lit.wf,IntKind.min,IntKind.max,IntKind.signed,IntKind.bits] at h
 unfold Z8
 omega
structure EgIn(w:World)(a:Option Addr)(len cap:Nat)(l:List (Int × Int)):Prop where
 hl:l.length=len
 rd:Y5 w (.slice a len cap) l
 hc:len≤cap
 fit:∀e∈l,Z8 e.1∧Z8 e.2
theorem open_edges{H:Type}{enc:TypeId × Value→H}{W:World}{base fuel:Nat}{held:Bool}{a:Option Addr}{len cap:Nat}{x:DataW H × List MemPlace}(h:DataW.trod enc prog W base (fun _=>true) held fuel 22 (Value.slice a len cap).cells.toList=some x) :
  ∃l,EgIn W a len cap l:=by
 rcases Deep.open_slice underlying22 h with h0 | ⟨ad,len',cap',m,n,D,Pl,hcs,hb,hl,hm,hmm,_,hx⟩
 ·have h1:=h0.1
  simp[Value.cells] at h1
  obtain⟨rfl,rfl,rfl⟩:=h1
  exact⟨[],rfl,Rd.nil W,Nat.le_refl _,by simp⟩
 ·simp[Value.cells] at hcs
  obtain⟨rfl,rfl,rfl⟩:=hcs
  simp only[if_true] at hmm
  subst hmm
  have ce:prog.cellsOf 30=2:=by kernel_rfl
  have ci:prog.cellsOf 3=1:=by kernel_rfl
  have each:∀i,i<m→∃q:Int × Int,W.cell? (ad.add (i*2))=some (.int .i64 q.1)∧W.cell? (ad.add (i*2+1))=some (.int .i64 q.2)∧Z8 q.1∧Z8 q.2:=by
   intro i hi
   obtain⟨cs',h1,h2⟩:=hx i hi
   rw[ce] at h1
   obtain⟨_,hlen,Z7⟩:=World.cells?_some h1
   obtain⟨xs,k,hk,hxy,_,hxl,hf⟩:=DataW.trod_struct underlying30 h2
   match xs,hxl,cs',hlen with
   | [y0,y1],_,[v0,v1],_ =>
    have g0:=hf 0 _ rfl
    have g1:=hf 1 _ rfl
    simp[ci] at g0 g1
    obtain⟨n0,e0,_,u0⟩:=DataW.trod_int underlying3 g0
    obtain⟨n1,e1,_,u1⟩:=DataW.trod_int underlying3 g1
    simp only[List.cons.injEq,and_true] at e0 e1
    subst e0 e1
    have c0:=Z7 0 (by omega)
    have c1:=Z7 1 (by omega)
    rw[Deep.add_add] at c0 c1
    exact⟨(n0,n1),by simpa using c0,by simpa using c1,Z2d u0,Z2d u1⟩
  obtain⟨q,hq⟩:=Deep.choose_lt each
  have hL:((List.range len).map q).length=len:=by simp
  refine⟨(List.range len).map q,hL,?_,hl,fun e he=>?_⟩
  ·by_cases h0:len=0
   ·subst h0
    exact⟨some ad,m,rfl,.inl ⟨rfl,fun e=>by cases e⟩⟩
   ·obtain⟨b,o,spot⟩:=ad
    have hs:spot=none:=by simpa [Addr.add] using World.cell?_spot (hq 0 (by omega)).1
    subst hs
    refine⟨_,m,by rw[hL],.inr ⟨b,o,rfl,⟨World.block_lt_of_cell? _ _ (hq 0 (by omega)).1,fun i hi c u hu=>?_⟩⟩⟩
    rw[hL] at hi
    obtain⟨q0,q1,_⟩:=hq i (by omega)
    simp only[List.getElem_map,List.getElem_range] at hu
    rw[Addr.add_lit] at q0 q1
    match c,hu with
    | 0,hu=>simp[Zk] at hu;subst hu;simpa using q0
    | 1,hu=>simp[Zk] at hu;subst hu;simpa [Nat.add_assoc] using q1
  ·obtain⟨i,hi,rfl⟩:=List.mem_map.1 he
   exact(hq i (by have:=List.mem_range.1 hi;omega)).2.2
abbrev exE:List (Int × Int):=[(1,2),(2,3),(3,1),(2,1)]
theorem Z3d:Vs exE [1,2] true:=by
 have m12:((1:Int),(2:Int))∈exE:=by simp
 have m21:((2:Int),(1:Int))∈exE:=by simp
 have r11:Zw exE 1 1:=.tail (.single m12) m21
 have f21:Far exE 2 1 1:=⟨.one m21,fun m w=>Uk w⟩
 refine⟨⟨fun _=>⟨1,r11⟩,fun _=>rfl⟩,(fun h=>nomatch h),fun _=>⟨1,[2],rfl,r11,fun v r=>?_,⟨.step m12 (.one m21),fun m w=>?_⟩,.step m12 f21 (fun y hy _=>?_) (.last m21)⟩⟩
 ·obtain⟨y,hy⟩:=Yc r
  simp at hy
  omega
 ·have:=Uk w
  cases w with
  | one k=>simp at k
  | step _ k=>have:=Uk k;simp only[List.length_cons,List.length_nil];omega
 ·simp at hy
  show(2:Int)≤y
  omega
theorem Z3e:∀e∈exE,Z8 e.1∧Z8 e.2:=by
 intro e he
 unfold Z8
 simp at he
 rcases he with rfl | rfl | rfl | rfl<;>simp
theorem Z22(w:World):Calls prog 7 #[] w fun e w'=>e=.returned (.bool true)∧Nw w w':=by
 have hal:=Z9 w (.cells #[.int .i64 1,.int .i64 2,.int .i64 2,.int .i64 3,.int .i64 3,.int .i64 1,.int .i64 2,.int .i64 1] 30)
 have g1:Nw w (w.alloc (.cells #[.int .i64 1,.int .i64 2,.int .i64 2,.int .i64 3,.int .i64 3,.int .i64 1,.int .i64 2,.int .i64 1] 30)):=(Nw.refl w).alloc _
 obtain⟨w1,hw1⟩:∃x,w.alloc (.cells #[.int .i64 1,.int .i64 2,.int .i64 2,.int .i64 3,.int .i64 3,.int .i64 1,.int .i64 2,.int .i64 1] 30)=x:=⟨_,rfl⟩
 have HW1:=hD0 hw1
 rw[hw1] at hal g1
 have hE:Y5 w1 (.slice (some ⟨w.heap.size,0,none⟩) 4 4) exE:=Z2o (row:=Zk) (sz:=2) (fun _=>rfl) (l:=exE) hal 4
 have HC:=hD0 (Yw hE (by decide) Z3e)
 have HG:=hD0 g1
 clear hw1 hal g1 hE
 go_enter func7,ntmps7
 go_wp2_with fail
 rw[HW1.out]
 refine HC.out.mono ?_
 rintro e w2 ⟨v2,c,b,rfl,hI,hP,g2⟩
 obtain⟨rfl,rfl⟩:=U0 hP Z3d
 have HI:=hD0 hI
 have g3:Nw w2 (w2.alloc (.cells #[.int .i64 1,.int .i64 2] 3)):=(Nw.refl w2).alloc _
 have hL:IS (w2.alloc (.cells #[.int .i64 1,.int .i64 2] 3)) (.slice (some ⟨w2.heap.size,0,none⟩) 2 2) [1,2]:=by
  have:=World.ownsRow_lit (base:=0) (size:=1) (e:=3) w2 #[.int .i64 1,.int .i64 2] 2 (Nat.zero_le _) (by decide) (by simp)
  simpa [IS] using this
 have HS:=hD0 (Z0k _ v2 (.slice (some ⟨w2.heap.size,0,none⟩) 2 2) [1,2] (hI.nw g3) hL)
 have HG2:=hD0 ((HG.out.trans g2).trans g3)
 clear hI hP g2 g3 hL HC
 go_wp2_with fail
 refine HS.out.mono ?_
 rintro e w3 ⟨rfl,g3⟩
 have HZ:=hD0 (HG2.out.trans g3)
 clear g3
 go_wp2
 go_ret
 exact⟨rfl,HZ.out⟩
end
section
variable {l:List (Int × Int)} {t:Int} (ht:∀y,(t,y)∉l)
include ht
theorem Z12{y:Int}:¬Zw l t y:=fun r=>by
 obtain⟨z,hz⟩:=Yc r
 exact ht z hz
theorem Uh{a y:Int}(h:(a,y)∈l):a≠t:=fun e=>ht y (e▸h)
theorem Z0p{a b:Int}{n:Nat}(w:Way l a n b)(hb:b≠t):Way (Y9 l t) a n b:=by
 induction w with
 | one h=>exact .one (Zf.2 ⟨h,Uh ht h,hb⟩)
 | @step a x b n h r ih =>
  refine .step (Zf.2 ⟨h,Uh ht h,(fun e=>?_)⟩) (ih hb)
  have e':x=t:=e
  exact Z12 ht (e'▸Z1k r)
theorem Z02{a b:Int}{n:Nat}(f:Far l a b n)(hb:b≠t):Far (Y9 l t) a b n :=
 ⟨Z0p ht f.1 hb,fun m w=>f.2 m (Yu (fun x hx=>(Zf.1 hx).1) w)⟩
theorem Z0w{a b:Int}{n:Nat}(f:Far (Y9 l t) a b n)(hb:b≠t):Far l a b n :=
 ⟨Yu (fun x hx=>(Zf.1 hx).1) f.1,fun m w=>f.2 m (Z0p ht w hb)⟩
theorem Z04{b a:Int}{n:Nat}{r:List Int}(g:Greedy l b a n r)(hb:b≠t):Greedy (Y9 l t) b a n r:=by
 induction g with
 | last k=>exact .last (Zf.2 ⟨k,Uh ht k,hb⟩)
 | @step a x n r k f mn _ ih =>
  refine .step (Zf.2 ⟨k,Uh ht k,(fun e=>?_)⟩) (Z02 ht f hb) (fun y hy fy=>mn y (Zf.1 hy).1 (Z0w ht fy hb)) ih
  have e':x=t:=e
  exact Z12 ht (e'▸Z1k f.1)
theorem Z1l{c:List Int}{b:Bool}(p:Vs l c b):Vs (Y9 l t) c b:=by
 obtain⟨p1,p2,p3⟩:=p
 have ne:∀v,Zw l v v→v≠t:=fun v r e=>Z12 ht (e▸r)
 have up:∀ {v w},Zw (Y9 l t) v w→Zw l v w:=fun r=>Vi (fun x hx=>(Zf.1 hx).1) r
 refine⟨p1.trans ⟨fun⟨v,q⟩=>⟨v,Z0h ht q (ne v q)⟩,fun⟨v,q⟩=>⟨v,up q⟩⟩,p2,fun hb=>?_⟩
 obtain⟨a,r,e,q1,q2,q3,q4⟩:=p3 hb
 have hat:=ne a q1
 exact⟨a,r,e,Z0h ht q1 hat,fun v q=>q2 v (up q),Z02 ht q3 hat,Z04 ht q4 hat⟩
end
def Yh(l:List (Int × Int))(k:Nat)(free:Bool)(last:Int):Prop :=
 (free=false→∀j,(h:j<l.length)→j<k→∃y,Zw l l[j].2 y)∧(free=true→∀y,(last,y)∉l)
theorem Yh.start(l:List (Int × Int)):Yh l 0 false 0:=⟨fun _ j _ h=>absurd h (Nat.not_lt_zero j),(fun h=>nomatch h)⟩
theorem Yh.no{l:List (Int × Int)}{k:Nat}{free:Bool}{last:Int}(h:Yh l k free last)(hk:k<l.length){y:Int}(r:Zw l l[k].2 y):Yh l (k+1) free last :=
 ⟨fun e j hj hjk=>(Nat.lt_or_ge j k).elim (fun q=>h.1 e j hj q) (fun q=>by
  obtain rfl:j=k:=by omega
  exact⟨y,r⟩),h.2⟩
theorem Yh.yes{l:List (Int × Int)}{k:Nat}(hk:k<l.length)(r:∀y,¬Zw l l[k].2 y):Yh l (k+1) true l[k].2 :=
 ⟨(fun h=>nomatch h),fun _ y hy=>r y (.single hy)⟩
theorem Yh.end_{l:List (Int × Int)}{last:Int}(h:Yh l l.length false last)(hl:l≠[])(ha:∀a,¬Zw l a a):False:=by
 obtain⟨e,he,hy⟩:=Z3g ha hl
 obtain⟨j,hj,rfl⟩:=List.getElem_of_mem he
 obtain⟨y,r⟩:=h.1 rfl j hj hj
 obtain⟨z,hz⟩:=Yc r
 exact hy z hz
theorem Z2e(a0:Option Addr)(len0 cap0:Nat)(l:List (Int × Int))(W:World)(h:EgIn W a0 len0 cap0 l) :
  Calls prog 4 #[.slice a0 len0 cap0] W fun e W'=>e=.returned (.bool true)∧Nw W W':=by
 have HL:=hD0 (Z22 W)
 have HE:=hD0 h
 clear h
 by_cases hlen:40<len0
 ·have d:decide ((40:Int)<(len0:Int))=true:=by rw[decide_eq_true_iff];omega
  have d2:decide (40<len0)=true:=by simpa using hlen
  clear hlen
  go_enter func4,ntmps4
  go_wp2_with fail
  refine HL.out.mono ?_
  rintro e w1 ⟨rfl,g1⟩
  have HG:=hD0 g1
  clear g1
  go_wp2_with fail
  go_ret
  exact⟨rfl,HG.out⟩
 by_cases hz:len0=0
 ·subst hz
  go_enter func4,ntmps4
  go_wp2_with fail
  refine HL.out.mono ?_
  rintro e w1 ⟨rfl,g1⟩
  have HG:=hD0 g1
  clear g1
  go_wp2_with fail
  go_ret
  exact⟨rfl,HG.out⟩
 ·have d:decide ((40:Int)<(len0:Int))=false:=by rw[decide_eq_false_iff_not];omega
  have d2:decide (40<len0)=false:=by rw[decide_eq_false_iff_not];exact hlen
  have d3:decide (len0=0)=false:=by rw[decide_eq_false_iff_not];exact hz
  have d4:((len0:Int)==0)=false:=by rw[beq_eq_false_iff_ne];omega
  have hll:len0≤40:=Nat.le_of_not_lt hlen
  have hl1000:l.length≤1000:=by rw[HE.out.hl];omega
  have hne:l≠[]:=fun e=>hz (by rw[←HE.out.hl,e];rfl)
  have HB:=hD0 (aI0 hll (aI0 hl1000 hne))
  obtain⟨a',c',e',hed⟩:=HE.out.rd
  simp only[Value.slice.injEq] at e'
  obtain⟨rfl,hlx,rfl⟩:=e'
  have HRe:=hD0 (fun(z:World) (g:Nw W z) (y:Int) (hy:Z8 y)=>Z18 (HE.out.rd.nw g) hl1000 HE.out.fit y hy)
  rcases hed with⟨q,_⟩ | ⟨eb,eo,rfl,hrc⟩
  ·exact absurd q hne
  have HD:=hD0 hrc
  have HAc:=hD0 (fun(z:World) (g:Nw W z)=>Uq (HE.out.rd.nw g) hl1000 HE.out.fit)
  have HCy:=hD0 (fun(z:World) (g:Nw W z)=>Yw (HE.out.rd.nw g) hl1000 HE.out.fit)
  have HWo:=hD0 (fun(z:World) (g:Nw W z) (t:Int)=>Z0q (HE.out.rd.nw g) hl1000 t)
  clear hlen hll hl1000 hne hlx hrc hz
  go_enter func4,ntmps4
  go_wp2_with fail
  refine HL.out.mono ?_
  rintro e w1 ⟨rfl,g1⟩
  have HG:=hD0 g1
  clear g1 HL
  go_wp2_with fail
  go_loopw [3,4,5] (fun v3 v4 v5 wr=>∃(k:Nat) (free:Bool) (last:Int),v3=.bool free∧v4=.int .i64 last∧v5=.int .i64 k∧k≤len0∧Hid (Yh l k free last∧Nw W wr)) (fun _ _ v5 _=>len0-(intOf v5).toNat)
  case atStart=>exact⟨0,false,0,rfl,rfl,rfl,Nat.zero_le _,hD0 ⟨Yh.start l,HG.out⟩⟩
  case round =>
   rename_i wr
   obtain⟨k,free,last,rfl,rfl,rfl,hk,HI⟩:=hrel
   by_cases hlt:k<len0
   ·have hkl:k<l.length:=by rw[HE.out.hl];exact hlt
    have hrw:=HD.out.nw HI.out.2
    obtain⟨x0,x1⟩:=hrw.eg hkl
    have hebl:=hrw.lt
    have hfit:=(HE.out.fit _ (gM0 hkl)).2
    obtain⟨y,hy⟩:∃y,l[k].2=y:=⟨_,rfl⟩
    rw[hy] at x1 hfit
    have hlt':=Yg hlt
    have hw:=Yp k (k+1) (by have:=HB.out.1;omega) rfl
    obtain⟨k1,hk1⟩:∃m,k+1=m:=⟨_,rfl⟩
    have HK1:=hD0 (aI0 hk1 hlt)
    rw[hk1] at hw
    have HY:=hD0 (show ∃h:k<l.length,l[k].2=y from⟨hkl,hy⟩)
    have HR:=hD0 (HRe.out wr HI.out.2 y hfit)
    have HX1:=hD0 (show ∀z,Nw wr z→z.cell? ⟨eb,eo+k*2+1,none⟩=some (.int .i64 y) from fun z g=>g.kp x1)
    clear hk1 hy hkl hrw hfit x0 hlt
    go_wp2_with fail
    refine HR.out.mono ?_
    rintro e w4 ⟨v4,c,rfl,hI,hP,g4⟩
    obtain⟨ca,cc,rfl,_⟩:=hI.box
    have tx:∀z,Nw w4 z→z.cell? ⟨eb,eo+k*2+1,none⟩=some (.int .i64 y):=fun z g=>HX1.out z (g4.trans g)
    by_cases hc:c=[]
    ·subst hc
     have HF4:=hD0 (aI0 (show Yh l k1 true y from by
      obtain⟨h1,h2⟩:=HY.out
      rw[←HK1.out.1,←h2]
      exact Yh.yes h1 (fun z r=>by rw[h2] at r;exact nomatch (hP.2 z).2 r)) (HI.out.2.trans g4))
     clear hI hP g4 HX1 x1
     go_wp2_with fail
     refine Z6 [] (Nw w4) (by kernel_rfl) ?_
     change Z5 _ _ _ _ _ _ 7 #[false,false,false,false,false,false,false] _ w4.drew
     obtain⟨y4,hy4⟩:∃y,w4.drew=y:=⟨_,rfl⟩
     rw[hy4]
     have hS0:Nw w4 y4:=by rw[←hy4];exact(Nw.refl w4).dr
     clear hy4
     refine Z0 0 rfl (by kernel_rfl) (by kernel_rfl) (by kernel_rfl) (fun v c a w h=>h) ?_
     (first | (refine⟨undef,Or.inr ⟨by rfl,rfl⟩,?_⟩) | (apply Exists.intro;refine⟨Or.inl ⟨by rfl,?_⟩,?_⟩;(intro x hx';go_simp;first | done | with_reducible rfl)))
     (try simp only[Act.put,List.getElem_toArray,List.getElem_cons_zero,List.getElem_cons_succ,List.setIfInBounds_toArray,List.set_cons_zero,List.set_cons_succ])
     refine Z0 1 rfl (by kernel_rfl) (by kernel_rfl) (by kernel_rfl) (fun v c a w h=>h) ?_
     (first | (refine⟨undef,Or.inr ⟨by rfl,rfl⟩,?_⟩) | (apply Exists.intro;refine⟨Or.inl ⟨by rfl,?_⟩,?_⟩;(intro x hx';go_simp;first | done | with_reducible rfl)))
     (try simp only[Act.put,List.getElem_toArray,List.getElem_cons_zero,List.getElem_cons_succ,List.setIfInBounds_toArray,List.set_cons_zero,List.set_cons_succ])
     refine Z0 2 rfl (by kernel_rfl) (by kernel_rfl) (by kernel_rfl) (fun v c a w h=>h) ?_
     (first | (refine⟨undef,Or.inr ⟨by rfl,rfl⟩,?_⟩) | (apply Exists.intro;refine⟨Or.inl ⟨by rfl,?_⟩,?_⟩;(intro x hx';go_simp;first | done | with_reducible rfl)))
     (try simp only[Act.put,List.getElem_toArray,List.getElem_cons_zero,List.getElem_cons_succ,List.setIfInBounds_toArray,List.set_cons_zero,List.set_cons_succ])
     refine Z0 3 rfl (by kernel_rfl) (by kernel_rfl) (by kernel_rfl) (fun v c a w h=>h) ?_
     (first | (refine⟨undef,Or.inr ⟨by rfl,rfl⟩,?_⟩) | (apply Exists.intro;refine⟨Or.inl ⟨by rfl,?_⟩,?_⟩;(intro x hx';go_simp;first | done | with_reducible rfl)))
     (try simp only[Act.put,List.getElem_toArray,List.getElem_cons_zero,List.getElem_cons_succ,List.setIfInBounds_toArray,List.set_cons_zero,List.set_cons_succ])
     refine Z1 4 rfl (by kernel_rfl) (by kernel_rfl) (by kernel_rfl) (by kernel_rfl) (fun v c a w h=>h) hS0 ?_
     (first | (refine⟨undef,Or.inr ⟨by rfl,rfl⟩,?_⟩) | (apply Exists.intro;refine⟨Or.inl ⟨by rfl,?_⟩,?_⟩;(intro x hx';go_simp;first | done | with_reducible rfl)))
     (try simp only[Act.put,List.getElem_toArray,List.getElem_cons_zero,List.getElem_cons_succ,List.setIfInBounds_toArray,List.set_cons_zero,List.set_cons_succ])
     refine Z0 5 rfl (by kernel_rfl) (by kernel_rfl) (by kernel_rfl) (fun v c a w h=>h) ?_
     (first | (refine⟨undef,Or.inr ⟨by rfl,rfl⟩,?_⟩) | (apply Exists.intro;refine⟨Or.inl ⟨by rfl,?_⟩,?_⟩;(intro x hx';go_simp;first | done | with_reducible rfl)))
     (try simp only[Act.put,List.getElem_toArray,List.getElem_cons_zero,List.getElem_cons_succ,List.setIfInBounds_toArray,List.set_cons_zero,List.set_cons_succ])
     refine Z0 6 rfl (by kernel_rfl) (by kernel_rfl) (by kernel_rfl) (fun v c a w h=>h) ?_
     (first | (refine⟨undef,Or.inr ⟨by rfl,rfl⟩,?_⟩) | (apply Exists.intro;refine⟨Or.inl ⟨by rfl,?_⟩,?_⟩;(intro x hx';go_simp;first | done | with_reducible rfl)))
     (try simp only[Act.put,List.getElem_toArray,List.getElem_cons_zero,List.getElem_cons_succ,List.setIfInBounds_toArray,List.set_cons_zero,List.set_cons_succ])
     refine Z3 (by kernel_rfl) ?_ _
     refine NoPanic.normal ?_
     (try simp only[Act.put,List.getElem_toArray,List.getElem_cons_zero,List.getElem_cons_succ,List.setIfInBounds_toArray,List.set_cons_zero,List.set_cons_succ])
     have HG5:=hD0 (aI0 HF4.out.1 (HF4.out.2.trans hS0))
     clear hS0 tx
     go_wp2_with fail
     exact⟨⟨k1,true,y,rfl,rfl,rfl,by rw[←HK1.out.1];exact HK1.out.2,HG5⟩,by rw[←HK1.out.1];exact V3 HK1.out.2⟩
    ·have hcl:¬c.length=0:=fun e=>hc (List.length_eq_zero_iff.1 e)
     obtain⟨n,hn⟩:∃n,c.length=n:=⟨_,rfl⟩
     rw[hn] at hcl ⊢
     have d5:decide (n=0)=false:=by rw[decide_eq_false_iff_not];exact hcl
     have d6:((n:Int)==0)=false:=by rw[beq_eq_false_iff_ne];omega
     have HF4:=hD0 (aI0 (show Yh l k1 free last from by
      obtain⟨h1,h2⟩:=HY.out
      obtain⟨z,t,rfl⟩:=List.exists_cons_of_ne_nil hc
      rw[←HK1.out.1]
      exact HI.out.1.no h1 (by rw[h2];exact(hP.2 z).1 (List.mem_cons_self ..))) (HI.out.2.trans g4))
     clear hI hP g4 HX1 x1 tx hc hcl hn
     go_wp2_with fail
     exact⟨⟨k1,free,last,rfl,rfl,rfl,by rw[←HK1.out.1];exact HK1.out.2,HF4⟩,by rw[←HK1.out.1];exact V3 HK1.out.2⟩
   ·obtain rfl:k=len0:=Nat.le_antisymm hk (Nat.le_of_not_lt hlt)
    have hlt':¬k<k:=Nat.lt_irrefl k
    have HA:=hD0 (HAc.out wr HI.out.2)
    clear hlt
    go_wp2_with fail
    refine HA.out.mono ?_
    rintro e w4 ⟨b,rfl,hb,g4⟩
    have HX:=hD0 (show(b=true→free=true) from fun e=>by
     cases free with
     | true=>rfl
     | false =>
      exfalso
      have h1:=HI.out.1
      rw[←HE.out.hl] at h1
      exact Yh.end_ h1 HB.out.2.2 (fun a r=>by have:=hb.2 ⟨a,r⟩;rw[e] at this;cases this))
    have HG4:=hD0 (HI.out.2.trans g4)
    clear hb g4 HA
    cases free with
    | false =>
     cases b with
     | true=>exact absurd (HX.out rfl) (by decide)
     | false =>
      go_wp2_with fail
      go_ret
      exact⟨rfl,HG4.out⟩
    | true =>
     have HF:=hD0 (HI.out.1.2 rfl)
     have HC1:=hD0 (HCy.out w4 HG4.out)
     cases b<;>(
      go_wp2_with fail
      refine HC1.out.mono ?_
      rintro e w5 ⟨v5,c,b5,rfl,hI5,hP5,g5⟩
      have HF5:=hD0 (aI0 hI5 hP5)
      have HG5:=hD0 (HG4.out.trans g5)
      have HW5:=hD0 (HWo.out w5 (HG4.out.trans g5) last)
      clear hI5 hP5 g5
      go_wp2_with fail
      refine HW5.out.mono ?_
      rintro e w6 ⟨v6,rfl,hE6,_,g6⟩
      have HG6:=hD0 (HG5.out.trans g6)
      have HC6:=hD0 (aI0 (Yw hE6 (Nat.le_trans (List.length_filter_le _ _) HB.out.2.1) (fun e he=>HE.out.fit e (Zf.1 he).1)) g6)
      clear hE6 g6
      go_wp2_with fail
      refine HC6.out.1.mono ?_
      rintro e w7 ⟨v7,c7,b7,rfl,hI7,hP7,g7⟩
      obtain⟨rfl,rfl⟩:=U0 hP7 (Z1l HF.out HF5.out.2)
      have HG7:=hD0 (HG6.out.trans g7)
      have HS:=hD0 (Z0k w7 v5 v7 _ (HF5.out.1.nw (HC6.out.2.trans g7)) hI7)
      clear hI7 hP7 g7 HC6
      go_wp2_with fail
      refine HS.out.mono ?_
      rintro e w8 ⟨rfl,g8⟩
      have HG8:=hD0 (HG7.out.trans g8)
      clear g8
      go_wp2_with fail
      go_ret
      exact⟨rfl,HG8.out⟩)
theorem waitsFree_law(a0:Option Addr)(len0 cap0:Nat)(l:List (Int × Int))(W:World)(h:EgIn W a0 len0 cap0 l) :
  Calls prog 4 #[.slice a0 len0 cap0] W fun e W'=>e=.returned (.bool true)∧Below W.heap.size W W':=Z2e a0 len0 cap0 l W h
end Go.Proofs.Ytobnolgphljoeaa
