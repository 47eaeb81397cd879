/- Texts merged: QvO, QvK, QvJ, QvL, QvV -/
import Derived.Test.YtfepoibfbmehiaaGreatDoorTableNamesB9
import Derived.Lib.SliceRun
import Derived.Deep.Upon
set_option linter.unusedVariables false
set_option maxRecDepth 100000
set_option maxHeartbeats 16000000
namespace Go.Proofs.YtfepoibfbmehiaaGreatDoor
open Go.RowKit _root_.Go.Proofs.Tryz
def V7(q:List Rq)(x:Int):Rq:=q.getD x.toNat ⟨0,0,0,0,0⟩
def tC(q:List Rq)(x y:Int):Int:=toI (V7 q x) (V7 q y)
def Zhs(q:List Rq)(x:Int):Prop:=∃k:Nat,x=k∧k<q.length
theorem Yr(q:List Rq)(k:Nat)(hk:k<q.length):V7 q (k:Int)=q[k]:=by unfold V7;simp[List.getD,hk]
def wpl(q:List Rq):Nat→List Int
 | 0=>[]
 | k+1=>if 0<(V7 q k).sn then wpl q k++[(k:Int)] else wpl q k
theorem Z2t(q:List Rq)(x:Int):∀k,x∈wpl q k↔∃j:Nat,j<k∧x=j∧0<(V7 q x).sn
 | 0=>by simp[wpl]
 | k+1=>by
  unfold wpl
  split
  ·rename_i h
   rw[List.mem_append,Z2t q x k,List.mem_singleton]
   constructor
   ·rintro(⟨j,h1,h2,h3⟩ | rfl)
    ·exact⟨j,by omega,h2,h3⟩
    ·exact⟨k,by omega,rfl,h⟩
   ·rintro⟨j,h1,rfl,h3⟩
    by_cases e:j=k
    ·exact .inr (by rw[e])
    ·exact .inl ⟨j,by omega,rfl,h3⟩
  ·rename_i h
   rw[Z2t q x k]
   constructor
   ·rintro⟨j,h1,h2,h3⟩;exact⟨j,by omega,h2,h3⟩
   ·rintro⟨j,h1,rfl,h3⟩
    refine⟨j,?_,rfl,h3⟩
    rcases Nat.lt_or_ge j k with g | g
    ·exact g
    ·have:j=k:=by omega
     subst this;exact absurd h3 h
theorem Z1d(q:List Rq):∀k,(wpl q k).Nodup
 | 0=>by simp[wpl]
 | k+1=>by
  unfold wpl
  split
  ·rw[List.nodup_append]
   refine⟨Z1d q k,by simp,fun a ha b hb=>?_⟩
   rw[List.mem_singleton] at hb
   obtain⟨j,h1,h2,_⟩:=(Z2t q a k).1 ha
   omega
  ·exact Z1d q k
theorem Z8j(q:List Rq):∀k,(wpl q k).length≤k
 | 0=>by simp[wpl]
 | k+1=>by
  unfold wpl
  have:=Z8j q k
  split<;>simp<;>omega
theorem Zjt(q:List Rq):∀x∈wpl q q.length,Zhs q x:=fun x hx=>by
 obtain⟨j,h1,h2,_⟩:=(Z2t q x _).1 hx
 exact⟨j,h2,h1⟩
theorem Zki{w:World}{g0 p b n:Nat}{t r W:Int}{v:Value}{q:List Rq}{c:Int→Int}(h:Ln w g0 p t r W v b n q c)(pb:Nat)(hpb:w.cell? ⟨pb,0,none⟩=some (.pointer (some ⟨p,0,none⟩)))(x y:Int)(hx:Zhs q x)(hy:Zhs q y) :
  Calls prog 154 #[.int .i64 x,.int .i64 y,.pointer (some ⟨pb,0,none⟩)] w fun e w'=>e=.returned (.int .i64 (tC q x y))∧Nw w w':=by
 obtain⟨i,rfl,hi⟩:=hx
 obtain⟨j,rfl,hj⟩:=hy
 have hT:=Zcn q[i] q[j]
 unfold tC
 rw[Yr q i hi,Yr q j hj]
 obtain⟨g,cap,rfl,_,hgl,hce⟩:=Z7.at h.own hi
 obtain⟨g',cap',e,_,_,hde⟩:=Z7.at h.own hj
 simp only[Value.slice.injEq,Option.some.injEq,Addr.mk.injEq,and_true,true_and] at e
 obtain⟨rfl,rfl⟩:=e
 have hii:(i:Int)<(q.length:Int):=by omega
 have hjj:(j:Int)<(q.length:Int):=by omega
 have hpl:=Z1 h.obj
 have hpbl:=World.block_lt_of_cell? _ _ hpb
 have s0:∀z,Nw w z→z.cell? ⟨pb,0,none⟩=some (.pointer (some ⟨p,0,none⟩)):=fun z hz=>hz.kp hpb
 have s1:∀z,Nw w z→z.cell? ⟨p,2,none⟩=some (.slice (some ⟨g,0,none⟩) q.length cap):=fun z hz=>hz.kp (Z0 (j:=2) h.obj)
 obtain⟨V,hV⟩:∃V,toI q[i] q[j]=V:=⟨_,rfl⟩
 rw[hV] at hT ⊢
 generalize q[i]=R at *
 generalize q[j]=S at *
 obtain⟨a0,a1,a2,a3,a4⟩:=R
 obtain⟨b0,b1,b2,b3,b4⟩:=S
 have m0:∀z,Nw w z→z.cell? ⟨g,i*5,none⟩=some (.int .i64 a0):=fun z hz=>hz.kp (hce 0 _ rfl)
 have m1:∀z,Nw w z→z.cell? ⟨g,i*5+1,none⟩=some (.int .i64 a1):=fun z hz=>hz.kp (hce 1 _ rfl)
 have m2:∀z,Nw w z→z.cell? ⟨g,i*5+2,none⟩=some (.int .i64 a2):=fun z hz=>hz.kp (hce 2 _ rfl)
 have m3:∀z,Nw w z→z.cell? ⟨g,i*5+3,none⟩=some (.int .i64 a3):=fun z hz=>hz.kp (hce 3 _ rfl)
 have m4:∀z,Nw w z→z.cell? ⟨g,i*5+4,none⟩=some (.int .i64 a4):=fun z hz=>hz.kp (hce 4 _ rfl)
 have n0:∀z,Nw w z→z.cell? ⟨g,j*5,none⟩=some (.int .i64 b0):=fun z hz=>hz.kp (hde 0 _ rfl)
 have n1:∀z,Nw w z→z.cell? ⟨g,j*5+1,none⟩=some (.int .i64 b1):=fun z hz=>hz.kp (hde 1 _ rfl)
 have n2:∀z,Nw w z→z.cell? ⟨g,j*5+2,none⟩=some (.int .i64 b2):=fun z hz=>hz.kp (hde 2 _ rfl)
 have n3:∀z,Nw w z→z.cell? ⟨g,j*5+3,none⟩=some (.int .i64 b3):=fun z hz=>hz.kp (hde 3 _ rfl)
 have n4:∀z,Nw w z→z.cell? ⟨g,j*5+4,none⟩=some (.int .i64 b4):=fun z hz=>hz.kp (hde 4 _ rfl)
 unfold rqV at hT
 have HT:=hD0 hT
 clear hT hce hde h hpb hV
 have q1:=(Nw.refl w).drewQ
 obtain⟨wc,hwc⟩:∃wc,w.drew=wc:=⟨_,rfl⟩
 go_enter func154,ntmps154
 go_wp2
 refine Z5 [some true,some true,some true,some true,some true,some true,some true,some true,some true,some true,some true,some true,some true,some true,some true,some true,some false,none,some true] (Nw w) (by kernel_rfl) (by kernel_rfl) (by kernel_rfl) q1 ?_
 rw[hwc] at q1 ⊢
 clear hwc
 repeat (first
  | (refine HW.off ?_)
  | (refine HW.take' ?_;(apply Exists.intro;refine⟨Or.inl ⟨by rfl,?_⟩,?_⟩;(intro x hx;go_simp;first | done | with_reducible rfl));(try simp only[Act.put,List.setIfInBounds_toArray,List.set_cons_zero,List.set_cons_succ]))
  | (refine HW.go (fun K hK=>?_);go_simp;(go_at_call 141;(with_reducible refine(HT.out _).mono ?_);rintro e wy ⟨rfl,g2⟩;refine hK.out _ _ (q1.trans g2) ?_;intro _;replace q1:=q1.trans g2;clear hK K g2)))
 refine HW.end_ ?_
 refine NoPanic.normal ?_
 go_wp2
 go_ret
 exact⟨rfl,q1⟩
theorem Zpe{w:World}{v:Value}{l:List Int}(h:IS w v l){m:Nat}(hf:∀g,v.ownBlock=some g→m≤g):∃gi,(∀g,v.ownBlock=some g→g=gi)∧m≤gi:=by
 rcases h.form with⟨rfl,_⟩ | ⟨g,cap,rfl⟩
 ·exact⟨m,fun g e=>by simp[Value.ownBlock] at e,Nat.le_refl _⟩
 ·exact⟨g,fun g' e=>(Option.some.inj e).symm,hf g rfl⟩
theorem Zgo:∀args w,(callFunc 154 args).run prog w=.ok (.enter 154 args) w:=enters_of func154 (by kernel_rfl) rfl
abbrev zQ:Value:=.agg #[.int .i64 0,.int .i64 0,.int .i64 0,.int .i64 0,.int .i64 0]
theorem Ze0(w:World)(g o n c:Nat)(hn:0<n)(hc:∀j,j<n*5→(w.cell? ⟨g,o+j,none⟩).isSome=true)(hf:∀j,w.frozen? ⟨g,j,none⟩=false) :
  ∃vs,∀ty,(Builtin.clear_ #[81] ty #[.slice (some ⟨g,o,none⟩) n c]).run prog w=.ok (.tuple #[]) (w.setCells g o vs):=by
 obtain⟨m,rfl⟩:∃m,n=m+1:=⟨n-1,by omega⟩
 refine⟨(Builtin.zeroCells zQ.cells (m+1)).toList,fun ty=>?_⟩
 have hlen:(Builtin.zeroCells zQ.cells (m+1)).toList.length=(m+1)*5:=by simp[Builtin.zeroCells,Value.cells]
 have hst:=run_storeCells_cells (P:=prog) g o (Builtin.zeroCells zQ.cells (m+1)).toList 0 w (by rw[hlen];simpa using hc) (by intro j _;exact hf _) (by
  intro v hv
  obtain⟨i,hi,rfl⟩:=List.getElem_of_mem hv
  simp only[Builtin.zeroCells,Array.toList_map,List.getElem_map]
  have h5:∀i:Nat,i<5→(zQ.cells[i]!).oneCell'=true:=by decide
  exact h5 _ (Nat.mod_lt _ (by decide)))
 simp only[Nat.add_zero] at hst
 simp[Builtin.clear_,run_underlying underlying81,hst]
theorem Nw.rls{a b:World}(h:Nw a b):(∀k o,k<a.heap.size→b.cell? ⟨k,o,none⟩=a.cell? ⟨k,o,none⟩)∧(∀k o,k<a.heap.size→b.frozen? ⟨k,o,none⟩=a.frozen? ⟨k,o,none⟩):=⟨fun _ _ h1=>h.cell h1,fun _ _ h1=>h.froz h1⟩
theorem Ziu{w:World}{g0 g n cap:Nat}{l:List Rq}(h:Z7 w g0 (.slice (some ⟨g,0,none⟩) n cap) l)(hn:n=l.length)(j:Nat)(hj:j<l.length*5):(w.cell? ⟨g,j,none⟩).isSome=true:=by
 subst hn
 have e:w.cell? ⟨g,j,none⟩=(Z8 Zi l)[j]?:=World.ownsRow.cellAt h j hj
 rw[e,List.getElem?_eq_getElem (by rw[Yf (sz:=5) (fun _=>rfl)];exact hj)];rfl
theorem Z72(g:Nat):∀(vs:List Value) (o:Nat) (w:World),Z3 (fun k=>k=g) w (w.setCells g o vs)
 | [],_,w=>Z3.refl _ w
 | v::r,o,w=>by
  rw[World.setCells]
  exact(Zp w ⟨g,o,none⟩ v).trans (Z72 g r (o+1) _)
def Zm0(w:World)(g a:Nat)(s:Rq):World:=((((w.setCell ⟨g,a*5,none⟩ (.int .i64 s.id)).setCell ⟨g,a*5+1,none⟩ (.int .i64 s.txn)).setCell ⟨g,a*5+2,none⟩ (.int .i64 s.md)).setCell ⟨g,a*5+3,none⟩ (.int .i64 s.wt)).setCell ⟨g,a*5+4,none⟩ (.int .i64 s.sn)
theorem Zii{w:World}{g0 g n cap a:Nat}{R:List Rq}(h:Z7 w g0 (.slice (some ⟨g,0,none⟩) n cap) R)(hn:n=R.length)(ha:a<R.length)(s:Rq):Z7 (Zm0 w g a s) g0 (.slice (some ⟨g,0,none⟩) n cap) (R.set a s):=by
 have l1:∀x:Rq,n=(R.set a x).length:=fun x=>by rw[List.length_set];exact hn
 have k1:∀x:Rq,a<(R.set a x).length:=fun x=>by rw[List.length_set];exact ha
 have h0:=Y3 h hn a ha 0 (by decide) (.int .i64 s.id) ⟨s.id,R[a].txn,R[a].md,R[a].wt,R[a].sn⟩ rfl
 have h1:=Y3 h0 (l1 _) a (k1 _) 1 (by decide) (.int .i64 s.txn) ⟨s.id,s.txn,R[a].md,R[a].wt,R[a].sn⟩ (by rw[List.getElem_set_self];rfl)
 rw[List.set_set] at h1
 have h2:=Y3 h1 (l1 _) a (k1 _) 2 (by decide) (.int .i64 s.md) ⟨s.id,s.txn,s.md,R[a].wt,R[a].sn⟩ (by rw[List.getElem_set_self];rfl)
 rw[List.set_set] at h2
 have h3:=Y3 h2 (l1 _) a (k1 _) 3 (by decide) (.int .i64 s.wt) ⟨s.id,s.txn,s.md,s.wt,R[a].sn⟩ (by rw[List.getElem_set_self];rfl)
 rw[List.set_set] at h3
 have h4:=Y3 h3 (l1 _) a (k1 _) 4 (by decide) (.int .i64 s.sn) s (by rw[List.getElem_set_self];rfl)
 rw[List.set_set] at h4
 exact h4
theorem Zio(w:World)(g a:Nat)(s:Rq):Z3 (fun k=>k=g) w (Zm0 w g a s):=by
 unfold Zm0
 exact(((((Z3.refl (fun k=>k=g) w).set (p:=⟨g,a*5,none⟩) (.inl rfl) _).set (p:=⟨g,a*5+1,none⟩) (.inl rfl) _).set (p:=⟨g,a*5+2,none⟩) (.inl rfl) _).set (p:=⟨g,a*5+3,none⟩) (.inl rfl) _).set (p:=⟨g,a*5+4,none⟩) (.inl rfl) _
abbrev Z1g(p:Rq→Bool)(l:List Rq):List Rq:=l.filter fun s=>!p s
structure Del(p:Rq→Bool)(w wr:World)(g0 g n cap a b:Nat)(l R:List Rq):Prop where
 ab:a<b
 bn:b≤l.length
 len:R.length=l.length
 front:R.take a=Z1g p (l.take b)
 rest:R.drop b=l.drop b
 row:Z7 wr g0 (.slice (some ⟨g,0,none⟩) n cap) R
 tch:Z3 (fun k=>k=g) w wr
theorem Zdn{α:Type}{l:List α}{b:Nat}(h:b<l.length):l.take (b+1)=l.take b++[l[b]]:=by
 rw[List.take_add_one,List.getElem?_eq_getElem h];rfl
theorem Zdh{p:Rq→Bool}{L:List Rq}{s:Rq}(h:p s=true):Z1g p (L++[s])=Z1g p L:=by
 simp only[Z1g,List.filter_append,List.filter_cons,h,Bool.not_true,Bool.false_eq_true,if_false,List.filter_nil,List.append_nil]
theorem Zpd{p:Rq→Bool}{L:List Rq}{s:Rq}(h:p s=false):Z1g p (L++[s])=Z1g p L++[s]:=by
 simp only[Z1g,List.filter_append,List.filter_cons,h,Bool.not_false,if_true,List.filter_nil]
theorem Zgk{α:Type}{R l:List α}{b:Nat}(h:R.drop b=l.drop b)(hb:b<l.length)(hR:R.length=l.length):∃hr:b<R.length,R[b]=l[b]:=by
 refine⟨by omega,?_⟩
 have:=congrArg (fun x=>x[0]?) h
 simp only[List.getElem?_drop,Nat.add_zero] at this
 rw[List.getElem?_eq_getElem hb,List.getElem?_eq_getElem (by omega)] at this
 exact Option.some.inj this
theorem Z8y{α:Type}{R l:List α}{b:Nat}(h:R.drop b=l.drop b):R.drop (b+1)=l.drop (b+1):=by
 rw[←List.drop_drop,←List.drop_drop,h]
section
variable {p:Rq→Bool} {w wr wr':World} {g0 g n cap a b:Nat} {l R:List Rq}
theorem Del.skip(h:Del p w wr g0 g n cap a b l R)(hb:b<l.length)(he:p l[b]=true)(g':Nw wr wr'):Del p w wr' g0 g n cap a (b+1) l R :=
 ⟨by have:=h.ab;omega,hb,h.len,by rw[h.front,Zdn hb,Zdh he],Z8y h.rest,onw h.row g',h.tch.trans (Z3.nw g')⟩
theorem Del.move(h:Del p w wr g0 g n cap a b l R)(hn:n=l.length)(hb:b<l.length)(he:p l[b]=false)(g':Nw wr wr'):Del p w (Zm0 wr' g a l[b]) g0 g n cap (a+1) (b+1) l (R.set a l[b]):=by
 have hab:=h.ab
 have hR:=h.len
 have ha:a<R.length:=by omega
 refine⟨by omega,hb,by simp[hR],?_,?_,?_,?_⟩
 ·rw[Zdn (by simpa using ha),Zdn hb]
  have e1:(R.set a l[b]).take a=R.take a:=List.take_set_of_le (Nat.le_refl a)
  rw[e1,h.front,Zpd he]
  simp
 ·rw[List.drop_set_of_lt (by omega)];exact Z8y h.rest
 ·exact Zii (onw h.row g') (by omega) ha _
 ·exact(h.tch.trans (Z3.nw g')).trans (Zio _ _ _ _)
end
theorem Z8f{p:Rq→Bool}{l:List Rq}{j:Nat}(hj:j<l.length)(he:p l[j]=true)(hF:∀i (hi:i<l.length),i<j→p l[i]=false):l.take j=Z1g p (l.take (j+1)):=by
 rw[Zdn hj,Zdh he]
 symm
 rw[Z1g,List.filter_eq_self]
 intro s hs
 obtain⟨i,hi,rfl⟩:=List.getElem_of_mem hs
 simp at hi
 simp[hF i (by omega) (by omega)]
theorem Zdg{p:Rq→Bool}{l:List Rq}(h:∀s∈l,p s=false):Z1g p l=l:=by
 rw[Z1g,List.filter_eq_self]
 intro s hs
 simp[h s hs]
theorem Zkg(p:Rq→Bool)(f:Value)(g0:Nat)(v:Value)(l:List Rq)(w:World)(hl:l.length≤1000)(h:Z7 w g0 v l)(hf:Zn w f p)(hfr:∀w1,Z3 (fun k=>v.ownBlock=some k) w w1→Zn w1 f p) :
  Calls prog 122 #[v,f] w fun e w'=>∃v',e=.returned v'∧Zu w' v' (Z1g p l)∧Z3e v'∧(∀b o n c,v'=.slice (some ⟨b,o,none⟩) n c→v.ownBlock=some b∨(Z1g p l)=[])∧Z3 (fun k=>v.ownBlock=some k) w w':=by
 have HI0:=Zbb v f p l w hl (Z7.rd h) hf
 have hf':=hf
 obtain⟨gf,lb,rfl,eg,_⟩:=hf'
 obtain⟨hfo,-⟩:True∧True:=⟨trivial,trivial⟩
 obtain⟨px,hpx⟩:∃px,plc p l=px:=⟨_,rfl⟩
 rw[hpx] at HI0
 have HI:=hD0 HI0
 clear HI0
 rcases Vm p l with⟨h1,h2⟩ | ⟨j,h1,hj,he,hF⟩
 ·obtain rfl:=hpx.symm.trans h1
  obtain⟨a,c,rfl⟩:=(Z7.rd h).form
  have HR:=hD0 h
  clear h hfr hf
  go_enter func122,ntmps122
  go_wp2_with (go_at_call 109;refine HI.out.mono ?_;rintro e w1 ⟨rfl,g1⟩)
  go_ret
  exact⟨_,rfl,by rw[Zdg h2];exact Z7.rd (onw HR.out g1),Z7.cap HR.out,fun b o n k e=>by
   rcases V4 HR.out with⟨e2,z⟩ | ⟨g,cap,e2⟩
   ·exact .inr (by rw[Zdg h2];exact List.length_eq_zero_iff.1 z)
   ·have e3:=e2.symm.trans e
    simp only[Value.slice.injEq,Option.some.injEq,Addr.mk.injEq] at e3
    refine .inl ?_
    rw[e2,←e3.1.1];rfl,Z3.nw g1⟩
 obtain rfl:=hpx.symm.trans h1
 obtain⟨g,cap,rfl,hg0,hgl,_⟩:=Z7.at h hj
 have hcap:=Z7.cap h
 have hcap:l.length≤cap:=hcap
 have d0:((j:Int)==-1)=false:=by simp
 have HX:=hD0 (aI0 he hF)
 have HFr:=hD0 hfr
 have H:=hD0 h
 clear he hF hfr hf h
 go_enter func122,ntmps122
 go_wp2_with (go_at_call 109;refine HI.out.mono ?_;rintro e w1 ⟨rfl,g1⟩)
 have HD:Hid (Del p w w1 g0 g l.length cap j (j+1) l l):=hD0 ⟨by omega,hj,rfl,Z8f hj HX.out.1 HX.out.2,rfl,onw H.out g1,Z3.nw g1⟩
 clear HX H HI g1
 case _ =>
  go_loopw [5,6] (fun i k wr=>∃(a b:Nat) (R:List Rq),i=.int .i64 a∧k=.int .i64 b∧Del p w wr g0 g l.length cap a b l R) (fun _ k _=>l.length-(intOf k).toNat)
  case atStart=>exact⟨j,j+1,l,rfl,by go_num,HD.out⟩
  case round =>
   obtain⟨a,b,R,rfl,rfl,hD⟩:=hrel
   have hab:=hD.ab
   have hbn:=hD.bn
   by_cases Z1:b<l.length
   ·obtain⟨hrb,hRb⟩:=Zgk hD.rest Z1 hD.len
    obtain⟨s,hs⟩:∃s,l[b]=s:=⟨_,rfl⟩
    rw[hs] at hRb
    have Z0:∀c u,(Zi s)[c]?=some u→wr.cell? ⟨g,b*5+c,none⟩=some u:=fun c u hu=>Yq hD.row hD.len.symm b hrb c u (by rw[hRb];exact hu)
    have c0:=Z0 0 _ rfl
    have c1:=Z0 1 _ rfl
    have c2:=Z0 2 _ rfl
    have c3:=Z0 3 _ rfl
    have c4:=Z0 4 _ rfl
    simp only[Nat.add_zero] at c0
    have hgl:=olt hD.row rfl
    have hT:=HFr.out wr (hD.tch.mono fun i _ e=>by rw[e];rfl)
    obtain⟨gf',lb',eqf,_,hTT⟩:=hT
    simp only[Value.func.injEq,Fn.func.injEq,true_and] at eqf
    obtain⟨rfl,rfl⟩:=eqf
    have HE:=hD0 (hTT s)
    obtain⟨B,hB⟩:∃B,p s=B:=⟨_,rfl⟩
    rw[hB] at HE
    have HB:=hD0 (show p l[b]=B by rw[hs];exact hB)
    have HS:=hD0 hs
    have HR:=hD0 hD
    clear hB Z0 hs hRb hTT
    have g6:Nw wr (wr.alloc (.cells #[.int .i64 s.id,.int .i64 s.txn,.int .i64 s.md,.int .i64 s.wt,.int .i64 s.sn] 43)):=(Nw.refl wr).alloc _
    have hq6:=hD0 (RqB.made wr s.id s.txn s.md s.wt s.sn 43)
    cases B
    case true =>
     clear hD
     go_wp2_with (go_at_fn gf;refine(HE.out _ g6).mono ?_;rintro e w1 ⟨rfl,g1⟩)
     go_roundw
     case rel=>exact⟨a,b+1,R,rfl,by go_num,HR.out.skip Z1 HB.out (g6.trans g1)⟩
     case measure=>simp[intOf];omega
    case false =>
     have har:a<R.length:=by have:=hD.len;omega
     have k0:∀c,c<5→∃u,wr.cell? ⟨g,a*5+c,none⟩=some u:=fun c hc=>by
      have:c<(Zi R[a]).length:=hc
      exact⟨_,Yq hD.row hD.len.symm a har c _ (List.getElem?_eq_getElem this)⟩
     obtain⟨y0,a0⟩:=k0 0 (by omega)
     obtain⟨y1,a1⟩:=k0 1 (by omega)
     obtain⟨y2,a2⟩:=k0 2 (by omega)
     obtain⟨y3,a3⟩:=k0 3 (by omega)
     obtain⟨y4,a4⟩:=k0 4 (by omega)
     simp only[Nat.add_zero] at a0
     have fz:=fun c=>Z0h hD.row hD.len.symm c
     have z0:=fz (a*5)
     have z1:=fz (a*5+1)
     have z2:=fz (a*5+2)
     have z3:=fz (a*5+3)
     have z4:=fz (a*5+4)
     have hRl:=hD.len
     have hai:(a:Int)<(l.length:Int):=by omega
     clear k0 fz hD
     go_wp2_with (go_at_fn gf;refine(HE.out _ g6).mono ?_;rintro e w1 ⟨rfl,g1⟩;obtain⟨hc1,hf1⟩:=g1.rls)
     go_roundw
     case rel=>exact⟨a+1,b+1,_,by go_num,by go_num,by have:=HR.out.move rfl Z1 HB.out (g6.trans g1);rw[HS.out] at this;exact this⟩
     case measure=>simp[intOf];omega
   ·have hbe:b=l.length:=by omega
    subst hbe
    have HR:=hD0 hD
    have hlen:=hD.len
    have hcc:∀q,q<(l.length-a)*5→(wr.cell? ⟨g,a*5+q,none⟩).isSome=true:=fun q hq=>Ziu hD.row hlen.symm (a*5+q) (by omega)
    obtain⟨vs,hvs⟩:=Ze0 wr g (a*5) (l.length-a) (cap-a) (by omega) hcc (fun q=>Z0h hD.row hlen.symm q)
    have e1:((l.length:Int)-(a:Int)).toNat=l.length-a:=by omega
    have hne:¬cap=a:=by omega
    clear hD hcc
    go_wp2
    go_ret
    have hfr:=HR.out.front
    rw[List.take_length] at hfr
    have hpl:(Z1g p l).length=a:=by rw[←hfr,List.length_take];omega
    have hT:=Z72 g vs (a*5) wr
    refine⟨_,rfl,⟨_,cap,by rw[hpl];rfl,.inr ⟨g,0,rfl,lL0 (olt HR.out.row rfl) hT.size,fun i hi c u hu=>?_⟩⟩,by show a≤cap;omega,fun b o n c e=>by
     injection e with e _ _
     injection e with e
     injection e with e _ _
     rw[←e];exact .inl rfl,(HR.out.tch.trans hT).mono fun i _ e=>by rw[e];rfl⟩
    have hc:c<5:=by have:=(List.getElem?_eq_some_iff.1 hu).1;simpa [Zi] using this
    rw[Nat.zero_add,World.cell?_setCells_out g vs _ wr _ (fun _ _=>.inl (show i*5+c<a*5 by omega))]
    have hiR:i<R.length:=by omega
    refine Yq HR.out.row hlen.symm i hiR c u ?_
    have hx:(Z1g p l)[i]=R[i]:=by
     have:∀(M:List Rq) (e:R.take a=M) (h:i<M.length),M[i]=R[i]:=fun M e h=>by subst e;simp
     exact this _ hfr hi
    rw[←hx];exact hu
section
open Go.RowKit Go.Maps Go.ChangeMaps
theorem Zik(p:Rq→Bool)(q:List Rq):(plc p q != -1)=q.any p:=by
  rw[←Zdi]
  rcases Vm p q with⟨h1,_⟩ | ⟨k,h1,_⟩
  · rw[h1];rfl
  · rw[h1]
    have:((k:Int) != -1)=true:=by rw[bne_iff_ne];omega
    rw[this];simp
theorem Znq{α:Type}(q:List α)(a b:α→Bool):(q.any fun x=>a x || b x)=(q.any a || q.any b):=by
  induction q with
  | nil=>rfl
  | cons x q ih=>rw[List.any_cons,List.any_cons,List.any_cons,ih];cases a x<;>cases b x<;>cases q.any a<;>cases q.any b<;>rfl
def Zx(w:World)(v:Value)(q:List Rq):Prop:=∀b o n c,v=.slice (some ⟨b,o,none⟩) n c→w.heap.size≤b∨q=[]
theorem Zx.nil(w:World)(q:List Rq):Zx w (.slice none 0 0) q:=fun b o n c e=>by simp at e
theorem Z7.fresh{w w0:World}{g0:Nat}{v:Value}{q:List Rq}(h:Z7 w g0 v q)(hb:w0.heap.size≤g0):Zx w0 v q:=fun b o n c e=>by
  subst e
  exact .inl (Nat.le_trans hb (oge h rfl))
theorem Zx.old{w0 w:World}{v:Value}{q:List Rq}(h:Zx w v q)(g:Nw w0 w):Zx w0 v q:=fun b o n c e=>(h b o n c e).imp (fun h=>Nat.le_trans g.sz h) (fun h=>h)
def HD2(X:Hq × Bool × Int)(w:World)(e:Ending)(w':World):Prop:=∃v',e=.returned (.tuple #[Un X.1.t X.1.r v' X.1.W,.bool X.2.1,.int .i64 X.2.2])∧Nw w w'∧Zu w' v' X.1.q∧Z3e v'∧Zx w v' X.1.q
def HD1(X:Hq × Int)(w:World)(e:Ending)(w':World):Prop:=∃v',e=.returned (.tuple #[Un X.1.t X.1.r v' X.1.W,.int .i64 X.2])∧Nw w w'∧Zu w' v' X.1.q∧Z3e v'∧Zx w v' X.1.q
theorem Ln.done{w:World}{g0 p:Nat}{t r W:Int}{v:Value}{b n:Nat}{q:List Rq}{c:Int→Int}(h:Ln w g0 p t r W v b n q c){rb:Nat}(hb:rb<g0)(u0 u1 u2 u3:Value) :
    Zu ((((w.setCell ⟨rb,0,none⟩ u0).setCell ⟨rb,1,none⟩ u1).setCell ⟨rb,2,none⟩ u2).setCell ⟨rb,3,none⟩ u3) v q∧Z3e v:=⟨(Z4y h.own hb _ _ _ _).rd,h.own.cap⟩
theorem Zny(t r W id x m:Int)(v:Value)(q:List Rq)(w:World)(hl:q.length≤900)(hok:Ok W q)(h:Zu w v q) :
    Calls prog 53 #[Un t r v W,.int .i64 id,.int .i64 x,.int .i64 m] w (HD2 (Z0a ⟨t,r,W,q⟩ id x m) w):=by
  obtain⟨X,hX⟩:∃X,Z0a ⟨t,r,W,q⟩ id x m=X:=⟨_,rfl⟩
  rw[hX]
  have HLo:=hD0 (fun w=>Z69 m w)
  have hat:=h
  obtain⟨a,c,rfl⟩:=h.form
  unfold HD2 Un
  have HX:=hD0 (Y6 w (.cells #[.int .i64 t,.int .i64 r,.slice a q.length c,.int .i64 W] 83) (.cells #[.int .i64 0,.int .i64 0,.slice none 0 0,.int .i64 0] 83))
  obtain⟨y,hy⟩:∃y,((m != 0)&&Zq m)=y:=⟨_,rfl⟩
  rw[hy] at HLo
  by_cases hi:id<0
  · subst hX
    rw[Zcf (h:=⟨t,r,W,q⟩) (.inl hi)]
    have di:decide (id<0)=true:=by simpa using hi
    have hq1:=HX.out.2.1
    have fz:=fun k=>hfz (j:=k) hq1
    have hsl2:=Z1 hq1
    have HQ:=hD0 HX.out.2.2.1
    have d0:=Z0 (j:=0) hq1
    have d1:=Z0 (j:=1) hq1
    have d2:=Z0 (j:=2) hq1
    have d3:=Z0 (j:=3) hq1
    clear hq1 hi hy hat h hok HX HLo
    go_enter func53,ntmps53
    go_wp2
    exact bodyPost_ret (v:=.tuple #[.agg #[.int .i64 0,.int .i64 0,.slice none 0 0,.int .i64 0],.bool false,.int .i64 2]) (by simp only[results,results53];simp[go_sem, *]) rfl ⟨_,rfl,HQ.out,Rd.nil _,Nat.le_refl _,Zx.nil _ _⟩
  have di:decide (id<0)=false:=by simpa using hi
  cases y
  · subst hX
    rw[Zcf (h:=⟨t,r,W,q⟩) (by cases e:Zq m with | false=>exact .inr (.inr rfl) | true=>rw[e,Bool.and_true] at hy;exact .inr (.inl (by simpa using hy)))]
    clear hi hy hat h hok
    go_enter func53,ntmps53
    go_wp2_with fail
    go_at_call 77
    refine(HLo.out _).mono ?_
    rintro e w1 ⟨rfl,g1⟩
    have hq1:=g1.at' HX.out.2.1
    have HQ:=hD0 (HX.out.2.2.1.trans g1)
    have d0:=Z0 (j:=0) hq1
    have d1:=Z0 (j:=1) hq1
    have d2:=Z0 (j:=2) hq1
    have d3:=Z0 (j:=3) hq1
    have fz:=fun k=>hfz (j:=k) hq1
    have hsl2:=Z1 hq1
    clear g1 hq1 HX HLo
    go_wp2
    exact bodyPost_ret (v:=.tuple #[.agg #[.int .i64 0,.int .i64 0,.slice none 0 0,.int .i64 0],.bool false,.int .i64 2]) (by simp only[results,results53];simp[go_sem, *]) rfl ⟨_,rfl,Zh HQ.out (Nat.le_succ _) _ _ _ _,Rd.nil _,Nat.le_refl _,Zx.nil _ _⟩
  have hgood:¬(id<0∨m=0∨Zq m=false):=by
    rw[Bool.and_eq_true,bne_iff_ne] at hy
    rintro(e | e | e)
    · exact hi e
    · exact hy.1 e
    · rw[hy.2] at e;cases e
  have hkm:Zq m=true:=by
    rw[Bool.and_eq_true] at hy
    exact hy.2
  obtain⟨px,hpx⟩:∃px,plc (fun R=>R.id==id) q=px:=⟨_,rfl⟩
  obtain⟨py,hpy⟩:∃py,plc (fun R=>R.txn==x) q=py:=⟨_,rfl⟩
  have hFi:=fun(w1:World) (g:Nw w w1) (f:Value) (hf:Zn w1 f (fun R=>R.id==id))=>Z3g t r W (.slice a q.length c) f _ q w1 (by omega) (hat.nw g) hf
  have hFt:=fun(w1:World) (g:Nw w w1) (f:Value) (hf:Zn w1 f (fun R=>R.txn==x))=>Z3g t r W (.slice a q.length c) f _ q w1 (by omega) (hat.nw g) hf
  rw[hpx] at hFi
  rw[hpy] at hFt
  unfold Un at hFi hFt
  have HFi:=hD0 hFi
  have HFt:=hD0 hFt
  have HLi:=hD0 (fun(w1:World) (g:Nw w w1)=>Z7o t r W (.slice a q.length c) q w1 (by omega) (fun R hR=>(hok.rt R hR).md) (hat.nw g))
  unfold Un at HLi
  have hany:(q.any fun R=>R.id==id || R.txn==x)=((px != -1) || (py != -1)):=by rw[Znq,←Zik (fun R=>R.id==id),←Zik (fun R=>R.txn==x),hpx,hpy]
  obtain⟨bx,hbx⟩:∃bx,(px != -1)=bx:=⟨_,rfl⟩
  obtain⟨b2,hb2⟩:∃b2,(py != -1)=b2:=⟨_,rfl⟩
  rw[hbx,hb2] at hany
  clear hFi hFt hpx hpy
  have HWi:=hD0 (Z14 id)
  have HTx:=hD0 (Zge x)
  go_enter func53,ntmps53
  go_wp2_with fail
  go_at_call 77
  refine(HLo.out _).mono ?_
  rintro e w1 ⟨rfl,g1⟩
  have HB1:=hD0 (aI0 (g1.at' HX.out.1) (aI0 (g1.at' HX.out.2.1) (HX.out.2.2.1.trans g1)))
  have hp1:=g1.at' HX.out.1
  have hN1:=HX.out.2.2.1.trans g1
  have s0:∀z,Nw w1 z→z.cell? ⟨w.heap.size,0,none⟩=some (.int .i64 t):=fun z hz=>hz.kp (Z0 (j:=0) hp1)
  have s1:∀z,Nw w1 z→z.cell? ⟨w.heap.size,1,none⟩=some (.int .i64 r):=fun z hz=>hz.kp (Z0 (j:=1) hp1)
  have s2:∀z,Nw w1 z→z.cell? ⟨w.heap.size,2,none⟩=some (.slice a q.length c):=fun z hz=>hz.kp (Z0 (j:=2) hp1)
  have s3:∀z,Nw w1 z→z.cell? ⟨w.heap.size,3,none⟩=some (.int .i64 W):=fun z hz=>hz.kp (Z0 (j:=3) hp1)
  clear hp1 g1 HX HLo
  go_wp2
  have q1:=(Nw.refl w1).drewQ
  obtain⟨wc,hwc⟩:∃wc,w1.drew=wc:=⟨_,rfl⟩
  have HH:=hD0 (aI0 hok hat)
  clear hok hat h hi
  cases bx<;>cases b2
  all_goals
   refine Z5 [some true,some true,some false,none,some false,none,some true,some true,some true,some true,some false,none,some false,none,some true,some true,some true] (Nw w1) (by kernel_rfl) (by kernel_rfl) (by kernel_rfl) q1 ?_
   rw[hwc] at q1 ⊢
   clear hwc
   repeat (first
    | (refine HW.off ?_)
    | (refine HW.take' ?_;(first | (refine⟨undef,Or.inr ⟨by rfl,rfl⟩,?_⟩) | (apply Exists.intro;refine⟨Or.inl ⟨by rfl,?_⟩,?_⟩;(intro x hx;go_simp;first | done | with_reducible rfl)));(try simp only[Act.put,List.setIfInBounds_toArray,List.set_cons_zero,List.set_cons_succ]))
    | (refine HW.go (fun K hK=>?_);go_simp;(first
      | (go_at_call 79;(with_reducible refine(HWi.out _).mono ?_);rintro e wy ⟨pa,rfl,g2,hbx⟩;refine hK.out _ _ (q1.trans g2) ?_;intro _;replace q1:=q1.trans g2;clear hK K g2;replace hbx:=Zn.withID hbx)
      | (go_at_call 80;(with_reducible refine(HTx.out _).mono ?_);rintro e wy ⟨pa,rfl,g2,hbx⟩;refine hK.out _ _ (q1.trans g2) ?_;intro _;replace q1:=q1.trans g2;clear hK K g2;replace hbx:=Zn.ofTxn hbx)
      | (go_at_call 78;(first | (with_reducible refine(HFi.out _ (HB1.out.2.2.trans q1) _ hbx).mono ?_) | (with_reducible refine(HFt.out _ (HB1.out.2.2.trans q1) _ hbx).mono ?_));rintro e wy ⟨rfl,g2⟩;refine hK.out _ _ (q1.trans g2) ?_;intro _;replace q1:=q1.trans g2;clear hK K g2 hbx)
      | (refine hK.out _ _ q1 ?_;intro _;clear hK K))))
   refine HW.end_ ?_
   refine NoPanic.normal ?_
  · have hq1:=q1.at' HB1.out.2.1
    have hp1:=q1.at' HB1.out.1
    have HQ:=hD0 (aI0 hq1 (HB1.out.2.2.trans q1))
    have c0:=Z0 (j:=0) hp1
    have c1:=Z0 (j:=1) hp1
    have c2:=Z0 (j:=2) hp1
    have c3:=Z0 (j:=3) hp1
    have hpl:=Z1 hp1
    have HXX:=hD0 (aI0 hX (aI0 hgood hany))
    clear hq1 hp1 q1 s0 s1 s2 s3 hX hgood hany HB1 HFi HFt HWi HTx hN1 hy
    go_wp2_with fail
    go_at_call 81
    refine(HLi.out _ HQ.out.2).mono ?_
    rintro e w2 ⟨p,v1,b,n,rfl,g2,hL2,hnq⟩
    have HQ2:=hD0 HQ.out
    clear c0 c1 c2 c3 hpl HLi HQ
    have hA:=Zr5 hL2 ⟨id,x,0,m,0⟩ rfl (fun y=>by have:=Z28 q y;omega) (by omega) (by omega)
    unfold rqV at hA
    simp only at hA
    have HA:=hD0 hA
    have HG2:=hD0 g2
    clear hA hL2 g2
    go_wp2_with fail
    go_at_call 83
    refine HA.out.mono ?_
    rintro e w3 ⟨rfl,v2,hL3,g3⟩
    have hlk:q.length<(q++[(⟨id,x,0,m,0⟩:Rq)]).length:=by simp
    have hke:(q++[(⟨id,x,0,m,0⟩:Rq)])[q.length]'hlk=⟨id,x,0,m,0⟩:=by simp
    obtain⟨fr,hfr⟩:∃fr,free q m=fr:=⟨_,rfl⟩
    have hE:=Zco (hL3.eq (Z68 q ⟨id,x,0,m,0⟩).symm) q.length hlk ⟨HH.out.1.w0,HH.out.1.wB⟩ (fun R hR=>by
      rcases List.mem_append.1 hR with hR | hR
      · exact(HH.out.1.rt R hR).md
      · rw[List.mem_singleton] at hR;subst hR;rfl) (by omega) (by simp;omega) ⟨id,x,0,m,0⟩ hke hkm fr ((Znr HH.out.1 id x m).trans hfr)
    simp only[enR] at hE
    have HE:=hD0 hE
    have HG3:=hD0 (aI0 HG2.out g3)
    clear hE hL3 g3 HA HG2 hke
    go_wp2_with fail
    go_at_call 82
    refine HE.out.mono ?_
    rintro e w5 ⟨rfl,g4,n5,_,hL5⟩
    have g5:Nw wy w5:=Below.trans (Below.trans HG3.out.1 HG3.out.2) g4
    obtain⟨hX,hgood,hany⟩:=HXX.out
    clear HE HG3 HXX
    have Vq:∀R:Rq,(q++[(⟨id,x,0,m,0⟩:Rq)]).set q.length R=q++[R]:=fun R=>by simp
    cases fr
    · have hR:=hX.symm.trans (Zns (h:=⟨t,r,W,q⟩) hgood hany (by rw[hfr];simp))
      subst hR
      simp only[Bool.false_eq_true,if_false] at hL5
      rw[Vq] at hL5
      obtain⟨a2,k2,hv2⟩:=(Z7.rd hL5.own).form
      obtain⟨n2,hn2⟩:∃n,(q++[(⟨id,x,0,m,W+1⟩:Rq)]).length=n:=⟨_,rfl⟩
      rw[hn2] at hv2
      subst hv2
      have HL5:=hD0 hL5
      have hpl:=Z1 hL5.obj
      have e0:=Z0 (j:=0) hL5.obj
      have e1:=Z0 (j:=1) hL5.obj
      have e2:=Z0 (j:=2) hL5.obj
      have e3:=Z0 (j:=3) hL5.obj
      have hq5:=g5.at' HQ2.out.1
      have HN5:=hD0 (HQ2.out.2.trans g5)
      have HS:=hD0 (Z1 HQ2.out.1)
      have HQF:=hD0 (HQ2.out.2.sz)
      have d0:=Z0 (j:=0) hq5
      have d1:=Z0 (j:=1) hq5
      have d2:=Z0 (j:=2) hq5
      have d3:=Z0 (j:=3) hq5
      have fz:=fun k=>hfz (j:=k) hq5
      have hsl2:=Z1 hq5
      clear hL5 Vq hq5 g5 HQ2 hn2 hX hfr
      go_wp2
      exact bodyPost_ret (v:=.tuple #[.agg #[.int .i64 t,.int .i64 r,.slice a2 n2 k2,.int .i64 (W+1)],.bool false,.int .i64 0]) (by simp only[results,results53];simp[go_sem, *]) rfl ⟨_,rfl,Zh HN5.out (Nat.le_succ _) _ _ _ _,(HL5.out.done HS.out _ _ _ _).1,HL5.out.own.cap,HL5.out.own.fresh HQF.out⟩
    · have hR:=hX.symm.trans (Zk4 (h:=⟨t,r,W,q⟩) hgood hany (by rw[hfr]))
      subst hR
      simp only[if_true] at hL5
      rw[Vq] at hL5
      obtain⟨a2,k2,hv2⟩:=(Z7.rd hL5.own).form
      obtain⟨n2,hn2⟩:∃n,(q++[(⟨id,x,m,m,0⟩:Rq)]).length=n:=⟨_,rfl⟩
      rw[hn2] at hv2
      subst hv2
      have HL5:=hD0 hL5
      have hpl:=Z1 hL5.obj
      have e0:=Z0 (j:=0) hL5.obj
      have e1:=Z0 (j:=1) hL5.obj
      have e2:=Z0 (j:=2) hL5.obj
      have e3:=Z0 (j:=3) hL5.obj
      have hq5:=g5.at' HQ2.out.1
      have HN5:=hD0 (HQ2.out.2.trans g5)
      have HS:=hD0 (Z1 HQ2.out.1)
      have HQF:=hD0 (HQ2.out.2.sz)
      have d0:=Z0 (j:=0) hq5
      have d1:=Z0 (j:=1) hq5
      have d2:=Z0 (j:=2) hq5
      have d3:=Z0 (j:=3) hq5
      have fz:=fun k=>hfz (j:=k) hq5
      have hsl2:=Z1 hq5
      clear hL5 Vq hq5 g5 HQ2 hn2 hX hfr
      go_wp2
      exact bodyPost_ret (v:=.tuple #[.agg #[.int .i64 t,.int .i64 r,.slice a2 n2 k2,.int .i64 W],.bool true,.int .i64 0]) (by simp only[results,results53];simp[go_sem, *]) rfl ⟨_,rfl,Zh HN5.out (Nat.le_succ _) _ _ _ _,(HL5.out.done HS.out _ _ _ _).1,HL5.out.own.cap,HL5.out.own.fresh HQF.out⟩
  · have hR:=hX.symm.trans (Z7c (h:=⟨t,r,W,q⟩) hgood hany)
    subst hR
    have hq1:=q1.at' HB1.out.2.1
    have HQ:=hD0 (HB1.out.2.2.trans q1)
    have d0:=Z0 (j:=0) hq1
    have d1:=Z0 (j:=1) hq1
    have d2:=Z0 (j:=2) hq1
    have d3:=Z0 (j:=3) hq1
    have fz:=fun k=>hfz (j:=k) hq1
    have hsl2:=Z1 hq1
    clear hq1 q1 s0 s1 s2 s3 hX hgood hany HB1 HFi HFt HLi HWi HTx HH hN1 hy hkm
    go_wp2
    exact bodyPost_ret (v:=.tuple #[.agg #[.int .i64 0,.int .i64 0,.slice none 0 0,.int .i64 0],.bool false,.int .i64 4]) (by simp only[results,results53];simp[go_sem, *]) rfl ⟨_,rfl,Zh HQ.out (Nat.le_succ _) _ _ _ _,Rd.nil _,Nat.le_refl _,Zx.nil _ _⟩
  · have hR:=hX.symm.trans (Z7c (h:=⟨t,r,W,q⟩) hgood hany)
    subst hR
    have hq1:=q1.at' HB1.out.2.1
    have HQ:=hD0 (HB1.out.2.2.trans q1)
    have d0:=Z0 (j:=0) hq1
    have d1:=Z0 (j:=1) hq1
    have d2:=Z0 (j:=2) hq1
    have d3:=Z0 (j:=3) hq1
    have fz:=fun k=>hfz (j:=k) hq1
    have hsl2:=Z1 hq1
    clear hq1 q1 s0 s1 s2 s3 hX hgood hany HB1 HFi HFt HLi HWi HTx HH hN1 hy hkm
    go_wp2
    exact bodyPost_ret (v:=.tuple #[.agg #[.int .i64 0,.int .i64 0,.slice none 0 0,.int .i64 0],.bool false,.int .i64 4]) (by simp only[results,results53];simp[go_sem, *]) rfl ⟨_,rfl,Zh HQ.out (Nat.le_succ _) _ _ _ _,Rd.nil _,Nat.le_refl _,Zx.nil _ _⟩
  · have hR:=hX.symm.trans (Z7c (h:=⟨t,r,W,q⟩) hgood hany)
    subst hR
    have hq1:=q1.at' HB1.out.2.1
    have HQ:=hD0 (HB1.out.2.2.trans q1)
    have d0:=Z0 (j:=0) hq1
    have d1:=Z0 (j:=1) hq1
    have d2:=Z0 (j:=2) hq1
    have d3:=Z0 (j:=3) hq1
    have fz:=fun k=>hfz (j:=k) hq1
    have hsl2:=Z1 hq1
    clear hq1 q1 s0 s1 s2 s3 hX hgood hany HB1 HFi HFt HLi HWi HTx HH hN1 hy hkm
    go_wp2
    exact bodyPost_ret (v:=.tuple #[.agg #[.int .i64 0,.int .i64 0,.slice none 0 0,.int .i64 0],.bool false,.int .i64 4]) (by simp only[results,results53];simp[go_sem, *]) rfl ⟨_,rfl,Zh HQ.out (Nat.le_succ _) _ _ _ _,Rd.nil _,Nat.le_refl _,Zx.nil _ _⟩
end
theorem Z4j(q:List Rq)(id:Int):Zr3 q id (plc (fun R=>R.id==id) q):=by
 rcases Vm (fun R=>R.id==id) q with⟨h1,h2⟩ | ⟨k,h1,hk,h3,h4⟩
 ·refine .inl ⟨h1,?_⟩
  unfold Va
  rw[List.find?_eq_none]
  intro x hx;rw[h2 x hx];simp
 ·refine .inr ⟨k,h1,hk,?_⟩
  unfold Va
  have e:=Z5l q k hk
  conv=>lhs;rw[e]
  rw[List.find?_append,List.find?_cons,h3]
  have:(q.take k).find? (fun r=>r.id==id)=none:=by
   rw[List.find?_eq_none]
   intro x hx
   obtain⟨i,hi,rfl⟩:=List.getElem_of_mem hx
   simp at hi
   have:=h4 i (by omega) (by omega)
   simpa using this
  rw[this];rfl
theorem Zgi(i:Int)(w:World):Calls prog 79 #[.int .i64 i] w fun e w'=>∃p,e=.returned (.func (.func 110) #[] #[.pointer (some ⟨p,0,none⟩)])∧Nw w w'∧w'.cell? ⟨p,0,none⟩=some (.int .i64 i)∧w.heap.size≤p:=by
 go_enter func79,ntmps79
 go_wp2
 go_ret
 exact⟨_,rfl,(Nw.refl _).alloc _,Z0 (Z2 w _),Nat.le_refl _⟩
theorem Za7{w:World}{v:Value}{q:List Rq}{w0:World}(h:Zu w v q)(hf:Zx w0 v q){p:Addr}(hp:p.block<w0.heap.size)(u:Value):Zu (w.setCell p u) v q:=by
 obtain⟨a,c,rfl,⟨rfl,hh⟩ | ⟨b,o,rfl,hc⟩⟩:=h
 ·exact⟨a,c,rfl,.inl ⟨rfl,hh⟩⟩
 ·rcases hf b o _ _ rfl with hb | rfl
  ·refine⟨_,c,rfl,.inr ⟨b,o,rfl,⟨lL0 hc.lt (Ve w p u).size,fun i hi k x hx=>?_⟩⟩⟩
   have e:=(Ve w p u).block b hc.lt (fun e=>by have:=Option.some.inj e;omega)
   exact(World.cell?_of_block e).trans (hc.cell i hi k x hx)
  ·exact⟨_,c,rfl,.inr ⟨b,o,rfl,⟨lL0 hc.lt (Ve w p u).size,fun i hi=>by simp at hi⟩⟩⟩
theorem Z87{w:World}{v:Value}{q:List Rq}{w0:World}(h:Zu w v q)(hf:Zx w0 v q){rb:Nat}(hp:rb<w0.heap.size)(u0 u1 u2 u3:Value):Zu ((((w.setCell ⟨rb,0,none⟩ u0).setCell ⟨rb,1,none⟩ u1).setCell ⟨rb,2,none⟩ u2).setCell ⟨rb,3,none⟩ u3) v q :=
 Za7 (Za7 (Za7 (Za7 h hf (p:=⟨rb,0,none⟩) hp u0) hf (p:=⟨rb,1,none⟩) hp u1) hf (p:=⟨rb,2,none⟩) hp u2) hf (p:=⟨rb,3,none⟩) hp u3
theorem Z8w(t r W id:Int)(v:Value)(q:List Rq)(w:World)(hl:q.length≤1000)(h:Zu w v q) :
  Calls prog 90 #[Un t r v W,.int .i64 id] w fun e w'=>∃v',e=.returned (Un t r v' W)∧Nw w w'∧Zu w' v' (lvQ id q)∧Z3e v'∧Zx w v' (lvQ id q):=by
 have HCl:=hD0 (fun(w1:World) (g:Nw w w1)=>Z4s v q w1 hl (h.nw g))
 have HWi:=hD0 (Zgi id)
 unfold Un
 obtain⟨a,c,rfl,_⟩:=h
 have HX:=hD0 (Y6 w (.cells #[.int .i64 t,.int .i64 r,.slice a q.length c,.int .i64 W] 83) (.cells #[.int .i64 0,.int .i64 0,.slice none 0 0,.int .i64 0] 83))
 go_enter func90,ntmps90
 go_wp2_with fail
 go_at_call 92
 refine(HCl.out _ HX.out.2.2.1).mono ?_
 rintro e w2 ⟨v1,rfl,g2,hO⟩
 have hq2:=g2.at' HX.out.2.1
 have hp2:=g2.at' HX.out.1
 have HQ:=hD0 (aI0 hp2 (aI0 hq2 (HX.out.2.2.1.trans g2)))
 have hs2:w.heap.size+1+1≤w2.heap.size:=by have:=g2.sz;rw[HX.out.2.2.2] at this;exact this
 have HO:=hD0 (Zby hO (g1:=w.heap.size+1+1) (fun g hg=>by have:=oge hO hg;rw[HX.out.2.2.2] at this;exact this))
 clear hO g2 HCl HX hq2 hp2
 go_wp2_with fail
 go_at_call 79
 refine(HWi.out _).mono ?_
 rintro e w3 ⟨pa,rfl,g3,hc3,hge⟩
 have HD:=hD0 (Zkg (fun R=>R.id==id) _ (w.heap.size+1+1) v1 q w3 hl (onw HO.out g3) (Zn.withID hc3) (fun w4 hT=>by
  refine Zn.withID ((hT.cell (World.block_lt_of_cell? _ _ hc3) (fun e=>?_)).trans hc3)
  have:=olt HO.out e
  simp only at this hge
  omega))
 have HG3:=hD0 g3
 obtain⟨a1,c1,hv1⟩:=(Z7.rd HO.out).form
 subst hv1
 clear g3 hc3 hge HWi
 go_wp2_with fail
 go_at_call 122
 refine HD.out.mono ?_
 rintro e w4 ⟨v4,rfl,hR,hcap,hfr,hT⟩
 have HR:=hD0 (aI0 hR (aI0 hcap (show Zx ((w.alloc (.cells #[.int .i64 t,.int .i64 r,.slice a q.length c,.int .i64 W] 83)).alloc (.cells #[.int .i64 0,.int .i64 0,.slice none 0 0,.int .i64 0] 83)) v4 (lvQ id q) from fun b o n c e=>by
  rcases hfr b o n c e with h | h
  ·have:=oge HO.out h
   exact .inl (by simpa using this)
  ·exact .inr h)))
 have HN:=hD0 (Yu (HQ.out.2.2.trans HG3.out) hT (fun i e=>by have:=oge HO.out e;omega))
 have hpl3:w.heap.size<w3.heap.size:=by have:=HG3.out.sz;omega
 have hpl3':w.heap.size+1<w3.heap.size:=by have:=HG3.out.sz;omega
 have hp4:=(hT.block w.heap.size hpl3 (fun e=>by have:=oge HO.out e;omega)).trans (HG3.out.at' HQ.out.1)
 have hq4:=(hT.block (w.heap.size+1) hpl3' (fun e=>by have:=oge HO.out e;omega)).trans (HG3.out.at' HQ.out.2.1)
 obtain⟨a4,c4,hv4⟩:=hR.form
 obtain⟨n4,hn4⟩:∃n,(Z1g (fun R=>R.id==id) q).length=n:=⟨_,rfl⟩
 rw[hn4] at hv4
 subst hv4
 have c0:=Z0 (j:=0) hp4
 have c1':=Z0 (j:=1) hp4
 have c2:=Z0 (j:=2) hp4
 have c3:=Z0 (j:=3) hp4
 have fp:=fun k=>hfz (j:=k) hp4
 have d0:=Z0 (j:=0) hq4
 have d1:=Z0 (j:=1) hq4
 have d2:=Z0 (j:=2) hq4
 have d3:=Z0 (j:=3) hq4
 have fz:=fun k=>hfz (j:=k) hq4
 have hs4:=Z1 hp4
 have hs5:=Z1 hq4
 clear hp4 hq4 hT hR hcap hn4 hpl3 hpl3' HD HO HG3 HQ hs2
 go_wp2
 exact bodyPost_ret (v:=.agg #[.int .i64 t,.int .i64 r,.slice a4 n4 c4,.int .i64 W]) (by simp only[results,results90];simp[go_sem, *]) rfl ⟨_,rfl,Zh (HN.out.st (Nat.le_refl _) _) (Nat.le_succ _) _ _ _ _,Z87 (w0:=(w.alloc (.cells #[.int .i64 t,.int .i64 r,.slice a q.length c,.int .i64 W] 83)).alloc (.cells #[.int .i64 0,.int .i64 0,.slice none 0 0,.int .i64 0] 83)) (Za7 (w0:=(w.alloc (.cells #[.int .i64 t,.int .i64 r,.slice a q.length c,.int .i64 W] 83)).alloc (.cells #[.int .i64 0,.int .i64 0,.slice none 0 0,.int .i64 0] 83)) HR.out.1 HR.out.2.2 (p:=⟨w.heap.size,2,none⟩) (by simp;omega) _) HR.out.2.2 (by simp) _ _ _ _,HR.out.2.1,fun b o n c e=>(HR.out.2.2 b o n c e).imp (fun h=>by simp at h;omega) (fun h=>h)⟩
theorem Zba(t r W id:Int)(v:Value)(q:List Rq)(w:World)(hl:q.length≤1000)(h:Zu w v q) :
  Calls prog 63 #[Un t r v W,.int .i64 id] w fun e w'=>e=.returned (Z60 q id)∧Nw w w':=by
 obtain⟨V,hV⟩:∃V,Z60 q id=V:=⟨_,rfl⟩
 rw[hV]
 obtain⟨px,hpx⟩:∃px,plc (fun R=>R.id==id) q=px:=⟨_,rfl⟩
 have hFi:=fun(w1:World) (g:Nw w w1) (f:Value) (hf:Zn w1 f (fun R=>R.id==id))=>Z3g t r W v f _ q w1 hl (h.nw g) hf
 rw[hpx] at hFi
 have HAt:=hD0 h
 obtain⟨a,c,rfl,_⟩:=h
 unfold Un at hFi ⊢
 have HFi:=hD0 hFi
 clear hFi
 have HWi:=hD0 (Z14 id)
 obtain⟨hx1,hx2,hx3,hx4⟩:=Y6 w (.cells #[.int .i64 t,.int .i64 r,.slice a q.length c,.int .i64 W] 83) (.cells #[.int .i64 0,.int .i64 0,.int .i64 0,.int .i64 0,.int .i64 0] 43)
 obtain⟨w1,hw1⟩:∃w1,(w.alloc (.cells #[.int .i64 t,.int .i64 r,.slice a q.length c,.int .i64 W] 83)).alloc (.cells #[.int .i64 0,.int .i64 0,.int .i64 0,.int .i64 0,.int .i64 0] 43)=w1:=⟨_,rfl⟩
 rw[hw1] at hx1 hx2 hx3
 have HB1:=hD0 (aI0 (aI0 hx1 hx2) hx3)
 have s0:∀z,Nw w1 z→z.cell? ⟨w.heap.size,0,none⟩=some (.int .i64 t):=fun z hz=>hz.kp (Z0 (j:=0) hx1)
 have s1:∀z,Nw w1 z→z.cell? ⟨w.heap.size,1,none⟩=some (.int .i64 r):=fun z hz=>hz.kp (Z0 (j:=1) hx1)
 have s2:∀z,Nw w1 z→z.cell? ⟨w.heap.size,2,none⟩=some (.slice a q.length c):=fun z hz=>hz.kp (Z0 (j:=2) hx1)
 have s3:∀z,Nw w1 z→z.cell? ⟨w.heap.size,3,none⟩=some (.int .i64 W):=fun z hz=>hz.kp (Z0 (j:=3) hx1)
 clear hx1 hx2 hx3 hx4
 have HW1:=hD0 hw1
 clear hw1
 have q1:=(Nw.refl w1).drewQ
 obtain⟨wc,hwc⟩:∃wc,w1.drew=wc:=⟨_,rfl⟩
 go_enter func63,ntmps63
 go_wp2
 rw[HW1.out]
 refine Z5 [some true,some true,some false,none,some false,none,some true] (Nw w1) (by kernel_rfl) (by kernel_rfl) (by kernel_rfl) q1 ?_
 rw[hwc] at q1 ⊢
 clear hwc
 repeat (first
  | (refine HW.off ?_)
  | (refine HW.take' ?_;(first | (refine⟨undef,Or.inr ⟨by rfl,rfl⟩,?_⟩) | (apply Exists.intro;refine⟨Or.inl ⟨by rfl,?_⟩,?_⟩;(intro x hx;go_simp;first | done | with_reducible rfl)));(try simp only[Act.put,List.setIfInBounds_toArray,List.set_cons_zero,List.set_cons_succ]))
  | (refine HW.go (fun K hK=>?_);go_simp;(first
   | (go_at_call 79;(with_reducible refine(HWi.out _).mono ?_);rintro e wy ⟨pa,rfl,g2,hbx⟩;refine hK.out _ _ (q1.trans g2) ?_;intro _;replace q1:=q1.trans g2;clear hK K g2;replace hbx:=Zn.withID hbx)
   | (go_at_call 78;(with_reducible refine(HFi.out _ (HB1.out.2.trans q1) _ hbx).mono ?_);rintro e wy ⟨rfl,g2⟩;refine hK.out _ _ (q1.trans g2) ?_;intro _;replace q1:=q1.trans g2;clear hK K g2 hbx)
   | (refine hK.out _ _ q1 ?_;intro _;clear hK K))))
 refine HW.end_ ?_
 refine NoPanic.normal ?_
 have HN:=hD0 (HB1.out.2.trans q1)
 have hp1:=q1.at' HB1.out.1.1
 have hq1:=q1.at' HB1.out.1.2
 have c0:=Z0 (j:=0) hp1
 have c1:=Z0 (j:=1) hp1
 have c2:=Z0 (j:=2) hp1
 have c3:=Z0 (j:=3) hp1
 have hpl:=Z1 hp1
 have d0:=Z0 (j:=0) hq1
 have d1:=Z0 (j:=1) hq1
 have d2:=Z0 (j:=2) hq1
 have d3:=Z0 (j:=3) hq1
 have d4:=Z0 (j:=4) hq1
 have fz:=fun k=>hfz (j:=k) hq1
 have hsl2:=Z1 hq1
 rcases Z4j q id with⟨e1,hf⟩ | ⟨k,e1,hk,hf⟩
 ·obtain rfl:=hpx.symm.trans e1
  have HF:=hD0 (hV.symm.trans (show Z60 q id=.tuple #[rqV ⟨0,0,0,0,0⟩,.bool false] by unfold Z60;rw[hf]))
  clear hpx hV e1 hf s0 s1 s2 s3 HB1 HFi HWi HAt HW1 q1 hp1 hq1
  go_wp2
  refine bodyPost_ret (v:=.tuple #[.agg #[.int .i64 0,.int .i64 0,.int .i64 0,.int .i64 0,.int .i64 0],.bool false]) (by simp only[results,results63];simp[go_sem, *]) rfl ⟨by rw[HF.out];rfl,?_⟩
  exact((((HN.out.st (Nat.le_succ _) _).st (Nat.le_succ _) _).st (Nat.le_succ _) _).st (Nat.le_succ _) _).st (Nat.le_succ _) _
 ·obtain rfl:=hpx.symm.trans e1
  rcases(HAt.out.nw HN.out) with⟨a',c',e3,⟨e4,_⟩ | ⟨b,o,e4,hc⟩⟩
  ·subst e4;simp at hk
  simp only[Value.slice.injEq,true_and] at e3
  obtain⟨rfl,rfl⟩:=e3
  subst e4
  have hce:=hc.cell k hk
  have dk:((k:Int)==-1)=false:=by simp
  have hki:(k:Int)<(q.length:Int):=by omega
  have HF:=hD0 (hV.symm.trans (show Z60 q id=.tuple #[rqV q[k],.bool true] by unfold Z60;rw[hf]))
  clear hpx hV e1 hf s0 s1 s2 s3 HB1 HFi HWi HAt HW1 q1 hp1 hq1 hc
  generalize q[k]=R at *
  obtain⟨b0,b1,b2,b3,b4⟩:=R
  have m0:=hce 0 _ rfl
  have m1:=hce 1 _ rfl
  have m2:=hce 2 _ rfl
  have m3:=hce 3 _ rfl
  have m4:=hce 4 _ rfl
  simp only[Nat.add_zero] at m0
  clear hce
  go_wp2
  refine bodyPost_ret (v:=.tuple #[.agg #[.int .i64 b0,.int .i64 b1,.int .i64 b2,.int .i64 b3,.int .i64 b4],.bool true]) (by simp only[results,results63];simp[go_sem, *]) rfl ⟨by rw[HF.out];rfl,?_⟩
  exact((((HN.out.st (Nat.le_succ _) _).st (Nat.le_succ _) _).st (Nat.le_succ _) _).st (Nat.le_succ _) _).st (Nat.le_succ _) _
theorem Zo2(t r W id:Int)(v:Value)(q:List Rq)(w:World)(hl:q.length≤1000)(h:Zu w v q) :
  Calls prog 60 #[Un t r v W,.int .i64 id] w (HD1 (lvR ⟨t,r,W,q⟩ id) w):=by
 obtain⟨X,hX⟩:∃X,lvR ⟨t,r,W,q⟩ id=X:=⟨_,rfl⟩
 rw[hX]
 unfold HD1
 have HWo:=hD0 (fun(w1:World) (g:Nw w w1)=>Z8w t r W id v q w1 hl (h.nw g))
 unfold Un at HWo
 obtain⟨px,hpx⟩:∃px,plc (fun R=>R.id==id) q=px:=⟨_,rfl⟩
 have hFi:=fun(w1:World) (g:Nw w w1) (f:Value) (hf:Zn w1 f (fun R=>R.id==id))=>Z3g t r W v f _ q w1 hl (h.nw g) hf
 rw[hpx] at hFi
 have HAt:=hD0 h
 obtain⟨a,c,rfl,_⟩:=h
 unfold Un at hFi ⊢
 have HFi:=hD0 hFi
 clear hFi
 have HWi:=hD0 (Z14 id)
 obtain⟨hx1,hx2,hx3,hx4⟩:=Y6 w (.cells #[.int .i64 t,.int .i64 r,.slice a q.length c,.int .i64 W] 83) (.cells #[.int .i64 0,.int .i64 0,.slice none 0 0,.int .i64 0] 83)
 obtain⟨w1,hw1⟩:∃w1,(w.alloc (.cells #[.int .i64 t,.int .i64 r,.slice a q.length c,.int .i64 W] 83)).alloc (.cells #[.int .i64 0,.int .i64 0,.slice none 0 0,.int .i64 0] 83)=w1:=⟨_,rfl⟩
 rw[hw1] at hx1 hx2 hx3
 have HB1:=hD0 (aI0 (aI0 hx1 hx2) hx3)
 have s0:∀z,Nw w1 z→z.cell? ⟨w.heap.size,0,none⟩=some (.int .i64 t):=fun z hz=>hz.kp (Z0 (j:=0) hx1)
 have s1:∀z,Nw w1 z→z.cell? ⟨w.heap.size,1,none⟩=some (.int .i64 r):=fun z hz=>hz.kp (Z0 (j:=1) hx1)
 have s2:∀z,Nw w1 z→z.cell? ⟨w.heap.size,2,none⟩=some (.slice a q.length c):=fun z hz=>hz.kp (Z0 (j:=2) hx1)
 have s3:∀z,Nw w1 z→z.cell? ⟨w.heap.size,3,none⟩=some (.int .i64 W):=fun z hz=>hz.kp (Z0 (j:=3) hx1)
 clear hx1 hx2 hx3 hx4
 have HW1:=hD0 hw1
 clear hw1
 have q1:=(Nw.refl w1).drewQ
 obtain⟨wc,hwc⟩:∃wc,w1.drew=wc:=⟨_,rfl⟩
 go_enter func60,ntmps60
 go_wp2
 rw[HW1.out]
 refine Z5 [some true,some true,some false,none,some false,none,some true] (Nw w1) (by kernel_rfl) (by kernel_rfl) (by kernel_rfl) q1 ?_
 rw[hwc] at q1 ⊢
 clear hwc
 repeat (first
  | (refine HW.off ?_)
  | (refine HW.take' ?_;(first | (refine⟨undef,Or.inr ⟨by rfl,rfl⟩,?_⟩) | (apply Exists.intro;refine⟨Or.inl ⟨by rfl,?_⟩,?_⟩;(intro x hx;go_simp;first | done | with_reducible rfl)));(try simp only[Act.put,List.setIfInBounds_toArray,List.set_cons_zero,List.set_cons_succ]))
  | (refine HW.go (fun K hK=>?_);go_simp;(first
   | (go_at_call 79;(with_reducible refine(HWi.out _).mono ?_);rintro e wy ⟨pa,rfl,g2,hbx⟩;refine hK.out _ _ (q1.trans g2) ?_;intro _;replace q1:=q1.trans g2;clear hK K g2;replace hbx:=Zn.withID hbx)
   | (go_at_call 78;(with_reducible refine(HFi.out _ (HB1.out.2.trans q1) _ hbx).mono ?_);rintro e wy ⟨rfl,g2⟩;refine hK.out _ _ (q1.trans g2) ?_;intro _;replace q1:=q1.trans g2;clear hK K g2 hbx)
   | (refine hK.out _ _ q1 ?_;intro _;clear hK K))))
 refine HW.end_ ?_
 refine NoPanic.normal ?_
 have HN:=hD0 (HB1.out.2.trans q1)
 have hp1:=q1.at' HB1.out.1.1
 have hq1:=q1.at' HB1.out.1.2
 have c0:=Z0 (j:=0) hp1
 have c1:=Z0 (j:=1) hp1
 have c2:=Z0 (j:=2) hp1
 have c3:=Z0 (j:=3) hp1
 have hpl:=Z1 hp1
 rcases Z4j q id with⟨e1,hf⟩ | ⟨k,e1,hk,hf⟩
 ·obtain rfl:=hpx.symm.trans e1
  have hR:=hX.symm.trans (show lvR ⟨t,r,W,q⟩ id=(noH,5)by unfold lvR;rw[hf])
  subst hR
  have d0:=Z0 (j:=0) hq1
  have d1:=Z0 (j:=1) hq1
  have d2:=Z0 (j:=2) hq1
  have d3:=Z0 (j:=3) hq1
  have fz:=fun k=>hfz (j:=k) hq1
  have hsl2:=Z1 hq1
  clear hpx hX e1 hf s0 s1 s2 s3 HB1 HFi HWi HAt HW1 q1 hp1 hq1 HWo
  go_wp2
  exact bodyPost_ret (v:=.tuple #[.agg #[.int .i64 0,.int .i64 0,.slice none 0 0,.int .i64 0],.int .i64 5]) (by simp only[results,results60];simp[go_sem, *]) rfl ⟨_,rfl,Zh HN.out (Nat.le_succ _) _ _ _ _,Rd.nil _,Nat.le_refl _,Zx.nil _ _⟩
 ·obtain rfl:=hpx.symm.trans e1
  have dk:((k:Int)==-1)=false:=by simp
  have hR:=hX.symm.trans (show lvR ⟨t,r,W,q⟩ id=(⟨t,r,W,lvQ id q⟩,0)by unfold lvR;rw[hf])
  subst hR
  have HQ:=hD0 hq1
  have HWo2:=hD0 (HWo.out _ HN.out)
  clear hpx hX e1 hf s0 s1 s2 s3 HB1 HFi HWi HAt HW1 q1 hp1 hq1 HWo
  go_wp2_with fail
  go_at_call 90
  refine HWo2.out.mono ?_
  rintro e w2 ⟨v2,rfl,g2,hR,hcap,hfr⟩
  have hs:=hD0 (Z1 HQ.out)
  have hq2:=g2.at' HQ.out
  have HR:=hD0 (aI0 hR (aI0 hcap hfr))
  have HN2:=hD0 (HN.out.trans g2)
  have HN1:=hD0 HN.out
  obtain⟨a2,k2,hv2⟩:=hR.form
  obtain⟨n2,hn2⟩:∃n,(lvQ id q).length=n:=⟨_,rfl⟩
  rw[hn2] at hv2
  subst hv2
  have d0:=Z0 (j:=0) hq2
  have d1:=Z0 (j:=1) hq2
  have d2:=Z0 (j:=2) hq2
  have d3:=Z0 (j:=3) hq2
  have fz:=fun k=>hfz (j:=k) hq2
  have hsl2:=Z1 hq2
  clear hq2 hR hcap hfr g2 hn2 HQ HWo2 HN
  go_wp2
  exact bodyPost_ret (v:=.tuple #[.agg #[.int .i64 t,.int .i64 r,.slice a2 n2 k2,.int .i64 W],.int .i64 0]) (by simp only[results,results60];simp[go_sem, *]) rfl ⟨_,rfl,Zh HN2.out (Nat.le_succ _) _ _ _ _,Z87 HR.out.1 HR.out.2.2 hs.out _ _ _ _,HR.out.2.1,HR.out.2.2.old HN1.out⟩
theorem Zga(t r W id:Int)(v:Value)(q:List Rq)(w:World)(hl:q.length≤1000)(hok:Ok W q)(h:Zu w v q) :
  Calls prog 61 #[Un t r v W,.int .i64 id] w (HD1 (Z1k ⟨t,r,W,q⟩ id) w):=by
 have HOk:=hD0 hok
 clear hok
 obtain⟨X,hX⟩:∃X,Z1k ⟨t,r,W,q⟩ id=X:=⟨_,rfl⟩
 rw[hX]
 unfold HD1
 have HCl:=hD0 (fun(w1:World) (g:Nw w w1)=>Z4s v q w1 hl (h.nw g))
 have HWo:=hD0 (fun(w1:World) (g:Nw w w1)=>Z8w t r W id v q w1 hl (h.nw g))
 unfold Un at HWo
 obtain⟨px,hpx⟩:∃px,plc (fun R=>R.id==id) q=px:=⟨_,rfl⟩
 have hFi:=fun(w1:World) (g:Nw w w1) (f:Value) (hf:Zn w1 f (fun R=>R.id==id))=>Z3g t r W v f _ q w1 hl (h.nw g) hf
 rw[hpx] at hFi
 have HAt:=hD0 h
 obtain⟨a,c,rfl,_⟩:=h
 unfold Un at hFi ⊢
 have HFi:=hD0 hFi
 clear hFi
 have HWi:=hD0 (Z14 id)
 obtain⟨hx1,hx2,hx3,hx4⟩:=Y6 w (.cells #[.int .i64 t,.int .i64 r,.slice a q.length c,.int .i64 W] 83) (.cells #[.int .i64 0,.int .i64 0,.slice none 0 0,.int .i64 0] 83)
 obtain⟨w1,hw1⟩:∃w1,(w.alloc (.cells #[.int .i64 t,.int .i64 r,.slice a q.length c,.int .i64 W] 83)).alloc (.cells #[.int .i64 0,.int .i64 0,.slice none 0 0,.int .i64 0] 83)=w1:=⟨_,rfl⟩
 rw[hw1] at hx1 hx2 hx3
 have HB1:=hD0 (aI0 (aI0 hx1 hx2) hx3)
 have s0:∀z,Nw w1 z→z.cell? ⟨w.heap.size,0,none⟩=some (.int .i64 t):=fun z hz=>hz.kp (Z0 (j:=0) hx1)
 have s1:∀z,Nw w1 z→z.cell? ⟨w.heap.size,1,none⟩=some (.int .i64 r):=fun z hz=>hz.kp (Z0 (j:=1) hx1)
 have s2:∀z,Nw w1 z→z.cell? ⟨w.heap.size,2,none⟩=some (.slice a q.length c):=fun z hz=>hz.kp (Z0 (j:=2) hx1)
 have s3:∀z,Nw w1 z→z.cell? ⟨w.heap.size,3,none⟩=some (.int .i64 W):=fun z hz=>hz.kp (Z0 (j:=3) hx1)
 clear hx1 hx2 hx3 hx4
 have HW1:=hD0 hw1
 clear hw1
 have q1:=(Nw.refl w1).drewQ
 obtain⟨wc,hwc⟩:∃wc,w1.drew=wc:=⟨_,rfl⟩
 go_enter func61,ntmps61
 go_wp2
 rw[HW1.out]
 refine Z5 [some true,some true,some false,none,some false,none,some true] (Nw w1) (by kernel_rfl) (by kernel_rfl) (by kernel_rfl) q1 ?_
 rw[hwc] at q1 ⊢
 clear hwc
 repeat (first
  | (refine HW.off ?_)
  | (refine HW.take' ?_;(first | (refine⟨undef,Or.inr ⟨by rfl,rfl⟩,?_⟩) | (apply Exists.intro;refine⟨Or.inl ⟨by rfl,?_⟩,?_⟩;(intro x hx;go_simp;first | done | with_reducible rfl)));(try simp only[Act.put,List.setIfInBounds_toArray,List.set_cons_zero,List.set_cons_succ]))
  | (refine HW.go (fun K hK=>?_);go_simp;(first
   | (go_at_call 79;(with_reducible refine(HWi.out _).mono ?_);rintro e wy ⟨pa,rfl,g2,hbx⟩;refine hK.out _ _ (q1.trans g2) ?_;intro _;replace q1:=q1.trans g2;clear hK K g2;replace hbx:=Zn.withID hbx)
   | (go_at_call 78;(with_reducible refine(HFi.out _ (HB1.out.2.trans q1) _ hbx).mono ?_);rintro e wy ⟨rfl,g2⟩;refine hK.out _ _ (q1.trans g2) ?_;intro _;replace q1:=q1.trans g2;clear hK K g2 hbx)
   | (refine hK.out _ _ q1 ?_;intro _;clear hK K))))
 refine HW.end_ ?_
 refine NoPanic.normal ?_
 have HN:=hD0 (HB1.out.2.trans q1)
 have hp1:=q1.at' HB1.out.1.1
 have hq1:=q1.at' HB1.out.1.2
 have c0:=Z0 (j:=0) hp1
 have c1:=Z0 (j:=1) hp1
 have c2:=Z0 (j:=2) hp1
 have c3:=Z0 (j:=3) hp1
 have hpl:=Z1 hp1
 rcases Z4j q id with⟨e1,hf⟩ | ⟨k,e1,hk,hf⟩
 ·obtain rfl:=hpx.symm.trans e1
  have hR:=hX.symm.trans (show Z1k ⟨t,r,W,q⟩ id=(noH,5)by unfold Z1k;rw[hf])
  subst hR
  have d0:=Z0 (j:=0) hq1
  have d1:=Z0 (j:=1) hq1
  have d2:=Z0 (j:=2) hq1
  have d3:=Z0 (j:=3) hq1
  have fz:=fun k=>hfz (j:=k) hq1
  have hsl2:=Z1 hq1
  clear hpx hX e1 hf s0 s1 s2 s3 HB1 HFi HWi HAt HW1 q1 hp1 hq1 HWo HCl
  go_wp2
  exact bodyPost_ret (v:=.tuple #[.agg #[.int .i64 0,.int .i64 0,.slice none 0 0,.int .i64 0],.int .i64 5]) (by simp only[results,results61];simp[go_sem, *]) rfl ⟨_,rfl,Zh HN.out (Nat.le_succ _) _ _ _ _,Rd.nil _,Nat.le_refl _,Zx.nil _ _⟩
 ·obtain rfl:=hpx.symm.trans e1
  have dk:((k:Int)==-1)=false:=by simp
  have hX1:¬0<q[k].sn→X=(noH,7):=fun s=>hX.symm.trans (by unfold Z1k;rw[hf];exact if_neg s)
  have hX2:0<q[k].sn→q[k].md=0→X=(⟨t,r,W,lvQ id q⟩,0):=fun s m=>hX.symm.trans (by unfold Z1k;rw[hf];simp only[if_pos s];unfold abQ;rw[if_pos m,(Z50 hf).2])
  have hX3:0<q[k].sn→q[k].md≠0→X=(⟨t,r,W,q.set k ⟨q[k].id,q[k].txn,q[k].md,q[k].md,0⟩⟩,0):=fun s m=>hX.symm.trans (by unfold Z1k;rw[hf];simp only[if_pos s];rw[Zq3 HOk.out hk m];rfl)
  rcases HAt.out with⟨a',c',e3,⟨e4,_⟩ | ⟨b,o,e4,hc⟩⟩
  ·subst e4;simp at hk
  simp only[Value.slice.injEq,true_and] at e3
  obtain⟨rfl,rfl⟩:=e3
  subst e4
  have hki:(k:Int)<(q.length:Int):=by omega
  have hce:=(hc.nw HN.out).cell k hk
  have HCe:=hD0 (fun(z:World) (g:Nw w z)=>(hc.nw g).cell k hk)
  have HWa:=hD0 (fun z=>Z4u q[k] z)
  have HHo:=hD0 (fun z=>Z4t q[k] z)
  have HRow:=hD0 (fun(z:World) (g0 g cap:Nat) (j:Nat) (hj:j<5) (u:Value) (new:Rq) (e:(Zi q[k]).set j u=Zi new) (h:Z7 z g0 (.slice (some ⟨g,0,none⟩) q.length cap) q)=>Y3 h rfl k hk j hj u new e)
  have HRow2:=hD0 (fun(z:World) (g0 g cap:Nat) (X:Rq) (j:Nat) (hj:j<5) (u:Value) (new:Rq) (e:(Zi X).set j u=Zi new) (h:Z7 z g0 (.slice (some ⟨g,0,none⟩) q.length cap) (q.set k X))=>Y3 h (by rw[List.length_set]) k (by rw[List.length_set];exact hk) j hj u new (by rw[List.getElem_set_self];exact e))
  simp only[List.set_set] at HRow2
  have HCo:=hD0 (fun(z:World) (g0 g cap:Nat) (h:Z7 z g0 (.slice (some ⟨g,0,none⟩) q.length cap) q)=>Yq h rfl k hk)
  clear hpx hX e1 hf s0 s1 s2 s3 HB1 HFi HWi HW1 q1 hc HOk
  generalize q[k]=R at *
  obtain⟨b0,b1,b2,b3,b4⟩:=R
  unfold rqV at HWa HHo
  have m0:=hce 0 _ rfl
  have m1:=hce 1 _ rfl
  have m2:=hce 2 _ rfl
  have m3:=hce 3 _ rfl
  have m4:=hce 4 _ rfl
  simp only[Nat.add_zero] at m0
  clear hce
  have HX1:=hD0 hX1
  have HX2:=hD0 hX2
  have HX3:=hD0 hX3
  clear hX1 hX2 hX3
  go_wp2_with fail
  go_at_call 86
  refine(HWa.out _).mono ?_
  rintro e w2 ⟨rfl,g2⟩
  have hp2:=g2.at' hp1
  have hq2:=g2.at' hq1
  have HN2:=hD0 (HN.out.trans g2)
  clear c0 c1 c2 c3 hpl
  have c0:=Z0 (j:=0) hp2
  have c1:=Z0 (j:=1) hp2
  have c2:=Z0 (j:=2) hp2
  have c3:=Z0 (j:=3) hp2
  have hpl:=Z1 hp2
  clear m0 m1 m2 m3 m4
  have hce:=HCe.out _ HN2.out
  have m0:=hce 0 _ rfl
  have m1:=hce 1 _ rfl
  have m2:=hce 2 _ rfl
  have m3:=hce 3 _ rfl
  have m4:=hce 4 _ rfl
  simp only[Nat.add_zero] at m0
  clear hce
  clear g2 HWa hp1 hq1
  by_cases hs:0<b4
  rotate_left
  ·have ds:decide (0<b4)=false:=by simpa using hs
   have hR:=HX1.out (by first | exact hs | exact Int.not_lt.1 hs)
   subst hR
   have d0:=Z0 (j:=0) hq2
   have d1:=Z0 (j:=1) hq2
   have d2:=Z0 (j:=2) hq2
   have d3:=Z0 (j:=3) hq2
   have fz:=fun k=>hfz (j:=k) hq2
   have hsl2:=Z1 hq2
   clear hs HX1 HX2 HX3 HCe HHo HRow HRow2 HCo HCl HWo HAt HN hp2 hq2
   go_wp2
   exact bodyPost_ret (v:=.tuple #[.agg #[.int .i64 0,.int .i64 0,.slice none 0 0,.int .i64 0],.int .i64 7]) (by simp only[results,results61];simp[go_sem, *]) rfl ⟨_,rfl,Zh HN2.out (Nat.le_succ _) _ _ _ _,Rd.nil _,Nat.le_refl _,Zx.nil _ _⟩
  have ds:decide (0<b4)=true:=by simpa using hs
  go_wp2_with fail
  go_at_call 91
  refine(HHo.out _).mono ?_
  rintro e w3 ⟨rfl,g3⟩
  have hp3:=g3.at' hp2
  have hq3:=g3.at' hq2
  have HN3:=hD0 (HN2.out.trans g3)
  clear c0 c1 c2 c3 hpl
  have c0:=Z0 (j:=0) hp3
  have c1:=Z0 (j:=1) hp3
  have c2:=Z0 (j:=2) hp3
  have c3:=Z0 (j:=3) hp3
  have hpl:=Z1 hp3
  clear m0 m1 m2 m3 m4
  have hce:=HCe.out _ HN3.out
  have m0:=hce 0 _ rfl
  have m1:=hce 1 _ rfl
  have m2:=hce 2 _ rfl
  have m3:=hce 3 _ rfl
  have m4:=hce 4 _ rfl
  simp only[Nat.add_zero] at m0
  clear hce
  clear g3 HHo hp2 hq2
  by_cases hm:b2=0
  ·have dm:(b2 != 0)=false:=by simpa using hm
   have hR:=HX2.out hs hm
   subst hR
   rw[dm]
   have HQ:=hD0 hq3
   have HWo2:=hD0 (HWo.out _ HN3.out)
   clear dm hs hm ds HX1 HX2 HX3 HCe HRow HRow2 HCo HCl HWo HAt hp3 hq3
   go_wp2_with fail
   go_at_call 90
   refine HWo2.out.mono ?_
   rintro e w4 ⟨v2,rfl,g4,hR,hcap,hfr⟩
   have hs:=hD0 (Z1 HQ.out)
   have hq4:=g4.at' HQ.out
   have HR:=hD0 (aI0 hR (aI0 hcap hfr))
   have HN4:=hD0 (HN3.out.trans g4)
   obtain⟨a2,k2,hv2⟩:=hR.form
   obtain⟨n2,hn2⟩:∃n,(lvQ id q).length=n:=⟨_,rfl⟩
   rw[hn2] at hv2
   subst hv2
   have d0:=Z0 (j:=0) hq4
   have d1:=Z0 (j:=1) hq4
   have d2:=Z0 (j:=2) hq4
   have d3:=Z0 (j:=3) hq4
   have fz:=fun k=>hfz (j:=k) hq4
   have hsl2:=Z1 hq4
   clear hq4 hR hcap hfr g4 hn2 HQ HWo2 HN HN2 c0 c1 c2 c3 hpl m0 m1 m2 m3 m4
   go_wp2
   exact bodyPost_ret (v:=.tuple #[.agg #[.int .i64 t,.int .i64 r,.slice a2 n2 k2,.int .i64 W],.int .i64 0]) (by simp only[results,results61];simp[go_sem, *]) rfl ⟨_,rfl,Zh HN4.out (Nat.le_succ _) _ _ _ _,Z87 HR.out.1 HR.out.2.2 hs.out _ _ _ _,HR.out.2.1,HR.out.2.2.old HN3.out⟩
  ·have dm:(b2 != 0)=true:=by simpa using hm
   have hR:=HX3.out hs hm
   subst hR
   rw[dm]
   have HQ:=hD0 (aI0 hp3 hq3)
   have HCl2:=hD0 (HCl.out _ HN3.out)
   clear dm hs hm ds HX1 HX2 HX3 HCe HCl HWo HAt hp3 hq3
   go_wp2_with fail
   go_at_call 92
   refine HCl2.out.mono ?_
   rintro e w4 ⟨v4,rfl,g4,hO⟩
   obtain⟨g,cap,rfl,hg0,hgl,_⟩:=Z7.at hO hk
   have hne:¬g=w.heap.size:=by have:=Z1 HQ.out.1;omega
   have hne':¬w.heap.size=g:=fun e=>hne e.symm
   have hn2:¬g=w.heap.size+1:=by have:=Z1 HQ.out.2;omega
   have hn2':¬w.heap.size+1=g:=fun e=>hn2 e.symm
   have hp4:=g4.at' HQ.out.1
   have hq4:=g4.at' HQ.out.2
   have HB:=hD0 (aI0 (Z1 HQ.out.1) (Z1 HQ.out.2))
   have hO1:=Z0i hO (p:=⟨w.heap.size,2,none⟩) (by exact HB.out.1) (.slice (some ⟨g,0,none⟩) q.length cap)
   have hO2:=HRow.out _ _ _ _ 3 (by decide) (.int .i64 b2) ⟨b0,b1,b2,b2,b4⟩ rfl hO1
   have hO3:=HRow2.out _ _ _ _ ⟨b0,b1,b2,b2,b4⟩ 4 (by decide) (.int .i64 0) ⟨b0,b1,b2,b2,0⟩ rfl hO2
   have hO4:=Z4y hO3 (rb:=w.heap.size+1) HB.out.2 (.int .i64 t) (.int .i64 r) (.slice (some ⟨g,0,none⟩) q.length cap) (.int .i64 W)
   have HO4:=hD0 hO4
   have HN4:=hD0 (HN3.out.trans g4)
   have HG:=hD0 (aI0 hg0 HN3.out.sz)
   have hoc:=HCo.out _ _ _ _ hO
   clear c0 c1 c2 c3 hpl m0 m1 m2 m3 m4
   have c0:=Z0 (j:=0) hp4
   have c1:=Z0 (j:=1) hp4
   have c2:=Z0 (j:=2) hp4
   have c3:=Z0 (j:=3) hp4
   have hpl:=Z1 hp4
   have fp:=fun k=>hfz (j:=k) hp4
   have fg:=fun k=>Z0h hO rfl k
   have m2:=hoc 2 _ rfl
   have m3:=hoc 3 _ rfl
   have m4:=hoc 4 _ rfl
   have d0:=Z0 (j:=0) hq4
   have d1:=Z0 (j:=1) hq4
   have d2:=Z0 (j:=2) hq4
   have d3:=Z0 (j:=3) hq4
   have fz:=fun k=>hfz (j:=k) hq4
   have hsl2:=Z1 hq4
   clear hq4 hp4 hO hO1 hO2 hO3 hO4 hoc g4 HCl2 HN HN2 HRow HRow2 HCo hg0
   go_wp2
   exact bodyPost_ret (v:=.tuple #[.agg #[.int .i64 t,.int .i64 r,.slice (some ⟨g,0,none⟩) q.length cap,.int .i64 W],.int .i64 0]) (by simp only[results,results61];simp[go_sem, *]) rfl ⟨_,rfl,Zh (((HN4.out.st (Nat.le_refl _) _).st (by show w.heap.size≤g;have:=HG.out;omega) _).st (by show w.heap.size≤g;have:=HG.out;omega) _) (Nat.le_succ _) _ _ _ _,Z7.rd HO4.out,HO4.out.cap,HO4.out.fresh HG.out.2⟩
end Go.Proofs.YtfepoibfbmehiaaGreatDoor
