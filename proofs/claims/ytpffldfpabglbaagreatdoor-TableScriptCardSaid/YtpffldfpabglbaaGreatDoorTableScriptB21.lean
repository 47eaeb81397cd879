/- Texts merged: BkZMC, TdB, SortL, TbV, TdC, BkZA, TdD, TdE, TdF, TbT -/
import Derived.Test.YtpffldfpabglbaaGreatDoorTableScriptB20
set_option linter.unusedVariables false
set_option maxRecDepth 100000
set_option maxHeartbeats 16000000
namespace Go.Proofs.YtpffldfpabglbaaGreatDoor
open Go.RowKit _root_.Go.Proofs.Tryz
theorem Zxi{w:World}{o po n kk:Nat}{v:Value}{l:List Hm}(h:Rb w o po n v l){pg:Nat}{L:List Bool}{X:List Int}(b:Zs n kk (Z3 l) X L)(hk:kk<1000)(hn:n≤64)(hp:Rp w po pg L)(hpg:pg<o)(t r txn m:Int) :
  Calls prog 103 #[.pointer (some ⟨o,0,none⟩),.agg #[.int .i64 t,.int .i64 r],.int .i64 txn,.int .i64 m] w (Z5p w o po pg n v l L t r txn m):=by
 have hok:∀x∈l,Ok x.h.W x.h.q:=fun x hx=>(b.inv _ (List.mem_map.2 ⟨x,hx,rfl⟩)).ok
 have hq:∀x∈l,x.h.q.length<1000:=fun x hx=>Nat.lt_of_le_of_lt (b.ql _ (List.mem_map.2 ⟨x,hx,rfl⟩)) hk
 by_cases he:Zz n (Z3 l) L t r txn m=0
 ·obtain⟨h1,h2,_⟩:=Z3y b he
  by_cases hg:Z0a (Z3 l) (t,r)=none
  ·exact Zfz h b.srt hok hq hp hpg hn t r txn m he h1 h2 hg
  ·exact Zg0 h b.srt hok hq hp hpg hn t r txn m he h1 h2 hg
 ·exact Zka h b.srt hok hq hp hpg t r txn m he
open Go.Shelf
theorem Zyt{w:World}{o po:Nat}{most:Int}{v:Value}{l:List Hm}(h:Rb w o po most v l)(id:Int)(y:Bool)(hy:(Zt (Z3 l) id).isSome=y) :
  Calls prog 118 #[.pointer (some ⟨o,0,none⟩),.int .i64 id] w fun e w'=>e=.returned (.bool y)∧Nw w w':=by
 have H:=hD0 (Z9n h id)
 clear h
 go_enter func118,ntmps118
 go_wp2_with fail
 refine H.out.mono ?_
 rintro e w1 ⟨i,rfl,hi,g⟩
 have HG:=hD0 g
 clear g H
 rcases hi.of with⟨rfl,hn⟩ | ⟨k,rfl,hk,hs⟩
 ·rw[hn] at hy
  subst hy
  go_wp2
  go_ret
  exact⟨rfl,HG.out⟩
 ·rw[hs] at hy
  subst hy
  have d:decide ((0:Int)≤(k:Int))=true:=by rw[decide_eq_true_eq];omega
  go_wp2
  go_ret
  exact⟨rfl,HG.out⟩
theorem Zvq{hss:List (List Hq)}{id:Int}(h:∀j (hj:j<hss.length),Zt hss[j] id=none):atT hss id=none:=by
 cases e:atT hss id with
 | none=>rfl
 | some j =>
  obtain⟨hj,h1,_⟩:=Z3z e
  rw[h j hj] at h1
  cases h1
theorem Zqz{hss:List (List Hq)}{id:Int}{i:Nat}(hi:i<hss.length)(h0:(Zt hss[i] id).isSome=true)(h:∀j (hj:j<hss.length),j<i→Zt hss[j] id=none):atT hss id=some i:=by
 cases e:atT hss id with
 | none =>
  rw[Z73 e _ (gM0 hi)] at h0
  cases h0
 | some j =>
  obtain⟨hj,h1,h2⟩:=Z3z e
  rcases Nat.lt_trichotomy i j with q | q | q
  ·rw[h2 i hi q] at h0
   cases h0
  ·rw[q]
  ·rw[h j hj q] at h1
   cases h1
def OfR(bs:List RB)(id:Int)(e:Ending):Prop:=(e=.returned (.pointer none)∧atT (Zv bs) id=none)∨∃i,∃hi:i<bs.length,e=.returned (.pointer (some ⟨bs[i].o,0,none⟩))∧atT (Zv bs) id=some i
theorem Zop{W:World}{o n:Nat}{C:Ud}{bb cp po pg:Nat}{bs:List RB}{L:List Bool}(h:RtM W o n C bb cp po pg bs L)(h16:bs.length≤16)(id:Int) :
  Calls prog 72 #[.pointer (some ⟨o,0,none⟩),.int .i64 id] W fun e W'=>OfR bs id e∧Nw W W':=by
 have H:=hD0 h
 have ol:=h.ol
 have HR:=hD0 (fun i (hi:i<bs.length) y (g:Nw W y)=>(h.rb.rb _ (gM0 hi)).1.nw g)
 clear h
 go_enter func72,ntmps72
 go_wp2_with fail
 go_loopw [5] (fun iv y=>∃j:Nat,iv=.int .i64 j∧j≤bs.length∧Hid (Nw W y∧∀m (hm:m<bs.length),m<j→Zt (Z3 bs[m].l) id=none)) (fun iv _=>bs.length-(intOf iv).toNat)
 case atStart=>exact⟨0,rfl,Nat.zero_le _,Nw.refl _,fun m hm q=>by omega⟩
 case round =>
  obtain⟨j,rfl,hj,HG⟩:=hrel
  have c4:=HG.out.1.kp H.out.c4
  have cl:=lL0 ol HG.out.1.sz
  by_cases hjl:j<bs.length
  ·have hr:=HG.out.1.kp (H.out.row j hjl)
   have HHs:=hD0 (fun b e=>Zyt (HR.out j hjl wr HG.out.1) id b e)
   have hji:(j:Int)<(bs.length:Int):=by omega
   have hwj:wrap64 ((j:Int)+1)=(j:Int)+1:=by unfold wrap64;omega
   obtain⟨B,hB⟩:∃B,bs[j].o=B:=⟨_,rfl⟩
   rw[hB] at hr HHs
   have HBe:=hD0 hB
   clear hB
   cases hy:(Zt (Z3 bs[j].l) id).isSome with
   | true =>
    have HA:=hD0 (HHs.out _ hy)
    go_wp2_with fail
    refine HA.out.mono ?_
    rintro e w1 ⟨rfl,g1⟩
    have d4:=g1.kp c4
    have dr:=g1.kp hr
    have dl:=lL0 cl g1.sz
    have HE:=hD0 (show OfR bs id (.returned (.pointer (some ⟨B,0,none⟩)))∧Nw W w1 from⟨.inr ⟨j,hjl,by rw[HBe.out],Zqz (by rw[Zj];exact hjl) (by rw[Z0w hjl];exact hy) (fun m hm q=>by rw[Zj] at hm;rw[Z0w hm];exact HG.out.2 m hm q)⟩,HG.out.1.trans g1⟩)
    clear g1 c4 hr cl HA HHs HG
    go_wp2
    exact bodyPost_ret (v:=.pointer (some ⟨B,0,none⟩)) (by simp[results,results72,go_sem, *]) rfl HE.out
   | false =>
    have HA:=hD0 (HHs.out _ hy)
    go_wp2_with fail
    refine HA.out.mono ?_
    rintro e w1 ⟨rfl,g1⟩
    have HE:=hD0 (show Nw W w1∧∀m (hm:m<bs.length),m<j+1→Zt (Z3 bs[m].l) id=none from⟨HG.out.1.trans g1,fun m hm q=>by
     by_cases e:m=j
     ·subst e
      simpa using hy
     ·exact HG.out.2 m hm (by omega)⟩)
    clear g1 c4 hr cl HA HHs HG
    go_wp2
    go_roundw
    case rel=>exact⟨j+1,congrArg (Value.int .i64) (by first | exact nxU j | exact hwj.trans (nxU j)),hjl,HE⟩
    case measure=>first | exact Y0 bs.length j hjl | (rw[hwj];exact Y0 bs.length j hjl)
  ·obtain rfl:j=bs.length:=by omega
   have HE:=hD0 (show OfR bs id (.returned (.pointer none))∧Nw W wr from⟨.inl ⟨rfl,Zvq (fun m hm=>by rw[Zj] at hm;rw[Z0w hm];exact HG.out.2 m hm hm)⟩,HG.out.1⟩)
   clear HG
   go_wp2
   exact bodyPost_ret (v:=.pointer none) (by simp[results,results72,go_sem, *]) rfl HE.out
end Go.Proofs.YtpffldfpabglbaaGreatDoor
namespace Go.Proofs
open _root_.Go.Proofs.Tryz
open Go.Shelf
def Tryz.sortL_ren:Go.Shelf.Ren:=⟨fun | 6=>109 | 15=>106 | 14=>160 | 28=>157 | 29=>158 | 20=>194 | 21=>195 | 22=>196 | 23=>197 | 24=>198 | 25=>199 | 26=>200 | 27=>201 | 46=>222 | 47=>190 | 48=>191 | 49=>223 | 50=>224 | 57=>233 | n=>n,fun | 22=>45 | 24=>44 | 25=>147 | 3=>3 | 39=>144 | 0=>0 | 53=>149 | 55=>187 | 4=>4 | 46=>180 | 45=>179 | 50=>53 | 5=>5 | 9=>9 | 66=>213 | 70=>217 | 76=>239 | 77=>55 | n=>n,fun | n=>n⟩
theorem Tryz.sortL:Go.Proofs.SlLaysF0.n6 prog Tryz.sortL_ren:={
 mixed:=by kernel_rfl
 f6:=⟨Tryz.f109.name,by decide,func109.trans (congrArg some (by kernel_rfl))⟩
 f14:=⟨Tryz.f160.name,by decide,func160.trans (congrArg some (by kernel_rfl))⟩
 f15:=func106.trans (congrArg some (by kernel_rfl))
 f20:=⟨Tryz.f194.name,by decide,func194.trans (congrArg some (by kernel_rfl))⟩
 f21:=⟨Tryz.f195.name,by decide,func195.trans (congrArg some (by kernel_rfl))⟩
 f22:=⟨Tryz.f196.name,by decide,func196.trans (congrArg some (by kernel_rfl))⟩
 f23:=⟨Tryz.f197.name,by decide,func197.trans (congrArg some (by kernel_rfl))⟩
 f24:=⟨Tryz.f198.name,by decide,func198.trans (congrArg some (by kernel_rfl))⟩
 f25:=⟨Tryz.f199.name,by decide,func199.trans (congrArg some (by kernel_rfl))⟩
 f26:=⟨Tryz.f200.name,by decide,func200.trans (congrArg some (by kernel_rfl))⟩
 f27:=⟨Tryz.f201.name,by decide,func201.trans (congrArg some (by kernel_rfl))⟩
 f28:=func157.trans (congrArg some (by kernel_rfl))
 f29:=func158.trans (congrArg some (by kernel_rfl))
 f46:=⟨Tryz.f222.name,by decide,func222.trans (congrArg some (by kernel_rfl))⟩
 f47:=func190.trans (congrArg some (by kernel_rfl))
 f48:=func191.trans (congrArg some (by kernel_rfl))
 f49:=⟨Tryz.f223.name,by decide,func223.trans (congrArg some (by kernel_rfl))⟩
 f50:=⟨Tryz.f224.name,by decide,func224.trans (congrArg some (by kernel_rfl))⟩
 f57:=⟨Tryz.f233.name,by decide,func233.trans (congrArg some (by kernel_rfl))⟩
 t0:=underlying0
 a0:=Tryz.isAgg0
 z0:=Tryz.sizeOf0
 v0:=Tryz.zeroValue0
 t3:=underlying3
 a3:=Tryz.isAgg3
 z3:=Tryz.sizeOf3
 v3:=Tryz.zeroValue3
 t4:=underlying4
 a4:=Tryz.isAgg4
 z4:=Tryz.sizeOf4
 v4:=Tryz.zeroValue4
 t5:=underlying5
 a5:=Tryz.isAgg5
 z5:=Tryz.sizeOf5
 v5:=Tryz.zeroValue5
 t9:=underlying9
 a9:=Tryz.isAgg9
 z9:=Tryz.sizeOf9
 v9:=Tryz.zeroValue9
 t22:=underlying45
 a22:=Tryz.isAgg45
 z22:=Tryz.sizeOf45
 v22:=Tryz.zeroValue45
 t25:=underlying147
 a25:=Tryz.isAgg147
 z25:=Tryz.sizeOf147
 v25:=Tryz.zeroValue147
 t39:=underlying144
 a39:=Tryz.isAgg144
 z39:=Tryz.sizeOf144
 v39:=Tryz.zeroValue144
 t45:=underlying179
 a45:=Tryz.isAgg179
 z45:=Tryz.sizeOf179
 v45:=Tryz.zeroValue179
 t46:=underlying180
 a46:=Tryz.isAgg180
 z46:=Tryz.sizeOf180
 v46:=Tryz.zeroValue180
 t50:=underlying53
 a50:=Tryz.isAgg53
 z50:=Tryz.sizeOf53
 v50:=Tryz.zeroValue53
 t53:=underlying149
 a53:=Tryz.isAgg149
 z53:=Tryz.sizeOf149
 v53:=Tryz.zeroValue149
 t55:=underlying187
 a55:=Tryz.isAgg187
 z55:=Tryz.sizeOf187
 v55:=Tryz.zeroValue187
 t66:=underlying213
 a66:=Tryz.isAgg213
 z66:=Tryz.sizeOf213
 v66:=Tryz.zeroValue213
 t70:=underlying217
 a70:=Tryz.isAgg217
 z70:=Tryz.sizeOf217
 v70:=Tryz.zeroValue217
 t76:=underlying239
 a76:=Tryz.isAgg239
 z76:=Tryz.sizeOf239
 v76:=Tryz.zeroValue239
 t77:=underlying55
 a77:=Tryz.isAgg55
 z77:=Tryz.sizeOf55
 v77:=Tryz.zeroValue55 }
end Go.Proofs
namespace Go.Proofs.YtpffldfpabglbaaGreatDoor
open Go.RowKit _root_.Go.Proofs.Tryz Go.Shelf
section
open Go.RowKit Go.Sort Go.Shelf
abbrev Zqv(w:World)(x t r x' t' r':Int)(a:World):Prop:=(a.cell? ⟨w.heap.size,0,none⟩=some (.int .i64 x)∧a.cell? ⟨w.heap.size,1,none⟩=some (.int .i64 t)∧a.cell? ⟨w.heap.size,2,none⟩=some (.int .i64 r)∧a.cell? ⟨w.heap.size+1,0,none⟩=some (.int .i64 x')∧a.cell? ⟨w.heap.size+1,1,none⟩=some (.int .i64 t')∧a.cell? ⟨w.heap.size+1,2,none⟩=some (.int .i64 r'))∧w.heap.size+1<a.heap.size∧GG w a
theorem Zgq(w:World)(x t r m x' t' r' m':Int)(ty:TypeId):Zqv w x t r x' t' r' (((w.alloc (.cells #[.int .i64 x,.int .i64 t,.int .i64 r,.int .i64 m] ty)).alloc (.cells #[.int .i64 x',.int .i64 t',.int .i64 r',.int .i64 m'] ty)).drew):=by
 have h1:=Z1 w (.cells #[.int .i64 x,.int .i64 t,.int .i64 r,.int .i64 m] ty)
 have hz:(w.alloc (.cells #[.int .i64 x,.int .i64 t,.int .i64 r,.int .i64 m] ty)).heap.size=w.heap.size+1:=by simp
 have h2:=Z1 (w.alloc (.cells #[.int .i64 x,.int .i64 t,.int .i64 r,.int .i64 m] ty)) (.cells #[.int .i64 x',.int .i64 t',.int .i64 r',.int .i64 m'] ty)
 have h3:=((Nw.refl (w.alloc (.cells #[.int .i64 x,.int .i64 t,.int .i64 r,.int .i64 m] ty))).alloc (.cells #[.int .i64 x',.int .i64 t',.int .i64 r',.int .i64 m'] ty)).at' h1
 rw[hz] at h2
 exact⟨⟨Z0 (j:=0) h3,Z0 (j:=1) h3,Z0 (j:=2) h3,Z0 (j:=0) h2,Z0 (j:=1) h2,Z0 (j:=2) h2⟩,hlt h2,(((GG.refl w).alloc _).alloc _).drew⟩
theorem Z5n{w a b:World}{x t r x' t' r':Int}(g:GG a b)(h:Zqv w x t r x' t' r' a):Zqv w x t r x' t' r' b:=by
 obtain⟨⟨h0,h1,h2,h3,h4,h5⟩,hs,hn⟩:=h
 exact⟨⟨g.nw.kp h0,g.nw.kp h1,g.nw.kp h2,g.nw.kp h3,g.nw.kp h4,g.nw.kp h5⟩,lL0 hs g.nw.sz,hn.trans g⟩
theorem Zcu(x y:Hl)(w:World):Calls prog 110 #[.agg (Z2k x).toArray,.agg (Z2k y).toArray] w fun e w'=>e=.returned (.int .i64 (Z3e x y))∧GG w w':=by
 obtain⟨x,t,r,m⟩:=x
 obtain⟨x',t',r',m'⟩:=y
 simp only[Z2k,Z3e,Z14]
 go_enter func110,ntmps110
 go_wp2
 go_region_held3 (fun w'=>Zqv w x t r x' t' r' w') (first | assumption | exact Zgq w x t r m x' t' r' m' _ | exact Z5n (by assumption) (by assumption) | exact Z5n ((GG.refl _).alloc _) (by assumption) | exact Z5n (GG.refl _).drew (by assumption))
  (first | (go_at_call 108;refine(Z7a _ _ _).mono ?_;rintro e w' ⟨rfl,rfl⟩) | (go_at_call 60;refine(Z4z t r t' r' _).mono ?_;rintro e w' ⟨rfl,gg⟩) | (go_at_call 107;refine(Zxb _ (cP x x') (orP (cP t t') (cP r r')) _ (by simp[go_sem]) (by simp[go_sem])).mono ?_;rintro e w' ⟨rfl,rfl⟩))
 all_goals
  rename_i hS
  go_wp2
  go_ret
  exact⟨rfl,hS.2.2⟩
theorem Zw3:∀args w,(callFunc 110 args).run prog w=.ok (.enter 110 args) w:=enters_of func110 (by kernel_rfl) rfl
def Vo(W:World)(l:List Hl)(e:Ending)(W':World):Prop:=∃v,e=.returned v∧Z05 W' W.heap.size v l∧Nw W W'
structure HlI(w1:World)(pb:Nat)(hc:Array Value)(v:Value)(l:List Hl)(y:World):Prop where
 own:Z05 y w1.heap.size v l
 nw:Nw w1 y
 off:v.ownBlock≠some pb
 box:y.heap[pb]?=some (.cells hc 63)
theorem HlI.step{w1 y y':World}{pb:Nat}{hc:Array Value}{v:Value}{l:List Hl}(h:HlI w1 pb hc v l y)(g:Nw y y'):HlI w1 pb hc v l y':=⟨onw h.own g,h.nw.trans g,h.off,g.at' h.box⟩
theorem HlI.push{w1 y:World}{pb:Nat}{hc:Array Value}{v:Value}{l:List Hl}(h:HlI w1 pb hc v l y)(x t r m:Int)(hl:l.length<100000) :
  ∃s0 s1 s2 w3,(Builtin.append_ #[45,45] 45 #[v,.slice (some ⟨y.heap.size,0,none⟩) 1 1]).run prog (y.alloc (.cells #[.int .i64 x,.int .i64 t,.int .i64 r,.int .i64 m] 44))=.ok (.slice s0 s1 s2) w3∧HlI w1 pb hc (.slice s0 s1 s2) (l++[⟨x,t,r,m⟩]) w3:=by
 have hal:=Z1 y (.cells #[.int .i64 x,.int .i64 t,.int .i64 r,.int .i64 m] 44)
 have g0:Nw y (y.alloc (.cells #[.int .i64 x,.int .i64 t,.int .i64 r,.int .i64 m] 44)):=(Nw.refl y).alloc _
 obtain⟨z,hz⟩:∃z,y.alloc (.cells #[.int .i64 x,.int .i64 t,.int .i64 r,.int .i64 m] 44)=z:=⟨_,rfl⟩
 rw[hz] at hal g0
 rw[hz]
 have hs:=h.step g0
 have hpl:=hlt h.box
 obtain⟨v',w3,hr,hO,hg,hp,g,cap,rfl⟩:=Yz.push Z2h hs.own ⟨x,t,r,m⟩ y.heap.size 1 (fun j u hu=>by
  rw[Z0 hal]
  simpa [Z2k] using hu) hl hs.nw.sz
 refine⟨_,_,_,w3,hr,hO,hs.nw.gro hg (fun k hk=>Vr hs.own hk),fun e=>?_,?_⟩
 ·rcases hp with q | q
  ·exact h.off (q▸e)
  ·rw[q] at e
   have e':z.heap.size=pb:=Option.some.inj e
   have:=g0.sz
   omega
 ·rw[hg.block pb (by have:=g0.sz;omega) (fun e=>h.off e.symm)]
  exact hs.box
def heF(f:Rq→Bool)(h:Hq)(q:List Rq):List Hl:=(q.filter fun r=>!(r.md==0)&&f r).map fun r=>⟨r.txn,h.t,h.r,r.md⟩
theorem Zjp{f:Rq→Bool}{s:List Hq}{i:Nat}(hi:i<s.length):Z0l f (s.take (i+1))=Z0l f (s.take i)++heF f s[i] s[i].q:=by
 unfold Z0l
 rw[List.take_succ_eq_append_getElem hi,List.flatMap_append]
 simp[heF]
theorem Zn6{f:Rq→Bool}{h:Hq}{q:List Rq}{j:Nat}(hj:j<q.length):heF f h (q.take (j+1))=heF f h (q.take j)++(if (!(q[j].md==0)&&f q[j])=true then[⟨q[j].txn,h.t,h.r,q[j].md⟩] else[]):=by
 unfold heF
 rw[List.take_succ_eq_append_getElem hj,List.filter_append,List.map_append]
 congr 1
 by_cases e:(!(q[j].md==0)&&f q[j])=true
 ·rw[if_pos e,List.filter_cons,if_pos e];rfl
 ·rw[if_neg e,List.filter_cons,if_neg e];rfl
theorem Ze5(s:List Hq)(j:Nat):((s.take j).map fun h=>h.q.length).sum≤(s.map fun h=>h.q.length).sum:=by
 conv=>rhs;rw[←List.take_append_drop j s,List.map_append,List.sum_append]
 exact Nat.le_add_right _ _
theorem Zch(hss:List (List Hq)):(hss.flatten.map fun h=>h.q.length).sum=(hss.map fun hs=>(hs.map fun x=>x.q.length).sum).sum:=by
 induction hss with
 | nil=>rfl
 | cons a t ih=>rw[List.flatten_cons,List.map_append,List.sum_append,ih];rfl
theorem Tab.len128{W:World}{o S n N k:Nat}{C:Ud}{hss:List (List Hq)}{L:List Bool}{J:Nat→Prop}(h:Tab W o S n N k C hss L J):L.length≤128:=by
 obtain⟨bb,cp,hb,po,ds,hv,F,hm,_⟩:=h
 exact hm.db.pol.sz
theorem Zcc{f:Rq→Bool}{s:List Hq}{M:Nat}(h:(s.map fun h=>h.q.length).sum≤M):(Z0l f s).length≤M:=by
 refine Nat.le_trans ?_ h
 unfold Z0l
 induction s with
 | nil=>simp
 | cons a t ih =>
  simp only[List.flatMap_cons,List.length_append,List.map_cons,List.sum_cons,List.length_map]
  have h1:=List.length_filter_le (fun r=>!(r.md==0)&&f r) a.q
  simp only[List.map_cons,List.sum_cons] at h
  have:=ih (by omega)
  omega
section
variable {W:World} {o S n N k:Nat} {C:Ud} {hss:List (List Hq)} {L:List Bool} {J:Nat→Prop}
theorem Zn9(h:Tab W o S n N k C hss L J)(hS:S≤16)(hn:n≤64)(fn:Nat)(cb:Array Value)(f:Rq→Bool)(eg:∀args w,(callFunc fn args).run prog w=.ok (.enter fn args) w)
  (hF:∀y,Nw W y→∀r:Rq,Calls prog fn (#[rqV r]++cb) y fun e y'=>e=.returned (.bool (f r))∧Nw y y') (l:List Hl) (hl:∀l':List Hl,l'.Perm (Z0l f hss.flatten)→(l'.Pairwise fun a b=>ltOf Z3e b a=false)→l'=l) :
  Calls prog 62 #[.pointer (some ⟨o,0,none⟩),.func (.func fn) #[] cb] W (Vo W l):=by
 have HH:=hD0 (Zed h hS hn)
 have hlen:hss.flatten.length≤1024:=by
  have:=Ui (fun l hl=>Nat.le_trans (h.ok.inv.part l hl).len hn) (by rw[h.ok.sl];exact hS) hss.length
  rwa [List.take_length] at this
 have HQ:Hid ((hss.flatten.map fun h=>h.q.length).sum≤50000):=hD0 (by
  rw[Zch,h.ok.inv.count]
  have h1:liv L≤L.length:=List.countP_le_length
  have h2:=h.len128
  omega)
 have HF:=hD0 hF
 have HL:=hD0 hl
 clear h hF hl
 go_enter func62,ntmps62
 go_wp2_with fail
 refine HH.out.mono ?_
 rintro e w1 ⟨v,rfl,hh,g1⟩
 obtain⟨lm,h1,h2,h3⟩:=hh
 have HX:=hD0 (aI0 h1 (aI0 h2 (aI0 h3 g1)))
 obtain⟨va,vc,rfl,hrd⟩:=Yz.rd Y6.len h1
 have HB:=hD0 (show lm.length≤1024 by rw[←h2,List.length_map] at hlen;exact hlen)
 clear hlen
 have HRd:=hD0 hrd
 clear h1 h2 h3 g1 hrd HH
 go_wp2_with fail
 go_loopw [5,7,9,13] (fun vi _ _ i wr=>∃(j:Nat) (s0:Option Addr) (s1 s2:Nat),vi=.slice s0 s1 s2∧i=.int .i64 j∧j≤lm.length∧Hid (Z05 wr w1.heap.size (.slice s0 s1 s2) (Z0l f (hss.flatten.take j))∧Nw w1 wr)) (fun _ _ _ i _=>lm.length-(intOf i).toNat)
 case atStart=>exact⟨0,none,0,0,rfl,rfl,Nat.zero_le _,World.ownsRow_nil _ _ _ _,Nw.refl _⟩
 case round =>
  obtain⟨j,s0,s1,s2,rfl,rfl,hj,HI⟩:=hrel
  by_cases hjl:j<lm.length
  ·rcases HRd.out with⟨q,_⟩ | ⟨b,ob,rfl,hc⟩
   ·rw[q] at hjl;simp at hjl
   have hce:=(hc.nw HI.out.2).cell j hjl
   have hok:=HX.out.2.2.1 _ (gM0 hjl)
   have hjs:j<hss.flatten.length:=by rw[←HX.out.2.1,List.length_map];exact hjl
   have hhe:hss.flatten[j]=lm[j].h:=by
    have:(lm.map Hm.h)[j]'(by rw[List.length_map];exact hjl)=hss.flatten[j]:=by congr 1;exact HX.out.2.1
    rw[←this,List.getElem_map]
   have hent:=Zjp (f:=f) hjs
   rw[hhe] at hent
   have hji:(j:Int)<(lm.length:Int):=by omega
   have hwj:wrap64 ((j:Int)+1)=(j:Int)+1:=by have:=HB.out;unfold wrap64;omega
   clear hc
   generalize lm[j]=x at *
   obtain⟨⟨xt,xr,xW,q⟩,xa,xc⟩:=x
   have c0:=hce 0 _ rfl
   have c1:=hce 1 _ rfl
   have c2:=hce 2 _ rfl
   have c3:=hce 3 _ rfl
   simp only[Nat.add_zero] at c0 c1 c2 c3
   obtain⟨ql,hql⟩:∃ql,q.length=ql:=⟨_,rfl⟩
   rw[hql] at c2
   have hbl:=World.block_lt_of_cell? _ _ c0
   simp only at hbl
   have hbx:=Z1 wr (.cells #[.int .i64 xt,.int .i64 xr,.slice xa ql xc,.int .i64 xW] 63)
   have gbx:Nw wr (wr.alloc (.cells #[.int .i64 xt,.int .i64 xr,.slice xa ql xc,.int .i64 xW] 63)):=(Nw.refl wr).alloc _
   obtain⟨z,hz⟩:∃z,wr.alloc (.cells #[.int .i64 xt,.int .i64 xr,.slice xa ql xc,.int .i64 xW] 63)=z:=⟨_,rfl⟩
   rw[hz] at hbx gbx
   have HZ:=hD0 hz
   have HI2:=hD0 (show HlI w1 wr.heap.size #[.int .i64 xt,.int .i64 xr,.slice xa ql xc,.int .i64 xW] (.slice s0 s1 s2) (Z0l f (hss.flatten.take j)) z from⟨onw HI.out.1 gbx,HI.out.2.trans gbx,fun e=>by have:=olt HI.out.1 e;omega,hbx⟩)
   have HK:=hD0 (aI0 hok (aI0 hent hql))
   have hM:((hss.flatten.take j).map fun h=>h.q.length).sum≤50000:=Nat.le_trans (Ze5 _ j) HQ.out
   have HM:=hD0 hM
   clear hce hok hent hhe hz gbx hbx hjs hM
   go_upto_region 5 with fail
   rw[HZ.out]
   obtain⟨pb,hpb⟩:∃pb,wr.heap.size=pb:=⟨_,rfl⟩
   rw[hpb] at HI2 ⊢
   have b2:=Z0 (j:=2) HI2.out.box
   have bl:=hlt HI2.out.box
   clear hpb c0 c1 c2 c3 hbl HZ
   go_wp2_with fail
   go_loopw [5,9,20] (fun vi _ kk y=>∃(m:Nat) (s0:Option Addr) (s1 s2:Nat),vi=.slice s0 s1 s2∧kk=.int .i64 m∧m≤ql∧Hid (HlI w1 pb #[.int .i64 xt,.int .i64 xr,.slice xa ql xc,.int .i64 xW] (.slice s0 s1 s2) (Z0l f (hss.flatten.take j)++heF f ⟨xt,xr,xW,q⟩ (q.take m)) y)) (fun _ _ kk _=>ql-(intOf kk).toNat)
   case atStart=>exact⟨0,_,_,_,rfl,rfl,Nat.zero_le _,(show Hid (HlI w1 pb _ _ _ z) from((List.append_nil _).symm▸HI2.out:HlI w1 pb _ _ (Z0l f (hss.flatten.take j)++[]) z))⟩
   case round =>
    clear HI2 b2 bl HI
    obtain⟨m,r0,r1,r2,rfl,rfl,hm,HJ⟩:=hrel
    by_cases hml:m<ql
    ·have hmq:m<q.length:=by rw[HK.out.2.2];exact hml
     obtain⟨a',c',e,⟨q0,_⟩ | ⟨qb,qo,e2,hcq⟩⟩:=HK.out.1.rd
     ·simp only at q0;rw[q0] at hmq;simp at hmq
     unfold hmV at e
     subst e2
     simp only[Value.slice.injEq] at e
     obtain⟨rfl,_,rfl⟩:=e
     have hcr:=(hcq.nw HJ.out.nw).cell m hmq
     have hen:=Zn6 (f:=f) (h:=⟨xt,xr,xW,q⟩) hmq
     simp only at hen hcr
     generalize q[m]=R at *
     obtain⟨i0,i1,i2,i3,i4⟩:=R
     have c0:=hcr 0 _ rfl
     have c1:=hcr 1 _ rfl
     have c2:=hcr 2 _ rfl
     have c3:=hcr 3 _ rfl
     have c4:=hcr 4 _ rfl
     simp only[Nat.add_zero] at c0 c1 c2 c3 c4
     have cl:=World.block_lt_of_cell? _ _ c0
     simp only at cl
     have hmi:(m:Int)<(ql:Int):=by omega
     have hwm:wrap64 ((m:Int)+1)=(m:Int)+1:=by have h7:=HK.out.1.len;have h8:=HK.out.2.2;simp only at h7;unfold wrap64;omega
     have hbx:=Z1 wr (.cells #[.int .i64 i0,.int .i64 i1,.int .i64 i2,.int .i64 i3,.int .i64 i4] 50)
     have gbx:Nw wr (wr.alloc (.cells #[.int .i64 i0,.int .i64 i1,.int .i64 i2,.int .i64 i3,.int .i64 i4] 50)):=(Nw.refl wr).alloc _
     obtain⟨z,hz⟩:∃z,wr.alloc (.cells #[.int .i64 i0,.int .i64 i1,.int .i64 i2,.int .i64 i3,.int .i64 i4] 50)=z:=⟨_,rfl⟩
     rw[hz] at hbx gbx
     have HZ:=hD0 hz
     have HJ2:=hD0 (HJ.out.step gbx)
     have HEn:=hD0 hen
     obtain⟨rb,hrb⟩:∃rb,wr.heap.size=rb:=⟨_,rfl⟩
     rw[hrb] at hbx
     have HRb:=hD0 hrb
     clear hz gbx hcq hcr hen hrb HJ
     go_upto_region 8 with fail
     rw[HZ.out,HRb.out]
     have d1:=Z0 (j:=1) hbx
     have d0:=Z0 (j:=0) hbx
     have d2:=Z0 (j:=2) hbx
     have d3:=Z0 (j:=3) hbx
     have d4:=Z0 (j:=4) hbx
     have dl:=hlt hbx
     clear c0 c1 c2 c3 c4 cl HZ HRb
     have hsml:(Z0l f (hss.flatten.take j)++heF f ⟨xt,xr,xW,q⟩ (q.take m)).length<100000:=by
      rw[List.length_append]
      have e1:=Zcc (f:=f) (s:=hss.flatten.take j) (M:=50000) HM.out
      have e2:(heF f ⟨xt,xr,xW,q⟩ (q.take m)).length≤1000:=by
       unfold heF
       rw[List.length_map]
       refine Nat.le_trans (List.length_filter_le _ _) ?_
       have h7:=HK.out.1.len
       simp only at h7
       rw[List.length_take]
       omega
      omega
     have HSm:=hD0 hsml
     clear hsml
     by_cases hm0:i2=0
     ·subst hm0
      have HE:=hD0 (show HlI w1 pb _ (.slice r0 r1 r2) (Z0l f (hss.flatten.take j)++heF f ⟨xt,xr,xW,q⟩ (q.take (m+1))) z from by
       rw[HEn.out,if_neg (by simp),List.append_nil]
       exact HJ2.out)
      clear HJ2 HEn
      go_wp2_with fail
      go_roundw
      case rel=>exact⟨m+1,_,_,_,rfl,congrArg (Value.int .i64) (by first | exact nxU m | exact hwm.trans (nxU m)),hml,HE⟩
      case measure=>first | exact Y0 ql m hml | (rw[hwm];exact Y0 ql m hml)
     ·have dm:(i2 != 0)=true:=by simpa using hm0
      have hfr:=HF.out z (HX.out.2.2.2.trans HJ2.out.nw) ⟨i0,i1,i2,i3,i4⟩
      obtain⟨fv,hfv⟩:∃fv,f ⟨i0,i1,i2,i3,i4⟩=fv:=⟨_,rfl⟩
      rw[hfv] at hfr
      unfold rqV at hfr
      have HFr:=hD0 hfr
      have HFv:=hD0 hfv
      have HM0:=hD0 hm0
      clear hfr hfv hm0
      go_wp2_with fail
      refine HFr.out.mono ?_
      rintro e z2 ⟨rfl,g2⟩
      have HJ3:=hD0 (HJ2.out.step g2)
      have hbx3:=g2.at' hbx
      have hbh:=HJ3.out.box
      have d1:=Z0 (j:=1) hbx3
      have d2:=Z0 (j:=2) hbx3
      have dl:=hlt hbx3
      have n0:=Z0 (j:=0) hbh
      have n1:=Z0 (j:=1) hbh
      have nl:=hlt hbh
      clear d0 d3 d4 HJ2 HFr g2 hbx3 hbh hbx
      cases fv
      ·have HE:=hD0 (show HlI w1 pb _ (.slice r0 r1 r2) (Z0l f (hss.flatten.take j)++heF f ⟨xt,xr,xW,q⟩ (q.take (m+1))) z2 from by
        rw[HEn.out,HFv.out,if_neg (by simp),List.append_nil]
        exact HJ3.out)
       clear HJ3 HEn
       go_wp2_with fail
       go_roundw
       case rel=>exact⟨m+1,_,_,_,rfl,congrArg (Value.int .i64) (by first | exact nxU m | exact hwm.trans (nxU m)),hml,HE⟩
       case measure=>first | exact Y0 ql m hml | (rw[hwm];exact Y0 ql m hml)
      ·obtain⟨t0,t1,t2,w3,hrun,hnx⟩:=HJ3.out.push i1 xt xr i2 HSm.out
       have HE:=hD0 (show HlI w1 pb _ (.slice t0 t1 t2) (Z0l f (hss.flatten.take j)++heF f ⟨xt,xr,xW,q⟩ (q.take (m+1))) w3 from by
        rw[HEn.out,HFv.out,if_pos (by simp[HM0.out]),←List.append_assoc]
        exact hnx)
       have HR:=hD0 hrun
       clear HJ3 HEn hrun hnx
       go_wp2_with (at_builtin;refine Z5 (by rfl) (.tmp 32) (.tmp 40) 45 rfl _ _ _ _ (by first | rfl | simp[Act.eval, *]) (by first | rfl | simp[Act.eval, *]) HR.out ?_)
       go_roundw
       case rel=>exact⟨m+1,_,_,_,rfl,congrArg (Value.int .i64) (by first | exact nxU m | exact hwm.trans (nxU m)),hml,HE⟩
       case measure=>first | exact Y0 ql m hml | (rw[hwm];exact Y0 ql m hml)
    ·obtain rfl:m=ql:=by omega
     have HE:=hD0 (show Z05 wr w1.heap.size (.slice r0 r1 r2) (Z0l f (hss.flatten.take (j+1)))∧Nw w1 wr from⟨by
      rw[HK.out.2.1]
      have e:q.take m=q:=by rw[←HK.out.2.2,List.take_length]
      have:=HJ.out.own
      rw[e] at this
      exact this,HJ.out.nw⟩)
     clear HJ
     go_wp2_with fail
     go_roundw
     case rel=>exact⟨j+1,_,_,_,rfl,congrArg (Value.int .i64) (by first | exact nxU j | exact hwj.trans (nxU j)),hjl,HE⟩
     case measure=>first | exact Y0 lm.length j hjl | (rw[hwj];exact Y0 lm.length j hjl)
  ·obtain rfl:j=lm.length:=by omega
   have hE:(hss.flatten.take lm.length)=hss.flatten:=by rw[←HX.out.2.1];exact List.take_of_length_le (by rw[List.length_map];exact Nat.le_refl _)
   have hO:=HI.out.1
   rw[hE] at hO
   have hen:(Z0l f hss.flatten).length≤50000:=Zcc HQ.out
   rcases Y7 hO with⟨e,hz⟩ | ⟨g,cap,e⟩
   ·simp only[Value.slice.injEq] at e
    obtain⟨rfl,rfl,rfl⟩:=e
    have HS:=hD0 (AnyF.slices_SortFunc_none (P:=prog) { Tryz.sortL with } none 0 (.func (.func 110) #[] #[]) wr)
    have h0:Z0l f hss.flatten=[]:=List.length_eq_zero_iff.1 hz
    have HE:Hid (Vo W l (.returned (.slice none 0 0)) wr):=by
     refine⟨_,rfl,?_,HX.out.2.2.2.trans HI.out.2⟩
     have:l=[]:=(HL.out [] (by rw[h0]) .nil).symm
     rw[this]
     exact World.ownsRow_nil _ _ _ _
    clear hO hen hz HI h0 hE
    go_wp2_with fail
    refine Calls.mono HS.out ?_
    rintro e w2 ⟨rfl,rfl⟩
    go_wp2
    go_ret
    exact HE.out
   ·simp only[Value.slice.injEq] at e
    obtain⟨rfl,rfl,rfl⟩:=e
    have HS:=hD0 (Z9u Z2h (ρ:=_) { Tryz.sortL with } (by intro w;kernel_rfl) (by intro w;kernel_rfl) Z3e Zly 110 Zw3 Zcu _ g s2 (Z0l f hss.flatten) wr hO (by omega))
    have HO:=hD0 (aI0 hO (HX.out.2.2.2.trans HI.out.2))
    obtain⟨N1,hN1⟩:∃N1,(Z0l f hss.flatten).length=N1:=⟨_,rfl⟩
    have HN1:=hD0 hN1
    rw[hN1] at HS ⊢
    clear hO hen HI hE hN1
    go_wp2_with fail
    refine Calls.mono HS.out ?_
    rintro e w2 ⟨rfl,l',hp,hs,hO2,ht⟩
    have hl:l'.length=N1:=by rw[hp.length_eq];exact HN1.out
    have HE:Hid (Vo W l (.returned (.slice (some ⟨g,0,none⟩) N1 s2)) w2):=by
     have e2:=HL.out l' hp hs
     subst e2
     rw[hl] at hO2
     refine⟨_,rfl,Z4i hO2 (fun b e=>?_),Yq HO.out.2 ht (fun i e=>?_)⟩
     ·have h1:w1.heap.size≤g:=Vr HO.out.1 rfl
      have h2:=HX.out.2.2.2.sz
      have e':g=b:=Option.some.inj e
      omega
     ·have h1:w1.heap.size≤g:=Vr HO.out.1 rfl
      have h2:=HX.out.2.2.2.sz
      omega
    clear hp hs hO2 ht hl HS
    go_wp2
    go_ret
    exact HE.out
theorem Zjy(r:Rq)(w:World):Calls prog 65 #[rqV r] w fun e w'=>e=.returned (.bool true)∧Nw w w':=by
 obtain⟨a,b,c,d,e⟩:=r
 unfold rqV
 have HG:=hD0 ((Nw.refl w).alloc (.cells #[.int .i64 a,.int .i64 b,.int .i64 c,.int .i64 d,.int .i64 e] 50))
 go_enter func65,ntmps65
 go_wp2
 go_ret
 exact⟨rfl,HG.out⟩
theorem Zjz(r:Rq)(txn:Int)(pb:Nat)(w:World)(hb:w.cell? ⟨pb,0,none⟩=some (.int .i64 txn)):Calls prog 63 #[rqV r,.pointer (some ⟨pb,0,none⟩)] w fun e w'=>e=.returned (.bool (r.txn==txn))∧Nw w w':=by
 obtain⟨a,b,c,d,e⟩:=r
 unfold rqV
 have hbl:=World.block_lt_of_cell? _ _ hb
 simp only at hbl
 have HG:=hD0 ((Nw.refl w).alloc (.cells #[.int .i64 a,.int .i64 b,.int .i64 c,.int .i64 d,.int .i64 e] 50))
 go_enter func63,ntmps63
 go_wp2
 go_ret
 exact⟨rfl,HG.out⟩
theorem Zrh:∀args w,(callFunc 65 args).run prog w=.ok (.enter 65 args) w:=enters_of func65 (by kernel_rfl) rfl
theorem Zri:∀args w,(callFunc 63 args).run prog w=.ok (.enter 63 args) w:=enters_of func63 (by kernel_rfl) rfl
theorem Y1.snap_srt(ok:Y1 S n N k hss L):Y9 (Ya hss)∧(Ya hss).Perm hss.flatten:=Go.Proofs.YtpffldfpabglbaaGreatDoor.snap_srt ok.apart
theorem Y1.snap_ok(ok:Y1 S n N k hss L):∀h∈Ya hss,Ok h.W h.q:=fun h hh=>by
 obtain⟨l,hl,h2⟩:=List.mem_flatten.1 (ok.snap_srt.2.mem_iff.1 hh)
 exact((ok.inv.part l hl).inv h h2).ok
theorem Zyf(h:Tab W o S n N k C hss L J)(hS:S≤16)(hn:n≤64):Calls prog 18 #[.pointer (some ⟨o,0,none⟩)] W (Vo W (Z2b (Ya hss))):=by
 have hs:=h.ok.snap_srt
 have HH:=hD0 (Zn9 h hS hn 65 #[] (fun _=>true) Zrh (fun y _ r=>Zjy r y) (Z2b (Ya hss)) (fun l' p q=>Zvm hs.1 h.ok.snap_ok hs.2.symm (by rwa [Zmn] at p) q))
 clear hs h
 go_enter func18,ntmps18
 go_wp2_with fail
 refine HH.out.mono ?_
 rintro e w1 ⟨v,rfl,h1,g1⟩
 have HE:Hid (Vo W (Z2b (Ya hss)) (.returned v) w1):=⟨v,rfl,h1,g1⟩
 clear h1 g1 HH
 go_wp2
 go_ret
 exact HE.out
theorem Zhn(h:Tab W o S n N k C hss L J)(hS:S≤16)(hn:n≤64)(txn:Int):Calls prog 16 #[.pointer (some ⟨o,0,none⟩),.int .i64 txn] W (Vo W (Vc (Ya hss) txn)):=by
 have hs:=h.ok.snap_srt
 have hal:=Z1 W (.cells #[.int .i64 txn] 3)
 obtain⟨z,hz⟩:∃z,W.alloc (.cells #[.int .i64 txn] 3)=z:=⟨_,rfl⟩
 have g1:Nw W z:=by rw[←hz];exact(Nw.refl W).alloc _
 rw[hz] at hal
 have HH:=hD0 (Zn9 (h.nw g1) hS hn 63 #[.pointer (some ⟨W.heap.size,0,none⟩)] (fun r=>r.txn==txn) Zri (fun y g r=>Zjz r txn W.heap.size y (g.kp ((Z0 (j:=0) hal).trans rfl))) (Vc (Ya hss) txn) (fun l' p q=>Zwe hs.1 h.ok.snap_ok hs.2.symm txn (by rwa [Zmo] at p) q))
 have HZ:=hD0 hz
 have HG:=hD0 g1
 clear hs h hal hz g1
 go_enter func16,ntmps16
 go_wp2_with fail
 rw[HZ.out]
 refine HH.out.mono ?_
 rintro e w1 ⟨v,rfl,h1,g1⟩
 have HE:Hid (Vo W (Vc (Ya hss) txn) (.returned v) w1):=⟨v,rfl,Z4i h1 (fun b e=>Nat.le_trans HG.out.sz (Vr h1 e)),HG.out.trans g1⟩
 clear h1 g1 HH
 go_wp2
 go_ret
 exact HE.out
end
end
theorem Z5l{W:World}{o n:Nat}{C:Ud}{bb cp po pg:Nat}{bs:List RB}{L:List Bool}(h:RtM W o n C bb cp po pg bs L)(t r:Int) :
  Calls prog 21 #[.pointer (some ⟨o,0,none⟩),.agg #[.int .i64 t,.int .i64 r]] W fun e W'=>e=.returned (.int .i64 (ofS t r C.s))∧Nw W W':=by
 obtain⟨z,hz⟩:∃z,W.alloc (.cells #[.int .i64 t,.int .i64 r] 34)=z:=⟨_,rfl⟩
 have g1:Nw W z:=by rw[←hz];exact(Nw.refl W).alloc _
 have hal:=Z1 W (.cells #[.int .i64 t,.int .i64 r] 34)
 rw[hz] at hal
 have HZ:=hD0 hz
 have HG:=hD0 g1
 have HC:=hD0 (aI0 (g1.kp h.c0) hal)
 have ol:=lL0 h.ol g1.sz
 clear hz g1 hal h
 go_enter func21,ntmps21
 go_upto_region 1 with fail
 rw[HZ.out]
 generalize W.heap.size=pb at *
 have hne:Nonempty (Wd (fun y=>Nw z y)):=⟨⟨_,Nw.refl _⟩⟩
 have C1:=fun(d:Wd (fun y=>Nw z y))=>d.h.kp HC.out.1
 have C2:=fun(d:Wd (fun y=>Nw z y))=>(Z0 (j:=0) (d.h.at' HC.out.2)).trans rfl
 have C3:=fun(d:Wd (fun y=>Nw z y))=>(Z0 (j:=1) (d.h.at' HC.out.2)).trans rfl
 go_wp2_with fail
 refine Zf (fun y=>Nw z y) (by kernel_rfl) (by kernel_rfl) (Nw.refl z).dr ?_
 repeat (first | go_big_quiet_step ((exact Zd (fun a b h g=>h.trans g) (Z9o t r C.s _))) | quiet_step ((exact Zd (fun a b h g=>h.trans g) (Z9o t r C.s _))))
 refine wpQuiet_nil ?_
 intro d
 have HD:=hD0 (HG.out.trans d.h)
 clear C1 C2 C3 hne
 revert HD
 generalize d.w=z3
 intro HD
 go_wp2
 go_ret
 exact⟨rfl,HD.out⟩
def Zek(o bb cp nn s B pb:Nat)(t r:Int)(x:World):Prop:=x.cell? ⟨o,4,none⟩=some (.slice (some ⟨bb,0,none⟩) nn cp)∧x.cell? ⟨bb,s,none⟩=some (ptN B)∧x.cell? ⟨pb,0,none⟩=some (.int .i64 t)∧x.cell? ⟨pb,1,none⟩=some (.int .i64 r)
theorem Z1y{S n N k:Nat}{bs:List RB}{L:List Bool}(ok:Y1 S n N k (Zv bs) L){i:Nat}(hi:i<bs.length):Zs n k (Z3 bs[i].l) (Z68 (Zv bs) i) L:=by
 have:=ok.inv.get (i:=i) (by rw[Zj];exact hi)
 rw[Z0w hi] at this
 exact this
theorem Yo{bs:List RB}{i:Nat}(hi:i<bs.length):V6 (Zv bs) i=Z3 bs[i].l:=by rw[Ve (by rw[Zj];exact hi),Z0w hi]
theorem Zv8{S n N k:Nat}{hss:List (List Hq)}{L:List Bool}(ok:Y1 S n N k hss L){i:Nat}(hi:i<hss.length){l':List Hm}(e:hss[i]=Z3 l'):∀x∈l',x.h.q≠[]:=fun x hx=>by
 have:=(ok.inv.part _ (gM0 hi)).ne
 rw[e] at this
 exact this _ (List.mem_map.2 ⟨x,hx,rfl⟩)
theorem Z82{W W1 W':World}{o S n N k:Nat}{C:Ud}{bb cp po pg:Nat}{bs:List RB}{L L':List Bool}(h:RtM W1 o n C bb cp po pg bs L)(g:Nw W W1){i:Nat}(hi:i<bs.length){v':Value}{l':List Hm}(d:Yx W1 bs[i].o po pg n bs[i].v bs[i].l W' v' l')(hp:Rp W' po pg L'){hs:List Hq}(e:Z3 l'=hs)(ok:Y1 S n N k ((Zv bs).set i hs) L') :
  Vd W o S n N k C ((Zv bs).set i hs) L' (RtJ o bb po pg bs) W'∧RtM W' o n C bb cp po pg (bs.set i ⟨bs[i].o,v',l'⟩) L':=by
 subst e
 have hne:=Zv8 ok (i:=i) (by rw[List.length_set,Zj];exact hi) (by rw[List.getElem_set_self])
 obtain⟨k1,k2,k3⟩:=h.call hi d hne hp
 exact⟨⟨_,⟨bb,cp,po,pg,_,k1,by rw[Zni],rfl,ok⟩,fun b q=>(k2 b q).imp id (fun q=>Nat.le_trans g.sz q),(Z4.nw g).trans k3⟩,k1⟩
theorem Zyh{W:World}{o S n N k:Nat}{C:Ud}{hss:List (List Hq)}{L:List Bool}{J:Nat→Prop}(h:U5 W o S n N k C hss L J)(hC:C.s=S)(hk:k≤800)(hn:n≤64)(hS:S≤16)(t r txn m:Int) :
  Calls prog 56 #[.pointer (some ⟨o,0,none⟩),.agg #[.int .i64 t,.int .i64 r],.int .i64 txn,.int .i64 m] W fun e W'=>e=.returned (.tuple #[.int .i64 (Z0v n hss L t r txn m).1,.bool (Z0v n hss L t r txn m).2.1,.int .i64 (Z0v n hss L t r txn m).2.2])∧Vd W o S n N (k+1) C (U0 n hss L t r txn m).1 (U0 n hss L t r txn m).2 J W':=by
 have hTo:=fun(W':World) (g:Nw W W')=>h.to g (k+1) (Nat.le_succ k)
 obtain⟨bb,cp,po,pg,bs,hm,rfl,rfl,ok⟩:=h
 have okA:=ok.ask hS (by omega) t r txn m
 obtain⟨z,hz⟩:∃z,W.alloc (.cells #[.int .i64 t,.int .i64 r] 34)=z:=⟨_,rfl⟩
 have g1:Nw W z:=by rw[←hz];exact(Nw.refl W).alloc _
 have hal:=Z1 W (.cells #[.int .i64 t,.int .i64 r] 34)
 rw[hz] at hal
 have HZ:=hD0 hz
 have hst:=Z5l (hm.nw g1) t r
 have hSl:bs.length=S:=by rw[←Zj];exact ok.sl
 rw[hC] at hst
 have HSt:=hD0 hst
 have hal0:=hal
 obtain⟨pb,hpb⟩:∃pb,W.heap.size=pb:=⟨_,rfl⟩
 rw[hpb] at hal
 have c0:=Z0 (j:=0) hal
 have c1:=Z0 (j:=1) hal
 have cl:=hlt hal
 have HPb:=hD0 hpb
 unfold Z0v U0 at *
 rw[Zj,hSl] at okA ⊢
 have hrg:=Z1k t r S
 by_cases hbad:ofS t r S = -1
 ·rw[hbad] at HSt
  simp only[hbad,if_true] at okA ⊢
  have HT:=hD0 hTo
  have HG:=hD0 g1
  clear hz g1 hal hal0 hrg okA hTo hm ok hpb hst
  go_enter func56,ntmps56
  go_wp2_with fail
  rw[HZ.out,HPb.out]
  refine HSt.out.mono ?_
  rintro e z2 ⟨rfl,g2⟩
  have HT2:=hD0 (HT.out z2 (HG.out.trans g2))
  clear g2 HT HG
  go_wp2
  exact bodyPost_ret (v:=.tuple #[.int .i64 0,.bool false,.int .i64 2]) (by simp[results,results56,go_sem, *]) rfl ⟨rfl,HT2.out⟩
 ·simp only[hbad,if_false] at okA ⊢
  obtain⟨s,hs⟩:∃s:Nat,ofS t r S=s:=⟨(ofS t r S).toNat,by omega⟩
  have hi:s<bs.length:=by omega
  rw[hs] at HSt
  simp only[hs,Int.toNat_natCast,Yo hi] at okA ⊢
  have d1:decide ((s:Int)<0)=false:=by rw[decide_eq_false_iff_not];omega
  have d2:(s:Int)<(bs.length:Int):=by omega
  have HM:=hD0 (aI0 hm (aI0 ok (aI0 hi okA)))
  have HG:=hD0 (aI0 g1 hal0)
  clear hz g1 hal hal0 hrg okA hTo hm ok hpb hbad hs hst hSl
  go_enter func56,ntmps56
  go_wp2_with fail
  rw[HZ.out,HPb.out]
  refine HSt.out.mono ?_
  rintro e z2 ⟨rfl,g2⟩
  have HG2:=hD0 (HG.out.1.trans g2)
  have hb2:=g2.at' HG.out.2
  rw[HPb.out] at hb2
  have c0:=Z0 (j:=0) hb2
  have c1:=Z0 (j:=1) hb2
  have cl:=hlt hb2
  have c4:=HG2.out.kp HM.out.1.c4
  have cr:=HG2.out.kp (HM.out.1.row s HM.out.2.2.1)
  have hmd:=HM.out.1.nw HG2.out.dr
  have hrb:=hmd.rb.rb _ (gM0 HM.out.2.2.1)
  have HA:=hD0 (Zxi hrb.1 (Z1y HM.out.2.1 HM.out.2.2.1) (by omega) hn hmd.pl hrb.2.1 t r txn m)
  clear g2 HG HSt hmd hrb
  go_wp2_with fail
  obtain⟨B,hB⟩:∃B,bs[s].o=B:=⟨_,rfl⟩
  rw[hB] at cr HA
  have hS0:Zek o bb cp bs.length s B pb t r z2.drew:=⟨c4,cr,c0,c1⟩
  have q1:∀x,Zek o bb cp bs.length s B pb t r x→x.cell? ⟨o,4,none⟩=some (.slice (some ⟨bb,0,none⟩) bs.length cp):=fun x h=>h.1
  have q2:∀x,Zek o bb cp bs.length s B pb t r x→x.cell? ⟨bb,s,none⟩=some (ptN B):=fun x h=>h.2.1
  have q3:∀x,Zek o bb cp bs.length s B pb t r x→x.cell? ⟨pb,0,none⟩=some (.int .i64 t):=fun x h=>h.2.2.1
  have q4:∀x,Zek o bb cp bs.length s B pb t r x→x.cell? ⟨pb,1,none⟩=some (.int .i64 r):=fun x h=>h.2.2.2
  have HBx:=hD0 (aI0 hB hb2)
  clear c0 c1 c4 cr cl hB hb2
  refine Z8 [some true,some true,some true,some true,some true,some true,some true,some true,some true,some true,some false,none,some true,some true,some true,some true,some true,some true] (Zek o bb cp bs.length s B pb t r) (by kernel_rfl) (by kernel_rfl) (by kernel_rfl) hS0 ?_
  clear hS0
  iterate 10 (refine HW.take' ?_;(apply Exists.intro;refine⟨Or.inl ⟨by rfl,?_⟩,?_⟩;(intro x hx;go_simp;first | done | with_reducible rfl));(try simp only[Act.put,List.setIfInBounds_toArray,List.set_cons_zero,List.set_cons_succ]))
  refine HW.off ?_
  refine HW.go (fun K hK=>?_)
  go_simp
  go_at_call 103
  refine HA.out.mono ?_
  rintro e w3 ⟨rfl,hpl,v',l',hl',d⟩
  rw[←HBx.out.1] at d
  obtain⟨hTT,hm1⟩:=Z82 (HM.out.1.nw HG2.out.dr) HG2.out.dr hi d hpl hl' HM.out.2.2.2
  have hpn:¬RtJ o bb po pg bs pb:=fun e=>by have:=HM.out.1.lt _ e;have:=HPb.out;omega
  obtain⟨_,_,_,ht1⟩:=id hTT
  have hb3:w3.heap[pb]?=some (.cells #[.int .i64 t,.int .i64 r] 34):=by
   obtain⟨_,_,kt⟩:=(HM.out.1.nw HG2.out.dr).call hi d (Zv8 HM.out.2.2.2 (i:=s) (by rw[List.length_set,Zj];exact hi) (by rw[List.getElem_set_self,hl'])) hpl
   exact(kt.block pb (hlt HBx.out.2) hpn).trans HBx.out.2
  have hS3:Zek o bb cp bs.length s B pb t r w3:=by
   have e1:=hm1.c4
   have e2:=hm1.row s (by rw[List.length_set];exact hi)
   rw[List.length_set] at e1
   rw[List.getElem_set_self] at e2
   simp only[HBx.out.1] at e2
   exact⟨e1,e2,Z0 (j:=0) hb3,Z0 (j:=1) hb3⟩
  have HR:=hD0 hTT
  refine hK.out _ _ hS3 ?_
  intro _
  clear hK K d hm1 hTT ht1 hpn hb3 HA HBx q1 q2 q3 q4 hpl hl'
  (try simp only[Act.put,List.setIfInBounds_toArray,List.set_cons_zero,List.set_cons_succ])
  obtain⟨⟨ri,rg,re⟩,hR⟩:∃q,Uu n (Z3 bs[s].l) L t r txn m=q:=⟨_,rfl⟩
  rw[hR]
  have HRe:=hD0 hR
  clear hR
  simp only
  iterate 6 (refine HW.take' ?_;(apply Exists.intro;refine⟨Or.inl ⟨by rfl,?_⟩,?_⟩;(intro x hx;go_simp;first | done | with_reducible rfl));(try simp only[Act.put,List.setIfInBounds_toArray,List.set_cons_zero,List.set_cons_succ]))
  refine HW.end_ ?_
  refine NoPanic.normal ?_
  go_wp2
  exact bodyPost_ret (v:=.tuple #[.int .i64 ri,.bool rg,.int .i64 re]) (by simp[results,results56,go_sem, *]) rfl ⟨by rw[HRe.out],HR.out⟩
theorem Zld{q:List Rq}{id:Int}{r:Rq}(hf:Yr q id=some r):(Yr (abQ r q) id).isSome=!decide (r.md=0):=by
 obtain⟨hr,hi⟩:=Z2j hf
 unfold abQ
 by_cases hm:r.md=0
 ·rw[if_pos hm]
  have:Yr (lvQ r.id q) id=none:=by
   refine List.find?_eq_none.2 fun x hx=>?_
   have:=(List.mem_filter.1 hx).2
   rw[←hi]
   simpa using this
  rw[this]
  simp[hm]
 ·rw[if_neg hm]
  have:(Yr (chg abR r.id q) id).isSome=true:=by
   unfold Yr
   rw[List.find?_isSome]
   exact⟨abR r,List.mem_map.2 ⟨r,hr,if_pos rfl⟩,by simp[abR,hi]⟩
  rw[this]
  simp[hm]
theorem Zdw{h:Hq}{id:Int}(hf:(Yr h.q id).isSome=true):Yr h.q id=some (rqB h id):=by
 unfold rqB
 cases e:Yr h.q id with
 | none=>rw[e] at hf;cases hf
 | some r=>rfl
theorem Zlb{h:Hq}{id:Int}(hf:(Yr h.q id).isSome=true):Vm h id=if 0<(rqB h id).sn then(⟨h.t,h.r,h.W,abQ (rqB h id) h.q⟩,0) else(noH,7):=by
 have:=Zdw hf
 unfold Vm
 rw[this]
theorem Zfy{w:World}{o po:Nat}{most:Int}{v:Value}{l:List Hm}(h:Rb w o po most v l)(s:Y9 (Z3 l))(hok:∀x∈l,Ok x.h.W x.h.q){pg:Nat}{L:List Bool}(hp:Rp w po pg L)(hpg:pg<o)(id:Int) :
  Calls prog 100 #[.pointer (some ⟨o,0,none⟩),.int .i64 id] w fun e w'=>∃vi,e=.returned (.tuple #[vi,.int .i64 (Z1a (Z3 l) id).2])∧IS w' vi (Z1a (Z3 l) id).1∧Rp w' po pg (Vb (Z3 l) L id).2∧∃v' l',Z3 l'=(Vb (Z3 l) L id).1∧Yx w o po pg most v l w' v' l':=by
 obtain⟨a,c,rfl,hf⟩:=h.form
 have HF:=hD0 hf
 have H:=hD0 h
 have HS:=hD0 s
 have HO:=hD0 hok
 have HPl:=hD0 hp
 have hol:=h.ol
 have hpl:=h.pl
 have HP:=hD0 (Z9n h id)
 obtain⟨E,hE⟩:∃E,Z1a (Z3 l) id=E:=⟨_,rfl⟩
 obtain⟨T,hT⟩:∃T,Vb (Z3 l) L id=T:=⟨_,rfl⟩
 rw[hE,hT]
 have HE:=hD0 hE
 have HT:=hD0 hT
 clear h hf s hok hE hT hp
 go_enter func100,ntmps100
 go_wp2_with fail
 refine HP.out.mono ?_
 rintro e w1 ⟨i,rfl,hi,g1⟩
 have HN1:=hD0 g1
 rcases hi.of with⟨rfl,ho⟩ | ⟨k,rfl,hk,ho⟩
 ·have HR:=hD0 (HE.out.symm.trans (show Z1a (Z3 l) id=([],5)by unfold Z1a;rw[ho]))
  have HR2:=hD0 (HT.out.symm.trans (show Vb (Z3 l) L id=(Z3 l,L)by unfold Vb;rw[ho]))
  clear HE HT HP ho hi g1
  go_wp2
  refine bodyPost_ret (v:=.tuple #[.slice none 0 0,.int .i64 5]) (by simp[results,results100,go_sem, *]) rfl ?_
  exact⟨_,by rw[HR.out],by rw[HR.out];exact Zfl _,by rw[HR2.out];exact HPl.out.nw HN1.out,_,l,by rw[HR2.out],H.out.same HN1.out pg⟩
 ·rcases HF.out with⟨_,e,_⟩ | ⟨g,rfl,hog,hgl⟩
  ·subst e;simp at hk
  have hfs:=(Z9h ho).2
  have HW:=hD0 (H.out.nw HN1.out)
  have hx:=HW.out.ok _ (gM0 hk)
  have hokx:=HO.out _ (gM0 hk)
  obtain⟨f0,f1,f2,f3⟩:=HW.out.at_ k hk
  have hl1:=HW.out.len
  have hki:(k:Int)<(l.length:Int):=by omega
  have c2:=HW.out.c2
  have hfe:=Zdw hfs
  have HG:=hD0 (fun w2 (g:Nw w1 w2)=>Zfv l[k].h.t l[k].h.r l[k].h.W id (hmV l[k]) l[k].h.q w2 hx.len hokx hx.cap (hx.rd.nw g))
  rw[show(⟨l[k].h.t,l[k].h.r,l[k].h.W,l[k].h.q⟩:Hq)=l[k].h from rfl,Zlb hfs] at HG
  have hR:=HE.out.symm.trans (show Z1a (Z3 l) id=if 0<(rqB l[k].h id).sn then((Zc (abQ (rqB l[k].h id) l[k].h.q)).1,0) else([],7)by unfold Z1a;rw[ho])
  have hR2:=HT.out.symm.trans (show Vb (Z3 l) L id=if 0<(rqB l[k].h id).sn then(Yy (Z3 l) ⟨l[k].h.t,l[k].h.r,l[k].h.W,abQ (rqB l[k].h id) l[k].h.q⟩,if (rqB l[k].h id).md=0 then gvL L id else L) else(Z3 l,L)by unfold Vb;rw[ho])
  have hfo:=Zld hfe
  have hln:=Nat.le_trans (Za2 (rqB l[k].h id) l[k].h.q) hx.len
  have hokq:=Zi4 hokx (rqB l[k].h id) (Z2j hfe).1
  have HNm:=hD0 (show(l[k].h.t,l[k].h.r)=Z9 l[k].h from rfl)
  clear HE HT ho hi hx hokx hfs hfe HP
  unfold Yf hmV at HG
  generalize l[k].a=qa at *
  generalize l[k].c=qc at *
  obtain⟨n,hn⟩:∃n,l[k].h.q.length=n:=⟨_,rfl⟩
  rw[hn] at f2 HG
  obtain⟨Q,hQ⟩:∃Q,abQ (rqB l[k].h id) l[k].h.q=Q:=⟨_,rfl⟩
  rw[hQ] at HG hR hR2 hln hokq hfo
  generalize rqB l[k].h id=R at *
  obtain⟨ht,ht'⟩:∃t,l[k].h.t=t:=⟨_,rfl⟩
  obtain⟨hr,hr'⟩:∃r,l[k].h.r=r:=⟨_,rfl⟩
  obtain⟨hW,hW'⟩:∃W,l[k].h.W=W:=⟨_,rfl⟩
  rw[ht'] at f0 HG HNm hR2
  rw[hr'] at f1 HG HNm hR2
  rw[hW'] at f3 HG hokq hR2
  have HLn:=hD0 hln
  have HOk:=hD0 hokq
  have HFo:=hD0 hfo
  clear hn hQ ht' hr' hW' g1 hln hokq hfo
  by_cases hsn:0<R.sn
  ·rw[if_pos hsn] at HG hR hR2
   have HR:=hD0 hR
   have HR2:=hD0 hR2
   clear hR hR2 hsn
   go_wp2_with fail
   refine(HG.out _ (Nw.refl _)).mono ?_
   rintro e w2 ⟨v2,rfl,g2,hrd,hcap,hnew⟩
   obtain⟨a2,n2,rfl⟩:=hrd.form
   simp only[Yf]
   have hal:=Z1 w2 (.cells #[.int .i64 ht,.int .i64 hr,.slice a2 Q.length n2,.int .i64 hW] 63)
   have hNa:Nw w2 (w2.alloc (.cells #[.int .i64 ht,.int .i64 hr,.slice a2 Q.length n2,.int .i64 hW] 63)):=(Nw.refl w2).alloc _
   have hNq:=g2.trans hNa
   have hrd2:=hrd.nw hNa
   have hgot:=HW.out.got hNq ⟨ht,hr,hW,Q⟩ hrd2 hcap hnew HLn.out
   obtain⟨q0,q1,q2,q3,q4,hv,_⟩:=Z44 Q id
   have HF2:=hD0 (Zfw ht hr hW id (.slice a2 Q.length n2) Q _ HLn.out hrd2)
   unfold Yf at HF2
   rw[hv,HFo.out] at HF2
   have HK:=hD0 (aI0 hgot (aI0 hNq hal))
   have hg2:=g2.sz
   clear hrd hcap hnew hrd2 g2 HG f0 f1 f2 f3 c2 hgot hv hNq hNa
   have p0:(w2.alloc (.cells #[.int .i64 ht,.int .i64 hr,.slice a2 Q.length n2,.int .i64 hW] 63)).cell? ⟨w2.heap.size,0,none⟩=some (.int .i64 ht):=Z0 hal
   clear hal p0
   go_wp2_with fail
   generalize w2.alloc (.cells #[.int .i64 ht,.int .i64 hr,.slice a2 Q.length n2,.int .i64 hW] 63)=y2 at *
   refine HF2.out.mono ?_
   rintro e w3 ⟨rfl,g3⟩
   have hN3:=HN1.out.trans (HK.out.2.1.trans g3)
   have hNz:Nw w3 (w3.alloc (.cells #[.int .i64 q0,.int .i64 q1,.int .i64 q2,.int .i64 q3,.int .i64 q4] 50)):=(Nw.refl w3).alloc _
   have hN4:=hN3.trans hNz
   have HB3:=hD0 (g3.at' HK.out.2.2)
   have hb4:=hNz.at' HB3.out
   have hgot4:=(HK.out.1.nw g3).nw hNz
   have c1:=(H.out.nw hN4).c1
   have hs2:w2.heap.size<y2.heap.size:=hlt HK.out.2.2
   have hs3:=g3.sz
   have HGv:=hD0 (Zdu (HPl.out.nw hN4) id)
   have HA:=hD0 (aI0 hN4 (aI0 hb4 hgot4))
   clear hN3 hNz hN4 hb4 hgot4 g3 HF2
   by_cases hm:R.md=0
   ·rw[if_pos hm] at HR2
    have hd:(!decide (R.md=0))=false:=by simp[hm]
    rw[hd]
    clear hm hd
    go_wp2_with fail
    generalize w3.alloc (.cells #[.int .i64 q0,.int .i64 q1,.int .i64 q2,.int .i64 q3,.int .i64 q4] 50)=y3 at *
    refine HGv.out.mono ?_
    rintro e w4 ⟨rfl,hRp,hT3⟩
    have hb3:=(hT3.block _ (hlt HA.out.2.1) (fun e=>by have:=HN1.out.sz;omega)).trans HA.out.2.1
    have h3:=(H.out.nw HA.out.1).low hT3 (fun b e=>by omega)
    have hX3:=HA.out.2.2.tch hT3 (fun b e=>.inl (by omega))
    have HE3:=hD0 (Zg1 h3 HS.out hk ⟨⟨ht,hr,hW,Q⟩,a2,n2⟩ hX3 HNm.out HOk.out o)
    have HR3:=hD0 hRp
    have H3:=hD0 h3
    have HT3:=hD0 hT3
    have p0:w4.cell? ⟨w2.heap.size,0,none⟩=some (.int .i64 ht):=Z0 hb3
    have p1:w4.cell? ⟨w2.heap.size,1,none⟩=some (.int .i64 hr):=Z0 hb3
    have p2:w4.cell? ⟨w2.heap.size,2,none⟩=some (.slice a2 Q.length n2):=Z0 hb3
    have p3:w4.cell? ⟨w2.heap.size,3,none⟩=some (.int .i64 hW):=Z0 hb3
    clear hb3 h3 hX3 hT3 hRp HGv c1 hg2
    go_wp2_with fail
    refine HE3.out.mono ?_
    rintro e w5 ⟨vi,rfl,hIS,v4,l4,hl4,hRT⟩
    have HF4:=hD0 (aI0 hIS (aI0 hl4 hRT))
    clear hIS hl4 hRT HE3
    go_wp2
    refine bodyPost_ret (v:=.tuple #[vi,.int .i64 0]) (by simp[results,results100,go_sem, *]) rfl ?_
    exact⟨vi,by rw[HR.out],by rw[HR.out];exact HF4.out.1,by rw[HR2.out];exact HF4.out.2.2.rp H3.out HR3.out hpg,v4,l4,by rw[HR2.out];exact HF4.out.2.1,Yx.pre HA.out.1 (Yx.low HT3.out HF4.out.2.2.pg)⟩
   ·rw[if_neg hm] at HR2
    have hd:(!decide (R.md=0))=true:=by simp[hm]
    rw[hd]
    clear hm hd HGv c1
    have hb3:=HB3.out
    have hb3l:=hlt hb3
    have p0:w3.cell? ⟨w2.heap.size,0,none⟩=some (.int .i64 ht):=Z0 hb3
    have p1:w3.cell? ⟨w2.heap.size,1,none⟩=some (.int .i64 hr):=Z0 hb3
    have p2:w3.cell? ⟨w2.heap.size,2,none⟩=some (.slice a2 Q.length n2):=Z0 hb3
    have p3:w3.cell? ⟨w2.heap.size,3,none⟩=some (.int .i64 hW):=Z0 hb3
    clear hb3
    have HE3:=hD0 (Zg1 (H.out.nw HA.out.1) HS.out hk ⟨⟨ht,hr,hW,Q⟩,a2,n2⟩ HA.out.2.2 HNm.out HOk.out o)
    go_wp2_with fail
    generalize w3.alloc (.cells #[.int .i64 q0,.int .i64 q1,.int .i64 q2,.int .i64 q3,.int .i64 q4] 50)=y3 at *
    refine HE3.out.mono ?_
    rintro e w5 ⟨vi,rfl,hIS,v4,l4,hl4,hRT⟩
    have HF4:=hD0 (aI0 hIS (aI0 hl4 hRT))
    clear hIS hl4 hRT HE3
    go_wp2
    refine bodyPost_ret (v:=.tuple #[vi,.int .i64 0]) (by simp[results,results100,go_sem, *]) rfl ?_
    exact⟨vi,by rw[HR.out],by rw[HR.out];exact HF4.out.1,by rw[HR2.out];exact HF4.out.2.2.rp (H.out.nw HA.out.1) (HPl.out.nw HA.out.1) hpg,v4,l4,by rw[HR2.out];exact HF4.out.2.1,Yx.pre HA.out.1 HF4.out.2.2.pg⟩
  ·rw[if_neg hsn] at HG hR hR2
   have HR:=hD0 hR
   have HR2:=hD0 hR2
   clear hR hR2 hsn
   go_wp2_with fail
   refine(HG.out _ (Nw.refl _)).mono ?_
   rintro e w2 ⟨v2,rfl,g2,hrd,hcap,hnew⟩
   obtain⟨a2,n2,rfl⟩:=hrd.form
   simp only[Yf]
   have HN2:=hD0 (HN1.out.trans (g2.trans ((Nw.refl w2).alloc (.cells #[.int .i64 noH.t,.int .i64 noH.r,.slice a2 noH.q.length n2,.int .i64 noH.W] 63))))
   clear hrd hcap hnew g2 HG f0 f1 f2 f3 c2
   go_wp2
   refine bodyPost_ret (v:=.tuple #[.slice none 0 0,.int .i64 7]) (by simp[results,results100,go_sem, *]) rfl ?_
   exact⟨_,by rw[HR.out],by rw[HR.out];exact Zfl _,by rw[HR2.out];exact HPl.out.nw HN2.out,_,l,by rw[HR2.out],H.out.same HN2.out pg⟩
theorem Z4u(hss:List (List Hq))(i:Nat):hss.set i (V6 hss i)=hss:=by
 by_cases h:i<hss.length
 ·rw[Ve h,List.set_getElem_self]
 ·exact List.set_eq_of_length_le (by omega)
theorem ofN{hss:List (List Hq)}{id:Int}(e:atT hss id=none)(i:Nat):Zt (V6 hss i) id=none:=by
 by_cases h:i<hss.length
 ·rw[Ve h]
  exact Z73 e _ (gM0 h)
 ·unfold V6
  rw[List.getD_eq_getElem?_getD,List.getElem?_eq_none (by omega)]
  rfl
theorem Zqn{hss:List (List Hq)}{id:Int}{i:Nat}(e:atT hss id=some i):V3 hss id=i:=by unfold V3;rw[e];rfl
theorem Zd9{hss:List (List Hq)}{id:Int}(e:atT hss id=none):Z4e hss id=([],5):=by unfold Z4e Z1w;rw[ofN e]
theorem Zod{hss:List (List Hq)}{L:List Bool}{id:Int}(e:atT hss id=none):Z2c hss L id=(hss,L):=by unfold Z2c Vy;rw[ofN e];simp only[Z4u]
theorem Zby{hss:List (List Hq)}{id:Int}(e:atT hss id=none):Z3w hss id=([],5):=by unfold Z3w Z1a;rw[ofN e]
theorem Zlc{hss:List (List Hq)}{L:List Bool}{id:Int}(e:atT hss id=none):Z2a hss L id=(hss,L):=by unfold Z2a Vb;rw[ofN e];simp only[Z4u]
theorem Znb{hss:List (List Hq)}{id x:Int}(e:atT hss id=none):Zaq hss id x=5:=by unfold Zaq Z1s;rw[ofN e]
theorem Znd{hss:List (List Hq)}{id x:Int}(e:atT hss id=none):Z5b hss id x=hss:=by
 unfold Z5b Z1t
 rw[ofN e]
 split<;>exact Z4u _ _
theorem Zu8{hss:List (List Hq)}{id x:Int}(b:Z07 x):Z3t hss id x=2:=by unfold Z3t Z0u;rw[if_pos b]
theorem Zqh{hss:List (List Hq)}{id x:Int}(b:¬Z07 x)(e:atT hss id=none):Z3t hss id x=5:=by unfold Z3t Z0u;rw[if_neg b,ofN e]
theorem Ziu{hss:List (List Hq)}{id x:Int}(h:Z3t hss id x≠0):Zbp hss id x=false:=by
 unfold Z3t at h
 unfold Zbp Z3c
 rw[if_neg h]
theorem Ziv{hss:List (List Hq)}{id x:Int}(h:Z3t hss id x≠0):Z5o hss id x=hss:=by
 unfold Z3t at h
 unfold Z5o Z22
 rw[if_neg h]
 exact Z4u _ _
theorem Zp9{w w':World}{o po:Nat}{most:Int}{v v':Value}{l l':List Hm}(d:Yx w o po o most v l w' v' l')(pg:Nat):Yx w o po pg most v l w' v' l':=⟨d.rb,d.tch.mono fun b _ e=>e.elim .inl fun e=>e.elim (fun e=>.inr (.inl e)) .inl,d.inn⟩
theorem Zij{W W':World}{o n:Nat}{C:Ud}{bb cp po pg:Nat}{bs:List RB}{L:List Bool}(h:RtM W o n C bb cp po pg bs L){i:Nat}(hi:i<bs.length){v':Value}{l':List Hm}(d:Yx W bs[i].o po bs[i].o n bs[i].v bs[i].l W' v' l'):Rp W' po pg L:=by
 obtain⟨h1,h2,h3⟩:=h.rb.rb _ (gM0 hi)
 have key:∀k,(k=bs[i].o∨bs[i].v.ownBlock=some k∨k=bs[i].o)→bs[i].o≤k:=fun k e=>by
  rcases e with e | e | e
  ·omega
  ·exact(Z0p h1 h3 k (.inr (.inl e))).1
  ·omega
 have hp:=h1.pl
 exact h.pl.tch d.tch (fun e=>by have:=key _ e;omega) (fun e=>by have:=key _ e;omega)
theorem Zb8{S n N k:Nat}{bs:List RB}{L:List Bool}(ok:Y1 S n N k (Zv bs) L){i:Nat}(hi:i<bs.length):∀x∈bs[i].l,Ok x.h.W x.h.q:=fun x hx=>((Z1y ok hi).inv _ (List.mem_map.2 ⟨x,hx,rfl⟩)).ok
theorem Zsg{W:World}{o S n N k:Nat}{C:Ud}{hss:List (List Hq)}{L:List Bool}{J:Nat→Prop}(h:U5 W o S n N k C hss L J)(hk:k≤800)(hS:S≤16)(hS0:0<S)(id:Int)(E:Int)(hE:(Z4e hss id).2=E) :
  Calls prog 50 #[.pointer (some ⟨o,0,none⟩),.int .i64 id] W fun e W'=>∃vi,e=.returned (.tuple #[vi,.int .i64 E])∧IS W' vi (Z4e hss id).1∧Vd W o S n N (k+1) C (Z2c hss L id).1 (Z2c hss L id).2 J W':=by
 have HT:=hD0 (fun(W':World) (g:Nw W W')=>h.to g (k+1) (Nat.le_succ k))
 obtain⟨bb,cp,po,pg,bs,hm,rfl,rfl,ok⟩:=h
 have okA:=ok.lv hS0 id
 have hSl:bs.length≤16:=by rw[←Zj,ok.sl];exact hS
 have HO:=hD0 (Zop hm hSl id)
 have HM:=hD0 (aI0 hm (aI0 ok okA))
 have HE:=hD0 hE
 clear hm ok okA hE
 go_enter func50,ntmps50
 go_wp2_with fail
 refine HO.out.mono ?_
 rintro e w1 ⟨⟨rfl,hn⟩ | ⟨i,hi,rfl,hat⟩,g1⟩
 ·have hE:=HE.out
  rw[Zd9 hn] at hE
  have hE2:E=5:=hE.symm
  subst hE2
  have HR:=hD0 (show IS w1 (.slice none 0 0) (Z4e (Zv bs) id).1∧Vd W o S n N (k+1) C (Z2c (Zv bs) L id).1 (Z2c (Zv bs) L id).2 (RtJ o bb po pg bs) w1 from⟨by rw[Zd9 hn];exact IS.nil _,by rw[Zod hn];exact HT.out w1 g1⟩)
  clear g1 hE
  go_wp2
  exact bodyPost_ret (v:=.tuple #[.slice none 0 0,.int .i64 5]) (by simp[results,results50,go_sem, *]) rfl ⟨_,rfl,HR.out⟩
 ·have hmd:=HM.out.1.nw g1
  have hrb:=hmd.rb.rb _ (gM0 hi)
  have HA:=hD0 (Zp8 hrb.1 (Z1y HM.out.2.1 hi).srt (Zb8 HM.out.2.1 hi) hmd.pl hrb.2.1 id)
  have hw:=Zqn hat
  have HG:=hD0 (aI0 g1 (aI0 hw hi))
  have hE:=HE.out
  unfold Z4e at hE
  rw[hw,Yo hi] at hE
  have HE2:=hD0 hE
  obtain⟨B,hB⟩:∃B,bs[i].o=B:=⟨_,rfl⟩
  have HBe:=hD0 hB
  rw[hB] at HA ⊢
  clear hmd hrb hw g1 hE hB
  go_wp2_with fail
  refine HA.out.mono ?_
  rintro e w2 ⟨vi,rfl,his,hpl,v',l',hl',d⟩
  obtain⟨vs0,vs2,e1,_⟩:=his.box
  rw[HE2.out]
  have HR:=hD0 (show IS w2 vi (Z4e (Zv bs) id).1∧Vd W o S n N (k+1) C (Z2c (Zv bs) L id).1 (Z2c (Zv bs) L id).2 (RtJ o bb po pg bs) w2 from by
   rw[←HBe.out] at d
   have okA:=HM.out.2.2
   unfold Z2c at okA ⊢
   unfold Z4e
   rw[HG.out.2.1,Yo hi] at okA ⊢
   exact⟨his,(Z82 (HM.out.1.nw HG.out.1) HG.out.1 hi d hpl hl' okA).1⟩)
  subst e1
  clear his hpl hl' d HA
  go_wp2
  exact bodyPost_ret (v:=.tuple #[.slice vs0 _ vs2,.int .i64 E]) (by simp[results,results50,go_sem, *]) rfl ⟨_,rfl,HR.out⟩
theorem Zj6{W:World}{o S n N k:Nat}{C:Ud}{hss:List (List Hq)}{L:List Bool}{J:Nat→Prop}(h:U5 W o S n N k C hss L J)(hk:k≤800)(hS:S≤16)(hS0:0<S)(id:Int)(E:Int)(hE:(Z3w hss id).2=E) :
  Calls prog 53 #[.pointer (some ⟨o,0,none⟩),.int .i64 id] W fun e W'=>∃vi,e=.returned (.tuple #[vi,.int .i64 E])∧IS W' vi (Z3w hss id).1∧Vd W o S n N (k+1) C (Z2a hss L id).1 (Z2a hss L id).2 J W':=by
 have HT:=hD0 (fun(W':World) (g:Nw W W')=>h.to g (k+1) (Nat.le_succ k))
 obtain⟨bb,cp,po,pg,bs,hm,rfl,rfl,ok⟩:=h
 have okA:=ok.ab hS0 id
 have hSl:bs.length≤16:=by rw[←Zj,ok.sl];exact hS
 have HO:=hD0 (Zop hm hSl id)
 have HM:=hD0 (aI0 hm (aI0 ok okA))
 have HE:=hD0 hE
 clear hm ok okA hE
 go_enter func53,ntmps53
 go_wp2_with fail
 refine HO.out.mono ?_
 rintro e w1 ⟨⟨rfl,hn⟩ | ⟨i,hi,rfl,hat⟩,g1⟩
 ·have hE:=HE.out
  rw[Zby hn] at hE
  have hE2:E=5:=hE.symm
  subst hE2
  have HR:=hD0 (show IS w1 (.slice none 0 0) (Z3w (Zv bs) id).1∧Vd W o S n N (k+1) C (Z2a (Zv bs) L id).1 (Z2a (Zv bs) L id).2 (RtJ o bb po pg bs) w1 from⟨by rw[Zby hn];exact IS.nil _,by rw[Zlc hn];exact HT.out w1 g1⟩)
  clear g1 hE
  go_wp2
  exact bodyPost_ret (v:=.tuple #[.slice none 0 0,.int .i64 5]) (by simp[results,results53,go_sem, *]) rfl ⟨_,rfl,HR.out⟩
 ·have hmd:=HM.out.1.nw g1
  have hrb:=hmd.rb.rb _ (gM0 hi)
  have HA:=hD0 (Zfy hrb.1 (Z1y HM.out.2.1 hi).srt (Zb8 HM.out.2.1 hi) hmd.pl hrb.2.1 id)
  have hw:=Zqn hat
  have HG:=hD0 (aI0 g1 (aI0 hw hi))
  have hE:=HE.out
  unfold Z3w at hE
  rw[hw,Yo hi] at hE
  have HE2:=hD0 hE
  obtain⟨B,hB⟩:∃B,bs[i].o=B:=⟨_,rfl⟩
  have HBe:=hD0 hB
  rw[hB] at HA ⊢
  clear hmd hrb hw g1 hE hB
  go_wp2_with fail
  refine HA.out.mono ?_
  rintro e w2 ⟨vi,rfl,his,hpl,v',l',hl',d⟩
  obtain⟨vs0,vs2,e1,_⟩:=his.box
  rw[HE2.out]
  have HR:=hD0 (show IS w2 vi (Z3w (Zv bs) id).1∧Vd W o S n N (k+1) C (Z2a (Zv bs) L id).1 (Z2a (Zv bs) L id).2 (RtJ o bb po pg bs) w2 from by
   rw[←HBe.out] at d
   have okA:=HM.out.2.2
   unfold Z2a at okA ⊢
   unfold Z3w
   rw[HG.out.2.1,Yo hi] at okA ⊢
   exact⟨his,(Z82 (HM.out.1.nw HG.out.1) HG.out.1 hi d hpl hl' okA).1⟩)
  subst e1
  clear his hpl hl' d HA
  go_wp2
  exact bodyPost_ret (v:=.tuple #[.slice vs0 _ vs2,.int .i64 E]) (by simp[results,results53,go_sem, *]) rfl ⟨_,rfl,HR.out⟩
theorem Zwc{W:World}{o S n N k:Nat}{C:Ud}{hss:List (List Hq)}{L:List Bool}{J:Nat→Prop}(h:U5 W o S n N k C hss L J)(hk:k≤800)(hS:S≤16)(hS0:0<S)(id x:Int)(E:Int)(hE:Zaq hss id x=E) :
  Calls prog 55 #[.pointer (some ⟨o,0,none⟩),.int .i64 id,.int .i64 x] W fun e W'=>e=.returned (.int .i64 E)∧Vd W o S n N (k+1) C (Z5b hss id x) L J W':=by
 have HT:=hD0 (fun(W':World) (g:Nw W W')=>h.to g (k+1) (Nat.le_succ k))
 obtain⟨bb,cp,po,pg,bs,hm,rfl,rfl,ok⟩:=h
 have okA:=ok.hn hS0 id x
 have hSl:bs.length≤16:=by rw[←Zj,ok.sl];exact hS
 have HO:=hD0 (Zop hm hSl id)
 have HM:=hD0 (aI0 hm (aI0 ok okA))
 have HE:=hD0 hE
 clear hm ok okA hE
 go_enter func55,ntmps55
 go_wp2_with fail
 refine HO.out.mono ?_
 rintro e w1 ⟨⟨rfl,hn⟩ | ⟨i,hi,rfl,hat⟩,g1⟩
 ·have hE:=HE.out
  rw[Znb hn] at hE
  subst hE
  have HR:=hD0 (show Vd W o S n N (k+1) C (Z5b (Zv bs) id x) L (RtJ o bb po pg bs) w1 from by rw[Znd hn];exact HT.out w1 g1)
  clear g1
  go_wp2
  exact bodyPost_ret (v:=.int .i64 5) (by simp[results,results55,go_sem, *]) rfl ⟨rfl,HR.out⟩
 ·have hmd:=HM.out.1.nw g1
  have hrb:=hmd.rb.rb _ (gM0 hi)
  have HA:=hD0 (Ztb hrb.1 (Z1y HM.out.2.1 hi).srt (Zb8 HM.out.2.1 hi) bs[i].o id x)
  have hw:=Zqn hat
  have HG:=hD0 (aI0 g1 (aI0 hw hi))
  have hE:=HE.out
  unfold Zaq at hE
  rw[hw,Yo hi] at hE
  have HE2:=hD0 hE
  obtain⟨B,hB⟩:∃B,bs[i].o=B:=⟨_,rfl⟩
  have HBe:=hD0 hB
  rw[hB] at HA ⊢
  clear hrb hw g1 hE hB hmd
  go_wp2_with fail
  refine HA.out.mono ?_
  rintro e w2 ⟨rfl,v',l',hl',d⟩
  rw[HE2.out]
  have HR:=hD0 (show Vd W o S n N (k+1) C (Z5b (Zv bs) id x) L (RtJ o bb po pg bs) w2 from by
   rw[←HBe.out] at d
   have okA:=HM.out.2.2
   have hpl:=Zij (HM.out.1.nw HG.out.1) hi d
   unfold Z5b at okA ⊢
   rw[HG.out.2.1,Yo hi] at okA ⊢
   exact(Z82 (HM.out.1.nw HG.out.1) HG.out.1 hi (Zp9 d pg) hpl hl' okA).1)
  clear hl' d HA
  go_wp2
  exact bodyPost_ret (v:=.int .i64 E) (by simp[results,results55,go_sem, *]) rfl ⟨rfl,HR.out⟩
theorem Zl8{W:World}{o S n N k:Nat}{C:Ud}{hss:List (List Hq)}{L:List Bool}{J:Nat→Prop}(h:U5 W o S n N k C hss L J)(hk:k≤800)(hS:S≤16)(hS0:0<S)(id x:Int)(G:Bool)(E:Int)(hG:Zbp hss id x=G)(hE:Z3t hss id x=E) :
  Calls prog 49 #[.pointer (some ⟨o,0,none⟩),.int .i64 id,.int .i64 x] W fun e W'=>e=.returned (.tuple #[.bool G,.int .i64 E])∧Vd W o S n N (k+1) C (Z5o hss id x) L J W':=by
 have HT:=hD0 (fun(W':World) (g:Nw W W')=>h.to g (k+1) (Nat.le_succ k))
 obtain⟨bb,cp,po,pg,bs,hm,rfl,rfl,ok⟩:=h
 have okA:=ok.up hS0 (by omega) id x
 have hSl:bs.length≤16:=by rw[←Zj,ok.sl];exact hS
 have HO:=hD0 (Zop hm hSl id)
 have HM:=hD0 (aI0 hm (aI0 ok okA))
 by_cases hb:Z07 x
 ·have e2:=Zu8 (hss:=Zv bs) (id:=id) hb
  rw[e2] at hE
  subst hE
  have hg:=Ziu (hss:=Zv bs) (id:=id) (x:=x) (by rw[e2];decide)
  rw[hg] at hG
  subst hG
  have HR:=hD0 (show Vd W o S n N (k+1) C (Z5o (Zv bs) id x) L (RtJ o bb po pg bs) W from by rw[Ziv (by rw[e2];decide)];exact HT.out W (Nw.refl W))
  clear hm ok okA e2 hg HO HM
  by_cases h0:x=0
  ·subst h0
   go_enter func49,ntmps49
   go_wp2
   exact bodyPost_ret (v:=.tuple #[.bool false,.int .i64 2]) (by simp[results,results49,go_sem, *]) rfl ⟨rfl,HR.out⟩
  ·have hkn:Zr x=false:=hb.elim (fun e=>absurd e h0) (fun e=>e)
   have d0:(x==0)=false:=beq_eq_false_iff_ne.2 h0
   have HK:=hD0 (Z0z x W)
   rw[hkn] at HK
   clear hb hkn h0
   go_enter func49,ntmps49
   go_wp2_with fail
   refine HK.out.mono ?_
   rintro e w' ⟨rfl,rfl⟩
   go_wp2
   exact bodyPost_ret (v:=.tuple #[.bool false,.int .i64 2]) (by simp[results,results49,go_sem, *]) rfl ⟨rfl,HR.out⟩
 ·have h0:x≠0:=fun e=>hb (.inl e)
  have hkn:Zr x=true:=by cases e:Zr x with | true=>rfl | false=>exact absurd (.inr e) hb
  have d0:(x==0)=false:=beq_eq_false_iff_ne.2 h0
  have HK:=hD0 (Z0z x W)
  rw[hkn] at HK
  have HB:=hD0 hb
  have HE:=hD0 (aI0 hG hE)
  clear hm ok okA hE hG hkn h0 hb
  go_enter func49,ntmps49
  go_wp2_with fail
  refine HK.out.mono ?_
  rintro e w' ⟨rfl,rfl⟩
  go_wp2_with fail
  refine HO.out.mono ?_
  rintro e w1 ⟨⟨rfl,hn⟩ | ⟨i,hi,rfl,hat⟩,g1⟩
  ·obtain⟨hG,hE⟩:=HE.out
   have e2:=Zqh (x:=x) HB.out hn
   rw[e2] at hE
   subst hE
   rw[Ziu (by rw[e2];decide)] at hG
   subst hG
   have HR:=hD0 (show Vd W o S n N (k+1) C (Z5o (Zv bs) id x) L (RtJ o bb po pg bs) w1 from by rw[Ziv (by rw[e2];decide)];exact HT.out w1 g1)
   clear g1 e2
   go_wp2
   exact bodyPost_ret (v:=.tuple #[.bool false,.int .i64 5]) (by simp[results,results49,go_sem, *]) rfl ⟨rfl,HR.out⟩
  ·have hmd:=HM.out.1.nw g1
   have hrb:=hmd.rb.rb _ (gM0 hi)
   have HA:=hD0 (Zg2 hrb.1 (Z1y HM.out.2.1 hi).srt (Zb8 HM.out.2.1 hi) bs[i].o id x)
   have hw:=Zqn hat
   have HG:=hD0 (aI0 g1 (aI0 hw hi))
   obtain⟨hG,hE⟩:=HE.out
   unfold Z3t at hE
   unfold Zbp at hG
   rw[hw,Yo hi] at hE hG
   have HE2:=hD0 (aI0 hG hE)
   obtain⟨B,hB⟩:∃B,bs[i].o=B:=⟨_,rfl⟩
   have HBe:=hD0 hB
   rw[hB] at HA ⊢
   clear hrb hw g1 hE hB hmd hG
   go_wp2_with fail
   refine HA.out.mono ?_
   rintro e w2 ⟨rfl,v',l',hl',d⟩
   rw[HE2.out.1,HE2.out.2]
   have HR:=hD0 (show Vd W o S n N (k+1) C (Z5o (Zv bs) id x) L (RtJ o bb po pg bs) w2 from by
    rw[←HBe.out] at d
    have okA:=HM.out.2.2
    have hpl:=Zij (HM.out.1.nw HG.out.1) hi d
    unfold Z5o at okA ⊢
    rw[HG.out.2.1,Yo hi] at okA ⊢
    exact(Z82 (HM.out.1.nw HG.out.1) HG.out.1 hi (Zp9 d pg) hpl hl' okA).1)
   clear hl' d HA
   go_wp2
   exact bodyPost_ret (v:=.tuple #[.bool G,.int .i64 E]) (by simp[results,results49,go_sem, *]) rfl ⟨rfl,HR.out⟩
section
variable {W:World} {o S n N k:Nat} {C:Ud} {hss:List (List Hq)} {L:List Bool} {J:Nat→Prop}
theorem Zyr(h:U5 W o S n N k C hss L J)(hS:S≤16)(id:Int)(t r b0 b1 b2 b3 b4:Int)(y:Bool)(hR:Z5w hss id=(t,r,⟨b0,b1,b2,b3,b4⟩,y)) :
  Calls prog 23 #[.pointer (some ⟨o,0,none⟩),.int .i64 id] W fun e W'=>e=.returned (.tuple #[.agg #[.int .i64 t,.int .i64 r],.agg #[.int .i64 b0,.int .i64 b1,.int .i64 b2,.int .i64 b3,.int .i64 b4],.bool y])∧Nw W W':=by
 obtain⟨bb,cp,po,pg,bs,hm,rfl,rfl,ok⟩:=h
 have hSl:bs.length≤16:=by rw[←Zj,ok.sl];exact hS
 have hN:Nw W ((W.alloc (.cells #[.int .i64 0,.int .i64 0] 34)).alloc (.cells #[.int .i64 0,.int .i64 0,.int .i64 0,.int .i64 0,.int .i64 0] 50)):=((Nw.refl W).alloc _).alloc _
 have hA:=((Nw.refl (W.alloc (.cells #[.int .i64 0,.int .i64 0] 34))).alloc (.cells #[.int .i64 0,.int .i64 0,.int .i64 0,.int .i64 0,.int .i64 0] 50)).at' (Z1 W (.cells #[.int .i64 0,.int .i64 0] 34))
 have hB:=Z1 (W.alloc (.cells #[.int .i64 0,.int .i64 0] 34)) (.cells #[.int .i64 0,.int .i64 0,.int .i64 0,.int .i64 0,.int .i64 0] 50)
 rw[World.size_alloc] at hB
 obtain⟨z,hz⟩:∃z,(W.alloc (.cells #[.int .i64 0,.int .i64 0] 34)).alloc (.cells #[.int .i64 0,.int .i64 0,.int .i64 0,.int .i64 0,.int .i64 0] 50)=z:=⟨_,rfl⟩
 rw[hz] at hN hA hB
 have HZ:=hD0 hz
 have hmz:=hm.nw hN
 have HO:=hD0 (Zop hmz hSl id)
 have HN:=hD0 (aI0 hN (aI0 hA hB))
 have HM:=hD0 hmz
 have HRr:=hD0 hR
 clear hmz hm ok hR hz hN hA hB
 go_enter func23,ntmps23
 go_wp2_with fail
 rw[HZ.out]
 refine HO.out.mono ?_
 rintro e w0 ⟨⟨rfl,hn⟩ | ⟨i,hi,rfl,hat⟩,g0⟩
 ·have hR:=HRr.out
  unfold Z5w Z46 at hR
  rw[ofN hn] at hR
  simp only[Prod.mk.injEq,Rq.mk.injEq] at hR
  obtain⟨rfl,rfl,⟨rfl,rfl,rfl,rfl,rfl⟩,rfl⟩:=hR
  have g1:=g0
  clear g0
  have hA:=g1.at' HN.out.2.1
  have hB:=g1.at' HN.out.2.2
  have m0:=Z0 (j:=0) hA
  have m1:=Z0 (j:=1) hA
  have mz:=fun j=>hfz (j:=j) hA
  have ml:=hlt hA
  have n0:=Z0 (j:=0) hB
  have n1:=Z0 (j:=1) hB
  have n2:=Z0 (j:=2) hB
  have n3:=Z0 (j:=3) hB
  have n4:=Z0 (j:=4) hB
  have nz:=fun j=>hfz (j:=j) hB
  have nl:=hlt hB
  have ng5:¬(W.heap.size+1=W.heap.size):=by omega
  have HE:=hD0 (HN.out.1.trans g1)
  clear hA hB g1 HN HO
  go_wp2
  have HR:=hD0 (((((((HE.out.st (p:=⟨W.heap.size,0,none⟩) (Nat.le_refl _) (.int .i64 0)).st (p:=⟨W.heap.size,1,none⟩) (Nat.le_refl _) (.int .i64 0)).st (p:=⟨W.heap.size+1,0,none⟩) (Nat.le_succ _) (.int .i64 0)).st (p:=⟨W.heap.size+1,1,none⟩) (Nat.le_succ _) (.int .i64 0)).st (p:=⟨W.heap.size+1,2,none⟩) (Nat.le_succ _) (.int .i64 0)).st (p:=⟨W.heap.size+1,3,none⟩) (Nat.le_succ _) (.int .i64 0)).st (p:=⟨W.heap.size+1,4,none⟩) (Nat.le_succ _) (.int .i64 0))
  exact bodyPost_ret (v:=.tuple #[.agg #[.int .i64 0,.int .i64 0],.agg #[.int .i64 0,.int .i64 0,.int .i64 0,.int .i64 0,.int .i64 0],.bool false]) (by simp[results,results23,go_sem, *]) rfl ⟨rfl,HR.out⟩
 ·have hR:=HRr.out
  unfold Z5w at hR
  rw[Zqn hat,Yo hi] at hR
  have hgd:=Zxj (((HM.out.nw g0).rb.rb _ (gM0 hi)).1) id
  rw[show Zfb (Z3 bs[i].l) id=_ from hR] at hgd
  unfold Zyp rqV at hgd
  have HGt:=hD0 hgd
  obtain⟨B,hB0⟩:∃B,bs[i].o=B:=⟨_,rfl⟩
  rw[hB0] at HGt ⊢
  have HG0:=hD0 g0
  clear hgd hR hB0 g0 HO
  go_wp2_with fail
  refine HGt.out.mono ?_
  rintro e w1 ⟨rfl,g01⟩
  have g1:=HG0.out.trans g01
  clear g01
  have hA:=g1.at' HN.out.2.1
  have hB:=g1.at' HN.out.2.2
  have m0:=Z0 (j:=0) hA
  have m1:=Z0 (j:=1) hA
  have mz:=fun j=>hfz (j:=j) hA
  have ml:=hlt hA
  have n0:=Z0 (j:=0) hB
  have n1:=Z0 (j:=1) hB
  have n2:=Z0 (j:=2) hB
  have n3:=Z0 (j:=3) hB
  have n4:=Z0 (j:=4) hB
  have nz:=fun j=>hfz (j:=j) hB
  have nl:=hlt hB
  have ng5:¬(W.heap.size+1=W.heap.size):=by omega
  have HE:=hD0 (HN.out.1.trans g1)
  clear hA hB g1 HGt HN
  go_wp2
  have HR:=hD0 (((((((HE.out.st (p:=⟨W.heap.size,0,none⟩) (Nat.le_refl _) (.int .i64 t)).st (p:=⟨W.heap.size,1,none⟩) (Nat.le_refl _) (.int .i64 r)).st (p:=⟨W.heap.size+1,0,none⟩) (Nat.le_succ _) (.int .i64 b0)).st (p:=⟨W.heap.size+1,1,none⟩) (Nat.le_succ _) (.int .i64 b1)).st (p:=⟨W.heap.size+1,2,none⟩) (Nat.le_succ _) (.int .i64 b2)).st (p:=⟨W.heap.size+1,3,none⟩) (Nat.le_succ _) (.int .i64 b3)).st (p:=⟨W.heap.size+1,4,none⟩) (Nat.le_succ _) (.int .i64 b4))
  exact bodyPost_ret (v:=.tuple #[.agg #[.int .i64 t,.int .i64 r],.agg #[.int .i64 b0,.int .i64 b1,.int .i64 b2,.int .i64 b3,.int .i64 b4],.bool y]) (by simp[results,results23,go_sem, *]) rfl ⟨rfl,HR.out⟩
theorem Zw7(h:U5 W o S n N k C hss L J)(hC:C.s=S)(t r txn i:Int)(y:Bool)(hR:Z7i hss t r txn=(i,y)) :
  Calls prog 25 #[.pointer (some ⟨o,0,none⟩),.agg #[.int .i64 t,.int .i64 r],.int .i64 txn] W fun e W'=>e=.returned (.tuple #[.int .i64 i,.bool y])∧Nw W W':=by
 obtain⟨bb,cp,po,pg,ds,hm,rfl,rfl,ok⟩:=h
 have hSl:ds.length=S:=by rw[←Zj];exact ok.sl
 rw[←hSl] at hC
 obtain⟨z,hz⟩:∃z,W.alloc (.cells #[.int .i64 t,.int .i64 r] 34)=z:=⟨_,rfl⟩
 have g1:Nw W z:=by rw[←hz];exact(Nw.refl W).alloc _
 have hal:=Z1 W (.cells #[.int .i64 t,.int .i64 r] 34)
 rw[hz] at hal
 have HZ:=hD0 hz
 have hst:=Z5l (hm.nw g1) t r
 rw[hC] at hst
 have HSt:=hD0 hst
 have c0:=Z0 (j:=0) hal
 have c1:=Z0 (j:=1) hal
 have cl:=hlt hal
 have HG:=hD0 (aI0 g1 hal)
 unfold Z7i at hR
 rw[Zj] at hR
 have hrg:=Z1k t r ds.length
 by_cases hbad:ofS t r ds.length = -1
 ·rw[hbad] at HSt
  rw[if_pos hbad] at hR
  obtain⟨rfl,rfl⟩:=Prod.mk.inj hR
  clear hz g1 hal hrg hst hm ok hR hbad
  go_enter func25,ntmps25
  go_wp2_with fail
  rw[HZ.out]
  refine HSt.out.mono ?_
  rintro e z2 ⟨rfl,g2⟩
  have HE:=hD0 (HG.out.1.trans g2)
  clear g2 HG
  go_wp2
  exact bodyPost_ret (v:=.tuple #[.int .i64 0,.bool false]) (by simp[results,results25,go_sem, *]) rfl ⟨rfl,HE.out⟩
 ·rw[if_neg hbad] at hR
  obtain⟨s,hs⟩:∃s:Nat,ofS t r ds.length=s:=⟨(ofS t r ds.length).toNat,by omega⟩
  have hi:s<ds.length:=by omega
  rw[hs] at HSt hR
  rw[Int.toNat_natCast,Yo hi] at hR
  have d1:decide ((s:Int)<0)=false:=by rw[decide_eq_false_iff_not];omega
  have d2:(s:Int)<(ds.length:Int):=by omega
  have HM:=hD0 hm
  have HR:=hD0 (aI0 hR (Z1y ok hi).srt)
  clear hz g1 hal hrg hst hm ok hR hbad hs
  go_enter func25,ntmps25
  go_wp2_with fail
  rw[HZ.out]
  generalize W.heap.size=pb at *
  refine HSt.out.mono ?_
  rintro e z2 ⟨rfl,g2⟩
  have HG2:=hD0 (aI0 (HG.out.1.trans g2) (g2.at' HG.out.2))
  clear g2 c0 c1 cl HG HSt
  obtain⟨B,hB⟩:∃B,ds[s].o=B:=⟨_,rfl⟩
  have hFd:∀y2,Nw z2 y2→Calls prog 75 #[.pointer (some ⟨B,0,none⟩),.agg #[.int .i64 t,.int .i64 r],.int .i64 txn] y2 fun e W'=>e=.returned (.tuple #[.int .i64 i,.bool y])∧Nw y2 W':=fun y2 g=>by
   have hd:=((HM.out.nw (HG2.out.1.trans g)).rb.rb _ (gM0 hi)).1
   have:=Z6s hd HR.out.2 t r txn
   rw[HR.out.1,hB] at this
   exact this
  have HFd:=hD0 hFd
  have hc6:=fun y2 (g:Nw z2 y2)=>(HM.out.nw (HG2.out.1.trans g)).c4
  have hcr:=fun y2 (g:Nw z2 y2)=>(HM.out.nw (HG2.out.1.trans g)).row s hi
  rw[hB] at hcr
  clear hFd hB
  go_upto_region 4 with fail
  have hne:Nonempty (Wd (fun y=>Nw z2 y)):=⟨⟨_,Nw.refl _⟩⟩
  have C1:=fun(d:Wd (fun y=>Nw z2 y))=>hc6 _ d.h
  have C2:=fun(d:Wd (fun y=>Nw z2 y))=>hcr _ d.h
  have C3:=fun(d:Wd (fun y=>Nw z2 y))=>(Z0 (j:=0) (d.h.at' HG2.out.2)).trans rfl
  have C4:=fun(d:Wd (fun y=>Nw z2 y))=>(Z0 (j:=1) (d.h.at' HG2.out.2)).trans rfl
  clear hc6 hcr
  go_wp2_with fail
  refine Zf (fun y=>Nw z2 y) (by kernel_rfl) (by kernel_rfl) (Nw.refl z2).dr ?_
  repeat (first | go_big_quiet_step ((exact Zd (fun a b h g=>h.trans g) (HFd.out _ (Wd.h _)))) | quiet_step ((exact Zd (fun a b h g=>h.trans g) (HFd.out _ (Wd.h _)))))
  refine wpQuiet_nil ?_
  intro d
  have HD:=hD0 (HG2.out.1.trans d.h)
  clear C1 C2 C3 C4 hne HFd HM HR
  revert HD
  generalize d.w=z3
  intro HD
  go_wp2
  exact bodyPost_ret (v:=.tuple #[.int .i64 i,.bool y]) (by simp[results,results25,go_sem, *]) rfl ⟨rfl,HD.out⟩
end
theorem Zji{hss:List (List Hq)}{j:Nat}(hj:j<hss.length):Z15 (hss.take (j+1))=Z15 (hss.take j)+hss[j].length:=by
 unfold Z15
 rw[List.take_succ_eq_append_getElem hj,List.map_append,List.sum_append]
 simp
theorem Zjh{hss:List (List Hq)}(h:∀l∈hss,l.length≤64)(hn:hss.length≤16)(j:Nat):Z15 (hss.take j)≤1024:=by
 rw[Zc6]
 exact Ui h hn j
theorem Zyb{a b:Nat}(h:a≤1024)(k:b≤64):wrap64 ((a:Int)+(b:Int))=((a+b:Nat):Int):=by unfold wrap64;omega
theorem Zm3{W:World}{o S n N k:Nat}{C:Ud}{hss:List (List Hq)}{L:List Bool}{J:Nat→Prop}(h:U5 W o S n N k C hss L J)(hS:S≤16)(hn:n≤64):Calls prog 27 #[.pointer (some ⟨o,0,none⟩)] W fun e W'=>e=.returned (.tuple #[.int .i64 (Z15 hss),.int .i64 (liv L)])∧Nw W W':=by
 obtain⟨bb,cp,po,pg,bs,hm,rfl,rfl,ok⟩:=h
 have hb:∀l∈Zv bs,l.length≤64:=fun l hl=>Nat.le_trans (ok.inv.part l hl).len hn
 have hl16:(Zv bs).length≤16:=by rw[ok.sl];exact hS
 have HB:=hD0 (fun j=>Zjh hb hl16 j)
 have HB1:=hD0 (fun j (hj:j<bs.length)=>show(Z3 bs[j].l).length≤64 from by have:=hb _ (gM0 (by rw[Zj];exact hj:j<(Zv bs).length));rw[Z0w hj] at this;exact this)
 have HS:=hD0 (show bs.length≤16 from by rw[Zj] at hl16;exact hl16)
 have H:=hD0 hm
 have ol:=hm.ol
 clear hm ok hb hl16
 go_enter func27,ntmps27
 go_wp2_with fail
 go_loopw [4,5] (fun nv iv y=>∃j:Nat,nv=.int .i64 (Z15 ((Zv bs).take j))∧iv=.int .i64 j∧j≤bs.length∧Hid (Nw W y)) (fun _ iv _=>bs.length-(intOf iv).toNat)
 case atStart=>exact⟨0,rfl,rfl,Nat.zero_le _,Nw.refl _⟩
 case round =>
  obtain⟨j,rfl,rfl,hj,HG⟩:=hrel
  have c4:=HG.out.kp H.out.c4
  have c5:=HG.out.kp H.out.c5
  have cl:=lL0 ol HG.out.sz
  by_cases hjl:j<bs.length
  ·have hr:=HG.out.kp (H.out.row j hjl)
   have hln:=Zxl ((H.out.nw HG.out).rb.rb _ (gM0 hjl)).1
   have hji:(j:Int)<(bs.length:Int):=by omega
   have hwj:wrap64 ((j:Int)+1)=(j:Int)+1:=by have:=HS.out;unfold wrap64;omega
   have hsl:(Z3 bs[j].l).length=bs[j].l.length:=by unfold Z3;rw[List.length_map]
   have hct:=Zji (hss:=Zv bs) (j:=j) (by rw[Zj];exact hjl)
   rw[Z0w hjl,hsl] at hct
   have hwn:=Zyb (HB.out j) (hsl▸HB1.out j hjl)
   rw[←hct] at hwn
   have HLn:=hD0 hln
   obtain⟨B,hB⟩:∃B,bs[j].o=B:=⟨_,rfl⟩
   obtain⟨m,hm⟩:∃m,bs[j].l.length=m:=⟨_,rfl⟩
   rw[hB] at hr HLn
   rw[hm] at hwn HLn
   obtain⟨X,hX⟩:∃X,Z15 ((Zv bs).take j)=X:=⟨_,rfl⟩
   obtain⟨Y,hY⟩:∃Y,Z15 ((Zv bs).take (j+1))=Y:=⟨_,rfl⟩
   rw[hX,hY] at hwn
   rw[hX]
   have HY:=hD0 hY
   clear hB hm hln hct hsl hX hY
   go_wp2_with fail
   refine HLn.out.mono ?_
   rintro e w1 ⟨rfl,rfl⟩
   go_wp2_with fail
   go_roundw
   case rel=>exact⟨j+1,congrArg (Value.int .i64) (by first | exact congrArg (Nat.cast (R:=Int)) HY.out.symm | exact hwn.trans (congrArg (Nat.cast (R:=Int)) HY.out.symm)),congrArg (Value.int .i64) (by first | exact nxU j | exact hwj.trans (nxU j)),hjl,HG⟩
   case measure=>first | exact Y0 bs.length j hjl | (rw[hwj];exact Y0 bs.length j hjl)
  ·obtain rfl:j=bs.length:=by omega
   have HLv:=hD0 (Z4r (H.out.nw HG.out).pl)
   rw[show(Zv bs).take bs.length=Zv bs from List.take_of_length_le (by rw[Zj];exact Nat.le_refl _)]
   go_wp2_with fail
   refine HLv.out.mono ?_
   rintro e w1 ⟨rfl,g1⟩
   have HE:=hD0 (HG.out.trans g1)
   clear g1 HLv HG
   go_wp2
   exact bodyPost_ret (v:=.tuple #[.int .i64 (Z15 (Zv bs)),.int .i64 (liv L)]) (by simp[results,results27,go_sem, *]) rfl ⟨rfl,HE.out⟩
def Z3h(p:Nat):List Value:=[ptN p]
theorem Zf4:Z29 prog 87 90 1 8 Z3h where
 und:=underlying87
 inf:=by
  have h:(prog.info? 90).map (fun i=>(i.zero.map fun z=>z.cells.size,i.size,i.bytes))=some (some 1,1,8):=by kernel_rfl
  cases e:prog.info? 90 with
  | none=>rw[e] at h;cases h
  | some i =>
   rw[e] at h
   simp only[Option.map_some,Option.some.injEq,Prod.mk.injEq] at h
   obtain⟨h1,h2,h3⟩:=h
   cases ez:i.zero with
   | none=>rw[ez] at h1;cases h1
   | some z=>rw[ez] at h1;exact⟨i,z,rfl,ez,h2,h3,Option.some.inj h1⟩
 pos:=by decide
 byt:=by decide
 len:=fun _=>rfl
 one:=fun a u hu=>by
  simp only[Z3h,List.mem_cons,List.not_mem_nil,or_false] at hu
  subst hu
  rfl
theorem Z23(a l m:Int)(b:Bool)(hb:(decide (l≤a)&&decide (a≤m))=b)(w:World):Calls prog 93 #[.int .i64 a,.int .i64 l,.int .i64 m] w fun e w'=>e=.returned (.bool b)∧w=w':=by
 subst hb
 by_cases h1:l≤a
 ·have d1:decide (l≤a)=true:=by simpa using h1
  rw[d1]
  go_enter func93,ntmps93
  go_wp2
  go_ret
  exact⟨rfl,rfl⟩
 ·have d1:decide (l≤a)=false:=by simpa using h1
  rw[d1]
  clear h1
  go_enter func93,ntmps93
  go_wp2
  go_ret
  exact⟨rfl,rfl⟩
def U6(C:Ud):Prop:=(1≤C.s∧C.s≤16)∧(1≤C.h∧C.h≤64)∧(1≤C.r∧C.r≤128)∧(0≤C.p∧C.p≤8)
instance (C:Ud):Decidable (U6 C):=by unfold U6;infer_instance
theorem Z4j(C:Ud)(w:World):Calls prog 43 #[Zev C] w fun e w'=>e=.returned (.bool (decide (U6 C)))∧Nw w w':=by
 obtain⟨a,b,c,d⟩:=C
 obtain⟨b1,h1⟩:∃x,(decide ((1:Int)≤a)&&decide (a≤16))=x:=⟨_,rfl⟩
 obtain⟨b2,h2⟩:∃x,(decide ((1:Int)≤b)&&decide (b≤64))=x:=⟨_,rfl⟩
 obtain⟨b3,h3⟩:∃x,(decide ((1:Int)≤c)&&decide (c≤128))=x:=⟨_,rfl⟩
 obtain⟨b4,h4⟩:∃x,(decide ((0:Int)≤d)&&decide (d≤8))=x:=⟨_,rfl⟩
 have hR:decide (U6 ⟨a,b,c,d⟩)=(b1&&(b2&&(b3&&b4))):=by
  rw[←h1,←h2,←h3,←h4]
  unfold U6
  rw[Bool.eq_iff_iff]
  simp only[decide_eq_true_eq,Bool.and_eq_true]
  exact decide_eq_true_iff
 rw[hR]
 have H1:=hD0 (fun w=>Z23 a 1 16 b1 h1 w)
 have H2:=hD0 (fun w=>Z23 b 1 64 b2 h2 w)
 have H3:=hD0 (fun w=>Z23 c 1 128 b3 h3 w)
 have H4:=hD0 (fun w=>Z23 d 0 8 b4 h4 w)
 have HG:=hD0 ((Nw.refl w).alloc (.cells #[.int .i64 a,.int .i64 b,.int .i64 c,.int .i64 d] 23))
 clear h1 h2 h3 h4 hR
 cases b1
 ·go_enter func43,ntmps43
  go_wp2_with (go_at_call 93;(with_reducible refine(H1.out _).mono ?_);rintro e w' ⟨rfl,rfl⟩)
  go_ret
  exact⟨rfl,HG.out⟩
 cases b2
 ·go_enter func43,ntmps43
  go_wp2_with (go_at_call 93;(first | (with_reducible refine(H1.out _).mono ?_) | (with_reducible refine(H2.out _).mono ?_));rintro e w' ⟨rfl,rfl⟩)
  go_ret
  exact⟨rfl,HG.out⟩
 cases b3
 ·go_enter func43,ntmps43
  go_wp2_with (go_at_call 93;(first | (with_reducible refine(H1.out _).mono ?_) | (with_reducible refine(H2.out _).mono ?_) | (with_reducible refine(H3.out _).mono ?_));rintro e w' ⟨rfl,rfl⟩)
  go_ret
  exact⟨rfl,HG.out⟩
 ·go_enter func43,ntmps43
  go_wp2_with (go_at_call 93;(first | (with_reducible refine(H1.out _).mono ?_) | (with_reducible refine(H2.out _).mono ?_) | (with_reducible refine(H3.out _).mono ?_) | (with_reducible refine(H4.out _).mono ?_));rintro e w' ⟨rfl,rfl⟩)
  go_ret
  exact⟨rfl,HG.out⟩
structure Z6z(W:World)(o hb po n:Nat)(C:Ud)(v:Value)(ds:List DB)(L:List Bool)(F:Nat→Prop)(X:World):Prop where
 c0:X.cell? ⟨o,0,none⟩=some (.pointer none)
 c1:X.cell? ⟨o,1,none⟩=some (.int .i64 C.s)
 c2:X.cell? ⟨o,2,none⟩=some (.int .i64 C.h)
 c3:X.cell? ⟨o,3,none⟩=some (.int .i64 C.r)
 c4:X.cell? ⟨o,4,none⟩=some (.int .i64 C.p)
 c5:X.cell? ⟨o,5,none⟩=some (ptN po)
 c6:X.cell? ⟨o,6,none⟩=some v
 c7:X.cell? ⟨o,7,none⟩=some (.map (some hb))
 fz:∀j,X.frozen? ⟨o,j,none⟩=false
 own:Yz 90 1 Z3h X (o+1) v (ds.map DB.o)
 map:Yu X hb []
 db:DtB X po n ds L F
 em:∀d∈ds,d.l=[]∧o<d.o∧o<d.mb∧∀b,v.ownBlock=some b→b≠d.o∧b≠d.mb
 nw:Nw W X
 ho:hb+1=o
 hw:W.heap.size≤hb
 hF:∀k,F k→k<hb∧W.heap.size≤k
theorem Z6z.step{W X Y:World}{o hb po n:Nat}{C:Ud}{v:Value}{ds:List DB}{L:List Bool}{F:Nat→Prop}(h:Z6z W o hb po n C v ds L F X)(g:Nw X Y):Z6z W o hb po n C v ds L F Y:=by
 have hl:=World.block_lt_of_cell? _ _ h.c0
 exact⟨g.kp h.c0,g.kp h.c1,g.kp h.c2,g.kp h.c3,g.kp h.c4,g.kp h.c5,g.kp h.c6,g.kp h.c7,fun j=>(g.froz hl).trans (h.fz j),onw h.own g,h.map.nw g,h.db.nw g,h.em,h.nw.trans g,h.ho,h.hw,h.hF⟩
theorem Z6z.push{W X:World}{o hb po n:Nat}{C:Ud}{v:Value}{ds:List DB}{L:List Bool}{F:Nat→Prop}(h:Z6z W o hb po n C v ds L F X)(hl:ds.length≤100){B mb:Nat}(hB:Db X B mb po n [] L F)(h1:o<B)(h2:o<mb)(hne:∀d∈ds,mb≠d.mb)(hv:∀b,v.ownBlock=some b→b≠B∧b≠mb) :
  ∃g cap w3,(Builtin.append_ #[87,87] 87 #[v,.slice (some ⟨X.heap.size,0,none⟩) 1 1]).run prog (X.alloc (.cells #[ptN B] 90))=.ok (.slice (some ⟨g,0,none⟩) (ds.length+1) cap) w3 ∧
   (w3.cell? ⟨o,6,none⟩=some v∧w3.frozen? ⟨o,6,none⟩=false∧o<w3.heap.size)∧Z6z W o hb po n C (.slice (some ⟨g,0,none⟩) (ds.length+1) cap) (ds++[⟨B,mb,[]⟩]) L F (w3.setCell ⟨o,6,none⟩ (.slice (some ⟨g,0,none⟩) (ds.length+1) cap))∧∀b,b<o→(w3.setCell ⟨o,6,none⟩ (.slice (some ⟨g,0,none⟩) (ds.length+1) cap)).heap[b]?=X.heap[b]?:=by
 have hol:=World.block_lt_of_cell? _ _ h.c0
 simp only at hol
 have hal:=Z1 X (.cells #[ptN B] 90)
 have g0:Nw X (X.alloc (.cells #[ptN B] 90)):=(Nw.refl X).alloc _
 obtain⟨y,hy⟩:∃y,X.alloc (.cells #[ptN B] 90)=y:=⟨_,rfl⟩
 rw[hy] at hal g0
 rw[hy]
 have hs:=h.step g0
 have hBy:=hB.nw g0
 obtain⟨v',w3,hr,hO,hg,hp,g,cap,rfl⟩:=Yz.push Zf4 hs.own B X.heap.size 1 (fun j u hu=>by
  rw[Z0 hal]
  simpa [Z3h] using hu) (by rw[List.length_map];omega) (by have:=g0.sz;omega)
 rw[List.length_map] at hr hp hO
 have hgo:o<g:=Vr hO rfl
 have t:=Zam hg
 have hvo:∀b,v.ownBlock=some b→o<b:=fun b e=>Vr h.own e
 have hvlt:∀b,v.ownBlock=some b→b<X.heap.size:=fun b e=>olt h.own e
 have hyl:=hlt hal
 have hSo:¬(v.ownBlock=some o):=fun e=>by have:=hvo o e;omega
 have hoy:o<y.heap.size:=lL0 hol g0.sz
 obtain⟨z,hz⟩:∃z,w3.setCell ⟨o,6,none⟩ (.slice (some ⟨g,0,none⟩) (ds.length+1) cap)=z:=⟨_,rfl⟩
 have t2:Z4 (fun b=>b=o) w3 z:=by rw[←hz];exact Zi w3 ⟨o,6,none⟩ _
 have hor:o<w3.heap.size:=lL0 hoy t.size
 have tt:Z4 (fun b=>v.ownBlock=some b∨b=o) y z:=(t.mono fun _ _ e=>.inl e).trans (t2.mono fun _ _ e=>.inr e)
 have ct:∀ {j:Nat} {u:Value},j≠6→y.cell? ⟨o,j,none⟩=some u→z.cell? ⟨o,j,none⟩=some u:=fun {j u} hj hc=>by
  rw[←hz,World.cell?_setCell_other _ _ _ _ (by first | (simp;done) | (simp;exact fun e=>hj e))]
  exact(t.cell hoy hSo).trans hc
 have c6':w3.cell? ⟨o,6,none⟩=some v:=(t.cell hoy hSo).trans hs.c6
 have hf':∀j,w3.frozen? ⟨o,j,none⟩=false:=fun j=>(t.froz hoy hSo).trans (hs.fz j)
 have hgn:∀b,(g=b)→v.ownBlock=some b∨b=y.heap.size:=fun b e=>by
  rcases hp with q | q
  ·exact .inl (q.symm.trans (congrArg some e))
  ·exact .inr (e.symm.trans (Option.some.inj q))
 have hdn:∀d∈ds,¬(v.ownBlock=some d.o∨d.o=o)∧¬(v.ownBlock=some d.mb∨d.mb=o):=fun d hd=>by
  obtain⟨_,k1,k2,k3⟩:=h.em d hd
  exact⟨fun e=>e.elim (fun e=>(k3 _ e).1 rfl) (fun e=>by omega),fun e=>e.elim (fun e=>(k3 _ e).2 rfl) (fun e=>by omega)⟩
 have hFn:∀k,F k→¬(v.ownBlock=some k∨k=o):=fun k hk e=>by
  have:=h.hF k hk
  have:=h.ho
  exact e.elim (fun e=>by have:=hvo k e;omega) (fun e=>by omega)
 have hbk:∀b,b<o→z.heap[b]?=X.heap[b]?:=fun b hb=>by
  rw[tt.block b (by omega) (fun e=>e.elim (fun e=>by have:=hvo b e;omega) (fun e=>by omega)),g0.block b (by omega)]
 refine⟨g,cap,w3,hr,⟨c6',hf' 6,hor⟩,?_,by rw[hz];exact hbk⟩
 rw[hz]
 refine⟨ct (by decide) hs.c0,ct (by decide) hs.c1,ct (by decide) hs.c2,ct (by decide) hs.c3,ct (by decide) hs.c4,ct (by decide) hs.c5,by rw[←hz];exact World.cell?_setCell_same _ _ _ c6',ct (by decide) hs.c7,fun j=>by rw[←hz,World.frozen?_setCell];exact hf' j,?_,?_,⟨?_,?_,?_⟩,?_,?_,h.ho,h.hw,h.hF⟩
 ·have em:(ds++[(⟨B,mb,[]⟩:DB)]).map DB.o=ds.map DB.o++[B]:=by simp
  rw[em]
  have:=Vf hO t2 (fun b hb e=>by have e':g=b:=Option.some.inj hb;omega)
  exact this
 ·exact hs.map.tch tt (fun e=>by
   have:=h.ho
   exact e.elim (fun e=>by have:=hvo _ e;omega) (fun e=>by omega))
 ·intro d hd
  rcases List.mem_append.1 hd with q | q
  ·have k:=hs.db.db d q
   rw[(h.em d q).1] at k ⊢
   exact k.tch tt (hdn d q).1 (hdn d q).2 hFn (fun x hx=>by cases hx)
  ·obtain rfl:d=⟨B,mb,[]⟩:=by simpa using q
   exact hBy.tch tt (fun e=>e.elim (fun e=>(hv _ e).1 rfl) (fun e=>by have e':B=o:=e;omega)) (fun e=>e.elim (fun e=>(hv _ e).2 rfl) (fun e=>by have e':mb=o:=e;omega)) hFn (fun x hx=>by cases hx)
 ·intro i j hi hj ne
  rw[List.length_append,List.length_singleton] at hi hj
  by_cases q1:i<ds.length
  ·rw[List.getElem_append_left q1]
   by_cases q2:j<ds.length
   ·rw[List.getElem_append_left q2]
    exact h.db.ne i j q1 q2 ne
   ·rw[List.getElem_append_right (by omega)]
    simp only[List.getElem_singleton]
    exact(hne _ (gM0 q1)).symm
  ·rw[List.getElem_append_right (by omega)]
   have q2:j<ds.length:=by omega
   rw[List.getElem_append_left q2]
   simp only[List.getElem_singleton]
   exact hne _ (gM0 q2)
 ·exact hs.db.pol.tch tt hFn
 ·intro d hd
  have hyB:=hB.ol
  have hyM:=hB.map.lt
  have hys:=g0.sz
  rcases List.mem_append.1 hd with q | q
  ·obtain⟨k0,k1,k2,k3⟩:=h.em d q
   have k4:=(h.db.db d q).ol
   have k5:=(h.db.db d q).map.lt
   refine⟨k0,k1,k2,fun b e=>?_⟩
   rcases hgn b (Option.some.inj e)with e | e
   ·exact k3 b e
   ·exact⟨by omega,by omega⟩
  ·obtain rfl:d=⟨B,mb,[]⟩:=by simpa using q
   refine⟨rfl,h1,h2,fun b e=>?_⟩
   rcases hgn b (Option.some.inj e)with e | e
   ·exact hv b e
   ·exact show b≠B∧b≠mb from⟨by omega,by omega⟩
 ·refine Yq hs.nw tt (fun k e=>?_)
  have:=h.ho
  have:=h.hw
  exact e.elim (fun e=>by have:=hvo k e;omega) (fun e=>by omega)
theorem Zfs{W X:World}{po n:Nat}{C:Ud}{L:List Bool}{F:Nat→Prop}(hp:Pol X po L F)(g:Nw W X)(hF:∀k,F k→W.heap.size≤k)(T:TypeId) :
  Z6z W (X.heap.size+1) X.heap.size po n C (.slice none 0 0) [] L F ((X.alloc (.map #[] 0)).alloc (.cells #[.pointer none,.int .i64 C.s,.int .i64 C.h,.int .i64 C.r,.int .i64 C.p,ptN po,.slice none 0 0,.map (some X.heap.size)] T)):=by
 have hs1:(X.alloc (.map #[] 0)).heap.size=X.heap.size+1:=by simp
 have hb:=Z1 (X.alloc (.map #[] 0)) (.cells #[.pointer none,.int .i64 C.s,.int .i64 C.h,.int .i64 C.r,.int .i64 C.p,ptN po,.slice none 0 0,.map (some X.heap.size)] T)
 rw[hs1] at hb
 have hN:Nw X ((X.alloc (.map #[] 0)).alloc (.cells #[.pointer none,.int .i64 C.s,.int .i64 C.h,.int .i64 C.r,.int .i64 C.p,ptN po,.slice none 0 0,.map (some X.heap.size)] T)):=((Nw.refl X).alloc _).alloc _
 have hM:=(Yu.made X).nw ((Nw.refl _).alloc (.cells #[.pointer none,.int .i64 C.s,.int .i64 C.h,.int .i64 C.r,.int .i64 C.p,ptN po,.slice none 0 0,.map (some X.heap.size)] T))
 generalize (X.alloc (.map #[] 0)).alloc (.cells #[.pointer none,.int .i64 C.s,.int .i64 C.h,.int .i64 C.r,.int .i64 C.p,ptN po,.slice none 0 0,.map (some X.heap.size)] T)=z at *
 exact⟨Z0 (j:=0) hb,Z0 (j:=1) hb,Z0 (j:=2) hb,Z0 (j:=3) hb,Z0 (j:=4) hb,Z0 (j:=5) hb,Z0 (j:=6) hb,Z0 (j:=7) hb,fun j=>hfz hb,World.ownsRow_nil _ _ _ _,hM,⟨(fun d hd=>by cases hd),(fun i j hi=>by simp at hi),hp.nw hN⟩,(fun d hd=>by cases hd),g.trans hN,rfl,g.sz,fun k hk=>⟨hp.own k hk,hF k hk⟩⟩
theorem Zs0{ds:List DB}(h:∀d∈ds,d.l=[]):Ze ds=List.replicate ds.length []:=by
 unfold Ze
 refine List.eq_replicate_iff.2 ⟨by rw[List.length_map],fun x hx=>?_⟩
 obtain⟨d,hd,rfl⟩:=List.mem_map.1 hx
 rw[h d hd]
 rfl
theorem Zwk{ds:List DB}(h:∀d∈ds,d.l=[]):hvT ds=[]:=by
 unfold hvT
 rw[List.flatMap_eq_nil_iff]
 intro d hd
 rw[h d hd]
 rfl
theorem Z6z.done{W X:World}{o hb po n S N:Nat}{C:Ud}{g cap:Nat}{ds:List DB}{F:Nat→Prop}(h:Z6z W o hb po n C (.slice (some ⟨g,0,none⟩) ds.length cap) ds (List.replicate N false) F X)(hl:ds.length=S) :
  ∃J,Tab (X.setCell ⟨o,0,none⟩ (ptN o)) o S n N 0 C (List.replicate S []) (List.replicate N false) J∧Nw W (X.setCell ⟨o,0,none⟩ (ptN o))∧∀b,J b→W.heap.size≤b:=by
 have hol:=World.block_lt_of_cell? _ _ h.c0
 simp only at hol
 obtain⟨z,hz⟩:∃z,X.setCell ⟨o,0,none⟩ (ptN o)=z:=⟨_,rfl⟩
 have t:Z4 (fun b=>b=o) X z:=by rw[←hz];exact Zi X ⟨o,0,none⟩ _
 have hgo:o<g:=Vr h.own rfl
 have hgl:g<X.heap.size:=olt h.own rfl
 have ho1:=h.ho
 have hw1:=h.hw
 have ct:∀ {j:Nat} {u:Value},j≠0→X.cell? ⟨o,j,none⟩=some u→z.cell? ⟨o,j,none⟩=some u:=fun {j u} hj hc=>by
  rw[←hz,World.cell?_setCell_other _ _ _ _ (by first | (simp;done) | (simp;exact fun e=>hj e))]
  exact hc
 have hdb:DtB z po n ds (List.replicate N false) F:=by
  refine h.db.tchS t fun b hb e=>?_
  have e':b=o:=e
  rcases hb with hb | ⟨d,hd,hb | hb | ⟨x,hx,_⟩⟩
  ·have:=h.hF b hb;omega
  ·have:=(h.em d hd).2.1;omega
  ·have:=(h.em d hd).2.2.1;omega
  ·rw[(h.em d hd).1] at hx;cases hx
 have hin:∀b,Z8n ds F b→b≠o∧b≠g∧b≠hb∧W.heap.size≤b:=fun b hb'=>by
  rcases hb' with hb' | ⟨d,hd,hb' | hb' | ⟨x,hx,_⟩⟩
  ·have:=h.hF b hb';exact⟨by omega,by omega,by omega,by omega⟩
  ·have k:=h.em d hd
   have k2:=k.2.1
   have k3:=(k.2.2.2 g rfl).1
   exact⟨by omega,fun e=>k3 (by omega),by omega,by omega⟩
  ·have k:=h.em d hd
   have k2:=k.2.2.1
   have k3:=(k.2.2.2 g rfl).2
   exact⟨by omega,fun e=>k3 (by omega),by omega,by omega⟩
  ·rw[(h.em d hd).1] at hx;cases hx
 have hem:∀d∈ds,d.l=[]:=fun d hd=>(h.em d hd).1
 rw[hz]
 refine⟨TbJ o g hb ds F,⟨g,cap,hb,po,ds,[],F,⟨by rw[←hz];exact World.cell?_setCell_same _ _ _ h.c0,ct (by decide) h.c1,ct (by decide) h.c2,ct (by decide) h.c3,ct (by decide) h.c4,ct (by decide) h.c5,ct (by decide) h.c6,ct (by decide) h.c7,fun i hi=>?_,lL0 hgl t.size,h.map.tch t (by show ¬hb=o;omega),hdb,fun e=>(hin _ e).1 rfl,fun e=>(hin _ e).2.1 rfl,fun e=>(hin _ e).2.2.1 rfl,by omega⟩,by rw[Zwk hem],by rw[Zs0 hem,hl],rfl,Zec S n N⟩,Yq h.nw t (fun k e=>by have e':k=o:=e;omega),fun b hb'=>?_⟩
 ·refine(t.cell hgl (by show ¬g=o;omega)).trans ?_
  obtain⟨a,c,e,q | ⟨b,o',rfl,hc⟩⟩:=Yz.rd Zf4.len h.own
  ·have:=congrArg List.length q.1
   rw[List.length_map] at this
   simp at this
   rw[this] at hi
   simp at hi
  ·simp only[Value.slice.injEq,Option.some.injEq,Addr.mk.injEq,and_true] at e
   obtain⟨⟨rfl,rfl⟩,_⟩:=e
   have:=hc.cell i (by rw[List.length_map];exact hi) 0 (ptN ds[i].o) (by simp[Z3h])
   simpa using this
 ·rcases hb' with e | e | e | e
  ·omega
  ·omega
  ·omega
  ·exact(hin b e).2.2.2
def Zug(W:World)(S n N:Nat)(p:Int)(e:Ending)(W':World):Prop:=∃o J,e=.returned (.tuple #[ptN o,.int .i64 0])∧Tab W' o S n N 0 ⟨S,n,N,p⟩ (List.replicate S []) (List.replicate N false) J∧Nw W W'∧∀b,J b→W.heap.size≤b
theorem Zom(S n N:Nat)(p:Int)(h:U6 ⟨S,n,N,p⟩)(W:World):Calls prog 9 #[.agg #[.int .i64 S,.int .i64 n,.int .i64 N,.int .i64 p]] W (Zug W S n N p):=by
 have hmm:=@run_makeMap prog
 obtain⟨⟨s1,s2⟩,⟨n1,n2⟩,⟨N1,N2⟩,_⟩:=id h
 simp only at s1 s2 n1 n2 N1 N2
 have HS:=hD0 (aI0 (show 1≤S∧S≤16 by omega) (aI0 (show 1≤n∧n≤64 by omega) (show N≤128 by omega)))
 have hPo:=Z4j ⟨S,n,N,p⟩
 rw[decide_eq_true h] at hPo
 have HPo:=hD0 hPo
 have hal:=Z1 W (.cells #[.int .i64 S,.int .i64 n,.int .i64 N,.int .i64 p] 23)
 obtain⟨z,hz⟩:∃z,W.alloc (.cells #[.int .i64 S,.int .i64 n,.int .i64 N,.int .i64 p] 23)=z:=⟨_,rfl⟩
 have g1:Nw W z:=by rw[←hz];exact(Nw.refl W).alloc _
 rw[hz] at hal
 have HZ:=hD0 hz
 have HG:=hD0 (aI0 g1 hal)
 have c0:=Z0 (j:=0) hal
 have c1:=Z0 (j:=1) hal
 have c2:=Z0 (j:=2) hal
 have c3:=Z0 (j:=3) hal
 have cl:=hlt hal
 clear hz g1 hal s1 s2 n1 n2 N1 N2 h hPo
 go_enter func9,ntmps9
 go_wp2_with fail
 rw[HZ.out]
 obtain⟨cb,hcb⟩:∃cb,W.heap.size=cb:=⟨_,rfl⟩
 have HCb:=hD0 hcb
 rw[hcb] at c0 c1 c2 c3 cl ⊢
 clear hcb
 refine(HPo.out z).mono ?_
 rintro e z1 ⟨rfl,g1⟩
 have HG1:=hD0 (show Nw W z1∧z1.heap[cb]?=some (.cells #[.int .i64 S,.int .i64 n,.int .i64 N,.int .i64 p] 23) from⟨HG.out.1.trans g1,by rw[←HCb.out];exact g1.at' HG.out.2⟩)
 clear c0 c1 c2 c3 cl g1 HG
 have c0:=Z0 (j:=0) HG1.out.2
 have c1:=Z0 (j:=1) HG1.out.2
 have c2:=Z0 (j:=2) HG1.out.2
 have c3:=Z0 (j:=3) HG1.out.2
 have cl:=hlt HG1.out.2
 go_wp2_with fail
 refine(Zow N HS.out.2.2 z1).mono ?_
 rintro e z2 ⟨po,F,rfl,hp,g2,hF⟩
 have HG2:=hD0 (show Nw W z2∧z2.heap[cb]?=some (.cells #[.int .i64 S,.int .i64 n,.int .i64 N,.int .i64 p] 23) from⟨HG1.out.1.trans g2,g2.at' HG1.out.2⟩)
 clear c0 c1 c2 c3 cl
 have c0:=Z0 (j:=0) HG2.out.2
 have c1:=Z0 (j:=1) HG2.out.2
 have c2:=Z0 (j:=2) HG2.out.2
 have c3:=Z0 (j:=3) HG2.out.2
 have cl:=hlt HG2.out.2
 have HT:=hD0 (Zfs (C:=⟨S,n,N,p⟩) (n:=n) hp HG2.out.1 (fun k hk=>Nat.le_trans HG1.out.1.sz (hF k hk)) 89)
 clear hp g2 hF HG1
 go_wp2_with fail
 go_loopw [7,8,25] (fun _ _ i wr=>∃(j:Nat) (s0:Option Addr) (s1 s2:Nat) (ds:List DB),i=.int .i64 j∧j≤S∧Hid (Z6z W (z2.heap.size+1) z2.heap.size po n ⟨S,n,N,p⟩ (.slice s0 s1 s2) ds (List.replicate N false) F wr∧ds.length=j∧(s0=none→ds=[])∧wr.heap[cb]?=some (.cells #[.int .i64 S,.int .i64 n,.int .i64 N,.int .i64 p] 23))) (fun _ _ i _=>S-(intOf i).toNat)
 case atStart=>exact⟨0,none,0,0,[],rfl,Nat.zero_le _,HT.out,rfl,fun _=>rfl,(((Nw.refl z2).alloc _).alloc _).at' HG2.out.2⟩
 case round =>
  obtain⟨j,s0,s1',s2',ds,rfl,hj,HI⟩:=hrel
  by_cases hjl:j<S
  ·have hnt:=HI.out.1
   have HNw:=hD0 (Zz5 hnt.db.pol n HS.out.2.1.1 HS.out.2.1.2)
   have c1:=Z0 (j:=1) HI.out.2.2.2
   have cl:=hlt HI.out.2.2.2
   have hji:(j:Int)<(S:Int):=by omega
   have hwj:wrap64 ((j:Int)+1)=(j:Int)+1:=by have:=HS.out.1.2;unfold wrap64;omega
   clear hnt c0 c2 c3
   go_wp2_with fail
   refine HNw.out.mono ?_
   rintro e w2 ⟨B,mb,rfl,hB,g2,hBo,hBm⟩
   have hnt:=HI.out.1.step g2
   have hor:=World.block_lt_of_cell? _ _ HI.out.1.c0
   simp only at hor
   obtain⟨g,cap,w3,hrun,hst,hnx,hbk⟩:=hnt.push (by have:=HI.out.2.1;have:=HS.out.1.2;omega) hB (by omega) (by omega) (fun d hd=>by have:=(HI.out.1.db.db d hd).map.lt;omega) (fun b e=>by have:=olt HI.out.1.own e;exact⟨by omega,by omega⟩)
   have HR:=hD0 hrun
   have c6:=hnt.c6
   have hol2:=World.block_lt_of_cell? _ _ hnt.c0
   simp only at hol2
   obtain⟨t1,t2,t3⟩:=hst
   have hcl:=hlt HG2.out.2
   have HI3:=hD0 (show Z6z W (z2.heap.size+1) z2.heap.size po n ⟨S,n,N,p⟩ (.slice (some ⟨g,0,none⟩) (ds.length+1) cap) (ds++[⟨B,mb,[]⟩]) (List.replicate N false) F (w3.setCell ⟨z2.heap.size+1,6,none⟩ (.slice (some ⟨g,0,none⟩) (ds.length+1) cap))∧(ds++[(⟨B,mb,[]⟩:DB)]).length=j+1∧(some (⟨g,0,none⟩:Addr)=none→ds++[(⟨B,mb,[]⟩:DB)]=[])∧(w3.setCell ⟨z2.heap.size+1,6,none⟩ (.slice (some ⟨g,0,none⟩) (ds.length+1) cap)).heap[cb]?=some (.cells #[.int .i64 S,.int .i64 n,.int .i64 N,.int .i64 p] 23) from
    ⟨hnx,by rw[List.length_append,HI.out.2.1];rfl,(fun e=>by cases e),(hbk cb (by omega)).trans (g2.at' HI.out.2.2.2)⟩)
   clear hrun hnx hnt hB hBo hBm hor HNw HI hbk hcl
   go_wp2_with (at_builtin;refine Z5 (by rfl) (.tmp 38) (.tmp 40) 87 rfl _ _ _ _ (by first | rfl | simp[Act.eval, *]) (by first | rfl | simp[Act.eval, *]) HR.out ?_)
   go_roundw
   case rel=>exact⟨j+1,_,_,_,_,congrArg (Value.int .i64) (by first | exact nxU j | exact hwj.trans (nxU j)),hjl,HI3⟩
   case measure=>first | exact Y0 S j hjl | (rw[hwj];exact Y0 S j hjl)
  ·obtain rfl:j=S:=by omega
   have hnt:=HI.out.1
   have hlen:=HI.out.2.1
   obtain⟨g,rfl⟩:∃g,s0=some ⟨g,0,none⟩:=by
    rcases Y7 hnt.own with⟨e,q⟩ | ⟨g,cap,e⟩
    ·rw[List.length_map] at q
     have:=HS.out.1.1
     omega
    ·simp only[Value.slice.injEq] at e
     exact⟨g,e.1⟩
   have hs1:s1'=ds.length:=by
    obtain⟨a,c,e,_⟩:=Yz.rd Zf4.len hnt.own
    simp only[Value.slice.injEq,List.length_map] at e
    exact e.2.1
   rw[hs1] at hnt
   obtain⟨J,hJ1,hJ2,hJ3⟩:=hnt.done hlen
   have HE:=hD0 (show Zug W j n N p (.returned (.tuple #[ptN (z2.heap.size+1),.int .i64 0])) _ from⟨_,J,rfl,hJ1,hJ2,hJ3⟩)
   have c0:=hnt.c0
   have fz0:=hnt.fz 0
   have hol:=World.block_lt_of_cell? _ _ hnt.c0
   simp only at hol
   clear hnt hJ1 hJ2 hJ3 HI HT
   go_wp2
   exact bodyPost_ret (v:=.tuple #[ptN (z2.heap.size+1),.int .i64 0]) (by simp[results,results9,go_sem, *]) rfl HE.out
theorem Zol(C:Ud)(h:¬U6 C)(W:World):Calls prog 9 #[Zev C] W fun e W'=>e=.returned (.tuple #[.pointer none,.int .i64 2])∧Nw W W':=by
 have hPo:=Z4j C
 rw[decide_eq_false h] at hPo
 have HPo:=hD0 hPo
 obtain⟨a,b,c,d⟩:=C
 have hal:=Z1 W (.cells #[.int .i64 a,.int .i64 b,.int .i64 c,.int .i64 d] 23)
 obtain⟨z,hz⟩:∃z,W.alloc (.cells #[.int .i64 a,.int .i64 b,.int .i64 c,.int .i64 d] 23)=z:=⟨_,rfl⟩
 have g1:Nw W z:=by rw[←hz];exact(Nw.refl W).alloc _
 rw[hz] at hal
 have HZ:=hD0 hz
 have HG:=hD0 g1
 have c0:=Z0 (j:=0) hal
 have c1:=Z0 (j:=1) hal
 have c2:=Z0 (j:=2) hal
 have c3:=Z0 (j:=3) hal
 have cl:=hlt hal
 clear hz g1 hal h hPo
 go_enter func9,ntmps9
 go_wp2_with fail
 rw[HZ.out]
 refine(HPo.out z).mono ?_
 rintro e z1 ⟨rfl,g1⟩
 have HE:=hD0 (HG.out.trans g1)
 clear g1 HG
 go_wp2
 exact bodyPost_ret (v:=.tuple #[.pointer none,.int .i64 2]) (by simp[results,results9,go_sem, *]) rfl ⟨rfl,HE.out⟩
end Go.Proofs.YtpffldfpabglbaaGreatDoor
