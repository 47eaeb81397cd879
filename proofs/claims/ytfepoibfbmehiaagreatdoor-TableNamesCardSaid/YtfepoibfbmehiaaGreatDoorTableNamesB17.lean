/- Texts merged: PoL, PoS, BeA, TbO, SortH, TbU, TbS, TbT, SortL -/
import Derived.Test.YtfepoibfbmehiaaGreatDoorTableNamesB16
set_option linter.unusedVariables false
set_option maxRecDepth 100000
set_option maxHeartbeats 16000000
namespace Go.Proofs.YtfepoibfbmehiaaGreatDoor
open Go.RowKit _root_.Go.Proofs.Tryz
open Go.Shelf
section
attribute [local go_sem] Oper.semAt_some
structure LnI(w:World)(S:Nat→Prop)(pre:List Int)(A:World)(v:Value):Prop where
 nw:Nw w A
 is:IS A v pre
 own:∀k,v.ownBlock=some k→w.heap.size+6≤k∧¬S k
 out:A.cell? ⟨w.heap.size+3,0,none⟩=some v∧A.frozen? ⟨w.heap.size+3,0,none⟩=false
 r1:A.cell? ⟨w.heap.size,0,none⟩=some (.slice none 0 0)∧A.frozen? ⟨w.heap.size,0,none⟩=false
 r2:A.cell? ⟨w.heap.size+1,0,none⟩=some (.bool false)∧A.frozen? ⟨w.heap.size+1,0,none⟩=false
 sb:∀k,S k→w.heap.size+4≤k∧k<A.heap.size
end
structure Zrq(w W:World)(p:Nat)(L:List Bool)(F:Nat→Prop):Prop where
 po:Pol W p L F
 new:∀k,F k→w.heap.size≤k
 nw:Nw w W
structure BA(w W:World)(o mb po n k:Nat)(l:List Hp)(L:List Bool)(F:Nat→Prop):Prop where
 db:Db W o mb po n l L F
 inv:Ze n k (Z6 l) [] L
 nw:Nw w W
 mn:w.heap.size≤mb
 new:∀k,F k→w.heap.size≤k
section
variable {w W:World} {o mb po n k:Nat} {l:List Hp} {L:List Bool} {F:Nat→Prop}
end
theorem Zne(t:Int)(w:World):Calls prog 24 #[.int .i64 t] w fun e w'=>e=.returned (.agg #[.int .i64 t,.int .i64 (-1)])∧Nw w w':=by
 go_enter func24,ntmps24
 go_wp2
 exact bodyPost_ret (v:=.agg #[.int .i64 t,.int .i64 (-1)]) (by simp[results,results24,go_sem, *]) rfl ⟨rfl,(Nw.refl w).alloc _⟩
section
open Go.RowKit Go.Sort
theorem Zcx{w w':World}{row:Option Nat}(g:w.grownBy w' row):Z3 (fun b=>row=some b) w w':=⟨g.os,g.tape,g.output,g.size,fun k hk hn=>g.block k hk (fun e=>hn e.symm)⟩
theorem Zih{α:Type}{P:Program}{ST T:TypeId}{sz bytes:Nat}{row:α→List Value}(E:Z20 P ST T sz bytes row){w:World}{g0:Nat}{v v2:Value}{l sg:List α}(h:Up T sz row w g0 v l)(h2:Rd sz row w v2 sg)(hsm:l.length+sg.length≤100000)(hg0:g0≤w.heap.size) :
  ∃v' w1,(Builtin.append_ #[ST,ST] ST #[v,v2]).run P w=.ok v' w1∧Up T sz row w1 g0 v' (l++sg)∧w.grownBy w1 v.ownBlock∧(v'.ownBlock=v.ownBlock∨v'.ownBlock=some w.heap.size):=by
 obtain⟨a,c,rfl,⟨rfl,h0⟩ | ⟨b,o,rfl,hc⟩⟩:=h2
 ·cases a with
  | none =>
   obtain rfl:=h0 rfl
   obtain⟨i0,z,hi,hz0,hz1,hz2,hz3⟩:=E.inf
   exact⟨_,_,run_append_owned_none (P:=P) w g0 ST ST T i0 sz E.und hi _ _ _ h,by rw[List.append_nil];exact h,(Nw.refl w).grownBy _,.inl rfl⟩
  | some ad=>exact Up.many E h [] ad c (fun j u hu=>by simp[Z8] at hu) hsm hg0
 ·exact Up.many E h sg ⟨b,o,none⟩ c (hc.flat E.len E.pos) hsm hg0
theorem Zlt{n m:Nat}{v:Value}(h:Zp3 n v)(k:m≤n):Zp3 m v:=fun a c d e=>Nat.le_trans k (h a c d e)
theorem Zcz(w:World)(o:Nat):V8 w o (.slice none 0 0) []:=⟨[],World.ownsRow_nil _ _ _ _,rfl,fun x hx=>by cases hx⟩
theorem V8.form{w:World}{o:Nat}{v:Value}{hs:List Hq}(h:V8 w o v hs):(v=.slice none 0 0∧hs=[])∨∃g cap,v=.slice (some ⟨g,0,none⟩) hs.length cap∧o<g∧g<w.heap.size:=by
 obtain⟨lm,h1,rfl,h3⟩:=h
 rcases V4 h1 with⟨rfl,e⟩ | ⟨g,cap,rfl⟩
 ·exact .inl ⟨rfl,by rw[List.length_eq_zero_iff.1 e];rfl⟩
 ·exact .inr ⟨g,cap,by rw[List.length_map],oge h1 rfl,olt h1 rfl⟩
theorem V8.app{w:World}{o o2:Nat}{v v2:Value}{hs hs2:List Hq}(h:V8 w o v hs)(h2:V8 w o2 v2 hs2)(ho:o≤o2)(hv:∀b,v.ownBlock=some b→b≤o2)(hsm:hs.length+hs2.length≤100000) :
  ∃v' w1,(Builtin.append_ #[58,58] 58 #[v,v2]).run prog w=.ok v' w1∧V8 w1 o v' (hs++hs2)∧w.grownBy w1 v.ownBlock∧(v'.ownBlock=v.ownBlock∨v'.ownBlock=some w.heap.size):=by
 rcases h2.form with⟨rfl,rfl⟩ | ⟨g2,cap2,e2,hg2,hg2'⟩
 ·obtain⟨lm,h1,rfl,h3⟩:=h
  obtain⟨i0,z,hi,hz0,hz1,hz2,hz3⟩:=Z1t.inf
  exact⟨_,_,run_append_owned_none (P:=prog) w (o+1) 58 58 83 i0 4 Z1t.und hi _ _ _ h1,⟨lm,h1,by rw[List.append_nil],h3⟩,(Nw.refl w).grownBy _,.inl rfl⟩
 have hol:o<w.heap.size:=by omega
 clear e2
 obtain⟨lm,h1,rfl,h3⟩:=h
 obtain⟨lm2,k1,rfl,k3⟩:=h2
 obtain⟨v',w1,hr,hO,hg,hp⟩:=Zih Z1t h1 (Up.rd Z1t.len k1) (by simpa using hsm) hol
 have t:=Zcx hg
 refine⟨v',w1,hr,⟨lm++lm2,hO,by rw[List.map_append],fun x hx=>?_⟩,hg,hp⟩
 rcases List.mem_append.1 hx with q | q
 ·have k:=(h3 x q).tchS t (fun b e hq e2=>(h3 x q).off b e hq e2)
  refine⟨k.rd,k.cap,k.len,k.new,fun b e hq e2=>?_⟩
  rcases hp with hp | hp
  ·exact(h3 x q).off b e hq (hp▸e2)
  ·have h5:=Zit (h3 x q).rd e hq
   rw[hp] at e2
   have:=Option.some.inj e2
   omega
 ·have hb:∀b,x.a=some b→o2+1≤b.block:=fun b e=>(k3 x q).new b x.h.q.length x.c (by unfold hmV;rw[e])
  have k:=(k3 x q).tchS t (fun b e hq e2=>by have:=hv _ e2;have:=hb b e;omega)
  refine⟨k.rd,k.cap,k.len,Zlt k.new (by omega),fun b e hq e2=>?_⟩
  rcases hp with hp | hp
  ·rw[hp] at e2
   have:=hv _ e2
   have:=hb b e
   omega
  ·have h5:=Zit (k3 x q).rd e hq
   rw[hp] at e2
   have:=Option.some.inj e2
   omega
theorem V8.sort{w w':World}{o g cap:Nat}{lm l:List Hm}(h1:Zcc w (o+1) (.slice (some ⟨g,0,none⟩) lm.length cap) lm)(h3:∀x∈lm,Z2u w o (some g) x)(p:l.Perm lm)(h2:Zcc w' (o+1) (.slice (some ⟨g,0,none⟩) l.length cap) l)(t:Z3 (fun b=>b=g) w w') :
  V8 w' o (.slice (some ⟨g,0,none⟩) l.length cap) (l.map Hm.h) :=
 ⟨l,h2,rfl,fun x hx=>(h3 x (p.mem_iff.1 hx)).tchS t (fun b e hq e2=>(h3 x (p.mem_iff.1 hx)).off b e hq (congrArg some e2.symm))⟩
end
end Go.Proofs.YtfepoibfbmehiaaGreatDoor
namespace Go.Proofs
open _root_.Go.Proofs.Tryz
open Go.Shelf
def Tryz.sortH_ren:Go.Shelf.Ren:=⟨fun | 6=>44 | 15=>75 | 14=>74 | 28=>106 | 29=>107 | 20=>98 | 21=>99 | 22=>100 | 23=>101 | 24=>102 | 25=>103 | 26=>104 | 27=>105 | 46=>134 | 47=>135 | 48=>136 | 49=>137 | 50=>138 | 57=>151 | n=>n,fun | 22=>58 | 24=>83 | 25=>85 | 3=>3 | 39=>124 | 0=>0 | 53=>120 | 55=>160 | 4=>4 | 46=>153 | 45=>152 | 50=>48 | 5=>5 | 9=>9 | 66=>188 | 70=>192 | 76=>203 | 77=>46 | n=>n,fun | n=>n⟩
theorem Tryz.sortH:Go.Proofs.SlLaysF0.n6 prog Tryz.sortH_ren:={
 mixed:=by kernel_rfl
 f6:=⟨Tryz.f44.name,by decide,func44.trans (congrArg some (by kernel_rfl))⟩
 f14:=⟨Tryz.f74.name,by decide,func74.trans (congrArg some (by kernel_rfl))⟩
 f15:=func75.trans (congrArg some (by kernel_rfl))
 f20:=⟨Tryz.f98.name,by decide,func98.trans (congrArg some (by kernel_rfl))⟩
 f21:=⟨Tryz.f99.name,by decide,func99.trans (congrArg some (by kernel_rfl))⟩
 f22:=⟨Tryz.f100.name,by decide,func100.trans (congrArg some (by kernel_rfl))⟩
 f23:=⟨Tryz.f101.name,by decide,func101.trans (congrArg some (by kernel_rfl))⟩
 f24:=⟨Tryz.f102.name,by decide,func102.trans (congrArg some (by kernel_rfl))⟩
 f25:=⟨Tryz.f103.name,by decide,func103.trans (congrArg some (by kernel_rfl))⟩
 f26:=⟨Tryz.f104.name,by decide,func104.trans (congrArg some (by kernel_rfl))⟩
 f27:=⟨Tryz.f105.name,by decide,func105.trans (congrArg some (by kernel_rfl))⟩
 f28:=func106.trans (congrArg some (by kernel_rfl))
 f29:=func107.trans (congrArg some (by kernel_rfl))
 f46:=⟨Tryz.f134.name,by decide,func134.trans (congrArg some (by kernel_rfl))⟩
 f47:=func135.trans (congrArg some (by kernel_rfl))
 f48:=func136.trans (congrArg some (by kernel_rfl))
 f49:=⟨Tryz.f137.name,by decide,func137.trans (congrArg some (by kernel_rfl))⟩
 f50:=⟨Tryz.f138.name,by decide,func138.trans (congrArg some (by kernel_rfl))⟩
 f57:=⟨Tryz.f151.name,by decide,func151.trans (congrArg some (by kernel_rfl))⟩
 t0:=underlying0
 a0:=Tryz.isAgg0
 z0:=Tryz.sizeOf0
 v0:=Tryz.zeroValue0
 t3:=underlying3
 a3:=Tryz.isAgg3
 z3:=Tryz.sizeOf3
 v3:=Tryz.zeroValue3
 t4:=underlying4
 a4:=Tryz.isAgg4
 z4:=Tryz.sizeOf4
 v4:=Tryz.zeroValue4
 t5:=underlying5
 a5:=Tryz.isAgg5
 z5:=Tryz.sizeOf5
 v5:=Tryz.zeroValue5
 t9:=underlying9
 a9:=Tryz.isAgg9
 z9:=Tryz.sizeOf9
 v9:=Tryz.zeroValue9
 t22:=underlying58
 a22:=Tryz.isAgg58
 z22:=Tryz.sizeOf58
 v22:=Tryz.zeroValue58
 t25:=underlying85
 a25:=Tryz.isAgg85
 z25:=Tryz.sizeOf85
 v25:=Tryz.zeroValue85
 t39:=underlying124
 a39:=Tryz.isAgg124
 z39:=Tryz.sizeOf124
 v39:=Tryz.zeroValue124
 t45:=underlying152
 a45:=Tryz.isAgg152
 z45:=Tryz.sizeOf152
 v45:=Tryz.zeroValue152
 t46:=underlying153
 a46:=Tryz.isAgg153
 z46:=Tryz.sizeOf153
 v46:=Tryz.zeroValue153
 t50:=underlying48
 a50:=Tryz.isAgg48
 z50:=Tryz.sizeOf48
 v50:=Tryz.zeroValue48
 t53:=underlying120
 a53:=Tryz.isAgg120
 z53:=Tryz.sizeOf120
 v53:=Tryz.zeroValue120
 t55:=underlying160
 a55:=Tryz.isAgg160
 z55:=Tryz.sizeOf160
 v55:=Tryz.zeroValue160
 t66:=underlying188
 a66:=Tryz.isAgg188
 z66:=Tryz.sizeOf188
 v66:=Tryz.zeroValue188
 t70:=underlying192
 a70:=Tryz.isAgg192
 z70:=Tryz.sizeOf192
 v70:=Tryz.zeroValue192
 t76:=underlying203
 a76:=Tryz.isAgg203
 z76:=Tryz.sizeOf203
 v76:=Tryz.zeroValue203
 t77:=underlying46
 a77:=Tryz.isAgg46
 z77:=Tryz.sizeOf46
 v77:=Tryz.zeroValue46 }
end Go.Proofs
namespace Go.Proofs.YtfepoibfbmehiaaGreatDoor
open Go.RowKit _root_.Go.Proofs.Tryz Go.Shelf
section
open Go.RowKit Go.Sort Go.Shelf
theorem Z2p(t r t' r':Int)(w:World) :
  Calls prog 46 #[.agg #[.int .i64 t,.int .i64 r],.agg #[.int .i64 t',.int .i64 r']] w fun e w'=>e=.returned (.int .i64 (orP (cP t t') (cP r r')))∧GG w w':=by
 go_enter func46,ntmps46
 go_wp2
 go_region_held3 (fun w'=>Zfk w t r t' r' w') (first | assumption | exact Z5v w t r t' r' _ | exact Vy (by assumption) (by assumption) | exact Vy ((GG.refl _).alloc _) (by assumption) | exact Vy (GG.refl _).drew (by assumption))
  (first | (go_at_call 69;refine(Z4p _ _ _).mono ?_;rintro e w' ⟨rfl,rfl⟩) | (go_at_call 68;refine(Zpc _ (cP t t') (cP r r') _ (by simp[go_sem]) (by simp[go_sem])).mono ?_;rintro e w' ⟨rfl,rfl⟩))
 all_goals
  rename_i hS
  go_wp2
  go_ret
  exact⟨rfl,hS.2.2⟩
theorem Zag(x y:Hm)(w:World):Calls prog 45 #[.agg (Z3k x).toArray,.agg (Z3k y).toArray] w fun e w'=>e=.returned (.int .i64 (Ze1 x y))∧GG w w':=by
 obtain⟨⟨xt,xr,xW,xq⟩,xa,xc⟩:=x
 obtain⟨⟨yt,yr,yW,yq⟩,ya,yc⟩:=y
 simp only[Z3k,Ze1,Uh,Za]
 obtain⟨xl,hxl⟩:∃n,xq.length=n:=⟨_,rfl⟩
 obtain⟨yl,hyl⟩:∃n,yq.length=n:=⟨_,rfl⟩
 rw[hxl,hyl]
 clear hxl hyl
 have HG:=hD0 (((GG.refl w).alloc (.cells #[.int .i64 xt,.int .i64 xr,.slice xa xl xc,.int .i64 xW] 83)).alloc (.cells #[.int .i64 yt,.int .i64 yr,.slice ya yl yc,.int .i64 yW] 83))
 go_enter func45,ntmps45
 go_wp2_with fail
 refine(Z2p xt xr yt yr _).mono ?_
 rintro e w1 ⟨rfl,g1⟩
 have HE:=hD0 (HG.out.trans g1)
 clear g1 HG
 go_wp2
 go_ret
 exact⟨rfl,HE.out⟩
theorem Zo6:∀args w,(callFunc 45 args).run prog w=.ok (.enter 45 args) w:=enters_of func45 (by kernel_rfl) rfl
theorem nxU(k:Nat):(k:Int)+1=((k+1:Nat):Int):=rfl
theorem Ub(a b:Nat)(h:b<a):a-(intOf (.int .i64 ((b:Int)+1))).toNat<a-(intOf (.int .i64 (b:Int))).toNat:=by
 show a-((b:Int)+1).toNat<a-(b:Int).toNat
 omega
theorem Zeb{hss:List (List Hq)}{j:Nat}(hj:j<hss.length):(hss.take (j+1)).flatten=(hss.take j).flatten++hss[j]:=by
 rw[List.take_succ_eq_append_getElem hj,List.flatten_append]
 simp
theorem Z16{hss:List (List Hq)}(h:∀l∈hss,l.length≤64)(hn:hss.length≤16)(j:Nat):(hss.take j).flatten.length≤1024:=by
 have key:∀(l:List (List Hq)),(∀x∈l,x.length≤64)→l.flatten.length≤64*l.length:=by
  intro l
  induction l with
  | nil=>intro _;simp
  | cons a t ih =>
   intro h1
   have:=ih (fun x hx=>h1 x (List.mem_cons_of_mem _ hx))
   have:=h1 a (by simp)
   simp only[List.flatten_cons,List.length_append,List.length_cons]
   omega
 have h2:=key (hss.take j) (fun x hx=>h x (List.mem_of_mem_take hx))
 have h3:(hss.take j).length≤16:=by rw[List.length_take];omega
 omega
section
variable {W:World} {o S n N k:Nat} {C:Cps} {hss:List (List Hq)} {L:List Bool} {J:Nat→Prop}
theorem Zan(h:Tab W o S n N k C hss L J)(hS:S≤16)(hn:n≤64):Calls prog 43 #[.pointer (some ⟨o,0,none⟩)] W (Z07 W hss.flatten):=by
 obtain⟨bb,cp,hb,po,ds,hv,F,hm,hp,rfl,rfl,ok⟩:=h
 have hSl:ds.length=S:=by rw[←Zw];exact ok.sl
 have h64:∀l∈Z9 ds,l.length≤64:=fun l hl=>Nat.le_trans (ok.inv.part l hl).len hn
 have HK:=hD0 (aI0 h64 (show(Z9 ds).length≤16 by rw[ok.sl];exact hS))
 have HMd:=hD0 (Vx o W hm.c0)
 have HM:=hD0 hm
 have c6:=hm.c6
 have hnn:ds.length≤16:=by omega
 clear hm hp ok hSl h64
 obtain⟨nn,hnl⟩:∃nn,ds.length=nn:=⟨_,rfl⟩
 rw[hnl] at c6 hnn
 have HN:=hD0 hnl
 clear hnl
 go_enter func43,ntmps43
 go_wp2_with fail
 refine HMd.out.mono ?_
 rintro e w' ⟨rfl,rfl⟩
 go_wp2_with fail
 go_loopw [3,5,14] (fun vi bi i wr=>∃(j:Nat) (s0:Option Addr) (s1 s2:Nat),vi=.slice s0 s1 s2∧i=.int .i64 j∧j≤nn∧Hid (V8 wr W.heap.size (.slice s0 s1 s2) ((Z9 ds).take j).flatten∧Nw W wr)) (fun _ _ i _=>nn-(intOf i).toNat)
 case atStart=>exact⟨0,none,0,0,rfl,rfl,Nat.zero_le _,Zcz _ _,Nw.refl _⟩
 case round =>
  obtain⟨j,s0,s1,s2,rfl,rfl,hj,HI⟩:=hrel
  by_cases hjl:j<nn
  ·have hjd:j<ds.length:=by rw[HN.out];exact hjl
   have hjh:j<(Z9 ds).length:=by rw[Zw];exact hjd
   have hmr:=HM.out.nw HI.out.2
   have cr:=hmr.row j hjd
   have HH:=hD0 (Zl1 (hmr.db.db _ (gM0 hjd)))
   have hji:(j:Int)<(nn:Int):=by omega
   have hwj:wrap64 ((j:Int)+1)=(j:Int)+1:=by unfold wrap64;omega
   have hbl:=hmr.bl
   obtain⟨B,hB⟩:∃B,ds[j].o=B:=⟨_,rfl⟩
   rw[hB] at cr HH
   clear hmr
   go_wp2_with fail
   refine HH.out.mono ?_
   rintro e w2 ⟨v2,rfl,hh2,g2⟩
   have e2:=Zeb hjh
   rw[Z7s hjd hjh] at e2
   have hl1:=Z16 HK.out.1 HK.out.2 (j+1)
   rw[e2,List.length_append] at hl1
   obtain⟨v3,w3,hrun,hh3,hg3,hp3⟩:=V8.app (HI.out.1.nw g2) hh2 HI.out.2.sz (fun b e=>by
    rcases HI.out.1.form with⟨q,_⟩ | ⟨g,cap,q,_,q2⟩
    ·rw[q] at e;cases e
    ·rw[q] at e;have e':g=b:=Option.some.inj e;omega) (by omega)
   rw[←e2] at hh3
   obtain⟨t0,t1,t2,hv3⟩:∃a b c,v3=.slice a b c:=by
    rcases hh3.form with⟨q,_⟩ | ⟨g,cap,q,_⟩
    ·exact⟨_,_,_,q⟩
    ·exact⟨_,_,_,q⟩
   subst hv3
   have HI3:=hD0 (show V8 w3 W.heap.size (.slice t0 t1 t2) ((Z9 ds).take (j+1)).flatten∧Nw W w3 from⟨hh3,(HI.out.2.trans g2).gro hg3 (fun k e=>by
    rcases HI.out.1.form with⟨q,_⟩ | ⟨g,cap,q,q1,q2⟩
    ·rw[q] at e;cases e
    ·rw[q] at e;have e':g=k:=Option.some.inj e;omega)⟩)
   have HR:=hD0 hrun
   clear hh2 g2 e2 hl1 hrun hh3 hg3 hp3 HI HH cr hbl hB
   go_wp2_with (at_builtin;refine Z2s (by rfl) (.tmp 18) (.tmp 20) 58 rfl _ _ _ _ (by first | rfl | simp[Act.eval, *]) (by first | rfl | simp[Act.eval, *]) HR.out ?_)
   go_roundw
   case rel=>exact⟨j+1,_,_,_,rfl,congrArg (Value.int .i64) (by first | exact nxU j | exact hwj.trans (nxU j)),hjl,HI3⟩
   case measure=>first | exact Ub nn j hjl | (rw[hwj];exact Ub nn j hjl)
  ·obtain rfl:j=nn:=by omega
   have HE:Hid (Z07 W (Z9 ds).flatten (.returned (.slice s0 s1 s2)) wr):=by
    have e:=HI.out.1
    rw[←HN.out,←Zw,List.take_length] at e
    exact⟨_,rfl,e,HI.out.2⟩
   clear HI
   go_wp2
   go_ret
   exact HE.out
theorem Zc3(h:Tab W o S n N k C hss L J)(hS:S≤16)(hn:n≤64):Calls prog 22 #[.pointer (some ⟨o,0,none⟩)] W (Z07 W (Y5 hss)):=by
 have HH:=hD0 (Zan h hS hn)
 have hap:=h.ok.apart
 have hlen:hss.flatten.length≤1024:=by
  have:=Z16 (fun l hl=>Nat.le_trans (h.ok.inv.part l hl).len hn) (by rw[h.ok.sl];exact hS) hss.length
  rwa [List.take_length] at this
 have HA:=hD0 (aI0 hap hlen)
 clear h hap hlen
 go_enter func22,ntmps22
 go_wp2_with fail
 refine HH.out.mono ?_
 rintro e w1 ⟨v,rfl,hh,g1⟩
 rcases hh.form with⟨rfl,hz⟩ | ⟨g,cap,hv,_⟩
 ·have HS:=hD0 (AnyF.slices_SortFunc_none (P:=prog) { Tryz.sortH with } none 0 (.func (.func 45) #[] #[]) w1)
  have HE:Hid (Z07 W (Y5 hss) (.returned (.slice none 0 0)) w1):=by
   refine⟨_,rfl,?_,g1⟩
   have:Y5 hss=[]:=by unfold Y5;rw[hz];rfl
   rw[this]
   exact Zcz _ _
  clear hh hz g1 HH
  go_wp2_with fail
  refine Calls.mono HS.out ?_
  rintro e w2 ⟨rfl,rfl⟩
  go_wp2
  go_ret
  exact HE.out
 ·obtain⟨lm,h1,h2,h3⟩:=hh
  subst hv
  have hll:lm.length=hss.flatten.length:=by rw[←h2,List.length_map]
  rw[←hll] at h1 ⊢
  have HS:=hD0 (Z70 Z1t (ρ:=_) { Tryz.sortH with } (by intro w;kernel_rfl) (by intro w;kernel_rfl) Ze1 Zg4 45 Zo6 Zag _ g cap lm w1 h1 (by have:=HA.out.2;omega))
  have HX:=hD0 (aI0 h1 (aI0 h2 (aI0 h3 g1)))
  clear h1 h2 h3 g1 HH hll
  go_wp2_with fail
  refine Calls.mono HS.out ?_
  rintro e w2 ⟨rfl,l,hp,hs,hO,ht⟩
  have hl:l.length=lm.length:=hp.length_eq
  have HE:Hid (Z07 W (Y5 hss) (.returned (.slice (some ⟨g,0,none⟩) lm.length cap)) w2):=by
   refine⟨_,rfl,?_,Yu HX.out.2.2.2 ht (fun i e=>?_)⟩
   ·rw[←Zm6 HA.out.1 HX.out.2.1 hp hs,←hl]
    exact V8.sort HX.out.1 HX.out.2.2.1 hp hO ht
   ·have:=oge HX.out.1 rfl
    omega
  clear hp hs hO ht hl HS
  go_wp2
  go_ret
  exact HE.out
end
end
def Z9d(hss:List (List Hq))(id:Int):Int × Int × Rq × Bool:=Z3i (Z0d hss (Y9 hss id)) id
def Z93(hss:List (List Hq))(t r txn:Int):Int × Bool:=if ofS t r hss.length = -1 then(0,false)else Z6c (Z0d hss (ofS t r hss.length).toNat) t r txn
def Z4r(hss:List (List Hq)):Nat:=(hss.map List.length).sum
section
variable {W:World} {o S n N k:Nat} {C:Cps} {hss:List (List Hq)} {L:List Bool} {J:Nat→Prop}
theorem Zj4(h:Tab W o S n N k C hss L J)(t r:Int):Calls prog 20 #[.pointer (some ⟨o,0,none⟩),.agg #[.int .i64 t,.int .i64 r]] W fun e W'=>e=.returned (.int .i64 (ofS t r S))∧Nw W W':=by
 obtain⟨bb,cp,hb,po,ds,hv,F,hm,hp,rfl,rfl,ok⟩:=h
 have:=Z5n hm.st t r
 rw[show ds.length=S by rw[←Zw];exact ok.sl] at this
 exact this
theorem Zqd(h:Tab W o S n N k C hss L J)(hS:0<S)(id:Int)(hf:Fit id)(t r b0 b1 b2 b3 b4:Int)(y:Bool)(hR:Z9d hss id=(t,r,⟨b0,b1,b2,b3,b4⟩,y)) :
  Calls prog 13 #[.pointer (some ⟨o,0,none⟩),.int .i64 id] W fun e W'=>e=.returned (.tuple #[.agg #[.int .i64 t,.int .i64 r],.agg #[.int .i64 b0,.int .i64 b1,.int .i64 b2,.int .i64 b3,.int .i64 b4],.bool y])∧Nw W W':=by
 obtain⟨bb,cp,hb,po,ds,hv,F,hm,hp,rfl,rfl,ok⟩:=h
 have hi0:=Z0n (by rw[ok.sl];exact hS) id
 have hi:Y9 (Z9 ds) id<ds.length:=by rw[←Zw];exact hi0
 unfold Z9d at hR
 rw[U4 hi] at hR
 have hN:Nw W ((W.alloc (.cells #[.int .i64 0,.int .i64 0] 33)).alloc (.cells #[.int .i64 0,.int .i64 0,.int .i64 0,.int .i64 0,.int .i64 0] 43)):=((Nw.refl W).alloc _).alloc _
 have hA:=((Nw.refl (W.alloc (.cells #[.int .i64 0,.int .i64 0] 33))).alloc (.cells #[.int .i64 0,.int .i64 0,.int .i64 0,.int .i64 0,.int .i64 0] 43)).at' (Z2 W (.cells #[.int .i64 0,.int .i64 0] 33))
 have hB:=Z2 (W.alloc (.cells #[.int .i64 0,.int .i64 0] 33)) (.cells #[.int .i64 0,.int .i64 0,.int .i64 0,.int .i64 0,.int .i64 0] 43)
 rw[World.size_alloc] at hB
 obtain⟨z,hz⟩:∃z,(W.alloc (.cells #[.int .i64 0,.int .i64 0] 33)).alloc (.cells #[.int .i64 0,.int .i64 0,.int .i64 0,.int .i64 0,.int .i64 0] 43)=z:=⟨_,rfl⟩
 rw[hz] at hN hA hB
 have HZ:=hD0 hz
 have hmz:=hm.nw hN
 have HW:=hD0 (Z4d hmz hp id hf hi rfl)
 have hgd:=Zqc (hmz.db.db _ (gM0 hi)) (fun x hx=>((hmz.db.db _ (gM0 hi)).ok x hx).len) id
 rw[hR] at hgd
 have HGt:=hD0 hgd
 have HN:=hD0 (aI0 hN (aI0 hA hB))
 clear hgd hmz hm hp ok hi0 hR hz hN hA hB hf
 generalize ds[Y9 (Z9 ds) id].o=B at *
 go_enter func13,ntmps13
 go_wp2_with fail
 rw[HZ.out]
 refine HW.out.mono ?_
 rintro e w' ⟨rfl,rfl⟩
 go_wp2_with fail
 refine HGt.out.mono ?_
 rintro e w1 ⟨rfl,g1⟩
 unfold rqV
 have hA:=g1.at' HN.out.2.1
 have hB:=g1.at' HN.out.2.2
 have m0:=Z0 (j:=0) hA
 have m1:=Z0 (j:=1) hA
 have mz:=fun j=>hfz (j:=j) hA
 have ml:=Z1 hA
 have n0:=Z0 (j:=0) hB
 have n1:=Z0 (j:=1) hB
 have n2:=Z0 (j:=2) hB
 have n3:=Z0 (j:=3) hB
 have n4:=Z0 (j:=4) hB
 have nz:=fun j=>hfz (j:=j) hB
 have nl:=Z1 hB
 have ng5:¬(W.heap.size+1=W.heap.size):=by omega
 have HE:=hD0 (HN.out.1.trans g1)
 clear hA hB g1 HGt HW HN
 simp only
 go_wp2
 have HR:=hD0 (((((((HE.out.st (p:=⟨W.heap.size,0,none⟩) (Nat.le_refl _) (.int .i64 t)).st (p:=⟨W.heap.size,1,none⟩) (Nat.le_refl _) (.int .i64 r)).st (p:=⟨W.heap.size+1,0,none⟩) (Nat.le_succ _) (.int .i64 b0)).st (p:=⟨W.heap.size+1,1,none⟩) (Nat.le_succ _) (.int .i64 b1)).st (p:=⟨W.heap.size+1,2,none⟩) (Nat.le_succ _) (.int .i64 b2)).st (p:=⟨W.heap.size+1,3,none⟩) (Nat.le_succ _) (.int .i64 b3)).st (p:=⟨W.heap.size+1,4,none⟩) (Nat.le_succ _) (.int .i64 b4))
 exact bodyPost_ret (v:=.tuple #[.agg #[.int .i64 t,.int .i64 r],.agg #[.int .i64 b0,.int .i64 b1,.int .i64 b2,.int .i64 b3,.int .i64 b4],.bool y]) (by simp[results,results13,go_sem, *]) rfl ⟨rfl,HR.out⟩
theorem Zo9(h:Tab W o S n N k C hss L J)(t r txn i:Int)(y:Bool)(hR:Z93 hss t r txn=(i,y)) :
  Calls prog 15 #[.pointer (some ⟨o,0,none⟩),.agg #[.int .i64 t,.int .i64 r],.int .i64 txn] W fun e W'=>e=.returned (.tuple #[.int .i64 i,.bool y])∧Nw W W':=by
 obtain⟨bb,cp,hb,po,ds,hv,F,hm,hp,rfl,rfl,ok⟩:=h
 obtain⟨z,hz⟩:∃z,W.alloc (.cells #[.int .i64 t,.int .i64 r] 33)=z:=⟨_,rfl⟩
 have g1:Nw W z:=by rw[←hz];exact(Nw.refl W).alloc _
 have hal:=Z2 W (.cells #[.int .i64 t,.int .i64 r] 33)
 rw[hz] at hal
 have HZ:=hD0 hz
 have HSt:=hD0 (Z5n (hm.nw g1).st t r)
 have c0:=Z0 (j:=0) hal
 have c1:=Z0 (j:=1) hal
 have cl:=Z1 hal
 have HG:=hD0 (aI0 g1 hal)
 unfold Z93 at hR
 rw[Zw] at hR
 have hrg:=Z37 t r ds.length
 by_cases hbad:ofS t r ds.length = -1
 ·rw[hbad] at HSt
  rw[if_pos hbad] at hR
  obtain⟨rfl,rfl⟩:=Prod.mk.inj hR
  clear hz g1 hal hrg hm hp ok hR hbad
  go_enter func15,ntmps15
  go_wp2_with fail
  rw[HZ.out]
  refine HSt.out.mono ?_
  rintro e z2 ⟨rfl,g2⟩
  have HE:=hD0 (HG.out.1.trans g2)
  clear g2 HG
  go_wp2
  exact bodyPost_ret (v:=.tuple #[.int .i64 0,.bool false]) (by simp[results,results15,go_sem, *]) rfl ⟨rfl,HE.out⟩
 ·rw[if_neg hbad] at hR
  have hlv:=Zi7 (Zdd hbad)
  obtain⟨s,hs⟩:∃s:Nat,ofS t r ds.length=s:=⟨(ofS t r ds.length).toNat,by omega⟩
  have hi:s<ds.length:=by omega
  rw[hs] at HSt hR
  rw[Int.toNat_natCast,U4 hi] at hR
  have d1:((s:Int)==-1)=false:=by rw[beq_eq_false_iff_ne];omega
  have d2:(s:Int)<(ds.length:Int):=by omega
  have HM:=hD0 hm
  have HR:=hD0 (aI0 hR hlv)
  clear hz g1 hal hrg hm hp ok hR hbad hs hlv
  go_enter func15,ntmps15
  go_wp2_with fail
  rw[HZ.out]
  generalize W.heap.size=pb at *
  refine HSt.out.mono ?_
  rintro e z2 ⟨rfl,g2⟩
  have HG2:=hD0 (aI0 (HG.out.1.trans g2) (g2.at' HG.out.2))
  clear g2 c0 c1 cl HG HSt
  obtain⟨B,hB⟩:∃B,ds[s].o=B:=⟨_,rfl⟩
  have hFd:∀y2,Nw z2 y2→Calls prog 39 #[.pointer (some ⟨B,0,none⟩),.agg #[.int .i64 t,.int .i64 r],.int .i64 txn] y2 fun e W'=>e=.returned (.tuple #[.int .i64 i,.bool y])∧Nw y2 W':=fun y2 g=>by
   have hd:=(HM.out.nw (HG2.out.1.trans g)).db.db _ (gM0 hi)
   have:=Zo8 hd (fun x hx=>(hd.ok x hx).len) t r txn HR.out.2
   rw[HR.out.1,hB] at this
   exact this
  have HFd:=hD0 hFd
  have hc6:=fun y2 (g:Nw z2 y2)=>(HM.out.nw (HG2.out.1.trans g)).c6
  have hcr:=fun y2 (g:Nw z2 y2)=>(HM.out.nw (HG2.out.1.trans g)).row s hi
  rw[hB] at hcr
  clear hFd hB
  go_upto_region 4 with fail
  have hne:Nonempty (Wd (fun y=>Nw z2 y)):=⟨⟨_,Nw.refl _⟩⟩
  have C1:=fun(d:Wd (fun y=>Nw z2 y))=>hc6 _ d.h
  have C2:=fun(d:Wd (fun y=>Nw z2 y))=>hcr _ d.h
  have C3:=fun(d:Wd (fun y=>Nw z2 y))=>(Z0 (j:=0) (d.h.at' HG2.out.2)).trans rfl
  have C4:=fun(d:Wd (fun y=>Nw z2 y))=>(Z0 (j:=1) (d.h.at' HG2.out.2)).trans rfl
  clear hc6 hcr
  go_wp2_with fail
  refine Yy (fun y=>Nw z2 y) (by kernel_rfl) (by kernel_rfl) (Nw.refl z2).dr ?_
  repeat (first | go_big_quiet_step ((exact Z12 (fun a b h g=>h.trans g) (HFd.out _ (Wd.h _)))) | quiet_step ((exact Z12 (fun a b h g=>h.trans g) (HFd.out _ (Wd.h _)))))
  refine wpQuiet_nil ?_
  intro d
  have HD:=hD0 (HG2.out.1.trans d.h)
  clear C1 C2 C3 C4 hne HFd HM HR
  revert HD
  generalize d.w=z3
  intro HD
  go_wp2
  exact bodyPost_ret (v:=.tuple #[.int .i64 i,.bool y]) (by simp[results,results15,go_sem, *]) rfl ⟨rfl,HD.out⟩
theorem Znt(h:Tab W o S n N k C hss L J):Calls prog 21 #[.pointer (some ⟨o,0,none⟩)] W fun e W'=>e=.returned (Zkc C)∧Nw W W':=by
 obtain⟨bb,cp,hb,po,ds,hv,F,hm,hp,rfl,rfl,ok⟩:=h
 obtain⟨z,hz⟩:∃z,W.alloc (.cells #[.int .i64 0,.int .i64 0,.int .i64 0,.int .i64 0] 28)=z:=⟨_,rfl⟩
 have g1:Nw W z:=by rw[←hz];exact(Nw.refl W).alloc _
 have hal:=Z2 W (.cells #[.int .i64 0,.int .i64 0,.int .i64 0,.int .i64 0] 28)
 rw[hz] at hal
 have HZ:=hD0 hz
 have hmz:=hm.nw g1
 have HMd:=hD0 (Vx o z hmz.c0)
 have c1:=hmz.c1
 have c2:=hmz.c2
 have c3:=hmz.c3
 have c4:=hmz.c4
 have m0:=Z0 (j:=0) hal
 have m1:=Z0 (j:=1) hal
 have m2:=Z0 (j:=2) hal
 have m3:=Z0 (j:=3) hal
 have mz:=fun j=>hfz (j:=j) hal
 have ml:=Z1 hal
 have hol:=hmz.ol
 have hne:¬(W.heap.size=o):=by have:=hm.ol;omega
 have HE:=hD0 g1
 obtain⟨cs,ch,cr,cp'⟩:=C
 simp only at c1 c2 c3 c4 ⊢
 clear hz g1 hal hmz hm hp ok
 go_enter func21,ntmps21
 go_wp2_with fail
 rw[HZ.out]
 refine HMd.out.mono ?_
 rintro e w' ⟨rfl,rfl⟩
 go_wp2
 have HR:=hD0 ((((HE.out.st (p:=⟨W.heap.size,0,none⟩) (Nat.le_refl _) (.int .i64 cs)).st (p:=⟨W.heap.size,1,none⟩) (Nat.le_refl _) (.int .i64 ch)).st (p:=⟨W.heap.size,2,none⟩) (Nat.le_refl _) (.int .i64 cr)).st (p:=⟨W.heap.size,3,none⟩) (Nat.le_refl _) (.int .i64 cp'))
 exact bodyPost_ret (v:=.agg #[.int .i64 cs,.int .i64 ch,.int .i64 cr,.int .i64 cp']) (by simp[results,results21,go_sem, *]) rfl ⟨rfl,HR.out⟩
theorem Zg8{hss:List (List Hq)}{j:Nat}(hj:j<hss.length):Z4r (hss.take (j+1))=Z4r (hss.take j)+hss[j].length:=by
 unfold Z4r
 rw[List.take_succ_eq_append_getElem hj,List.map_append,List.sum_append]
 simp
theorem Zg7(hss:List (List Hq)):Z4r hss=hss.flatten.length:=by
 unfold Z4r
 rw[List.length_flatten]
theorem Zg9(h:Tab W o S n N k C hss L J)(hS:S≤16)(hn:n≤64):Calls prog 14 #[.pointer (some ⟨o,0,none⟩)] W fun e W'=>e=.returned (.tuple #[.int .i64 (Z4r hss),.int .i64 (liv L)])∧Nw W W':=by
 obtain⟨bb,cp,hb,po,ds,hv,F,hm,hp,rfl,rfl,ok⟩:=h
 have hSl:ds.length=S:=by rw[←Zw];exact ok.sl
 have h64:∀l∈Z9 ds,l.length≤64:=fun l hl=>Nat.le_trans (ok.inv.part l hl).len hn
 have HK:=hD0 (aI0 h64 (show(Z9 ds).length≤16 by rw[ok.sl];exact hS))
 have HMd:=hD0 (Vx o W hm.c0)
 have HM:=hD0 hm
 have c6:=hm.c6
 have c5:=hm.c5
 obtain⟨g',v',l1,hpo,hFp⟩:=hm.db.pol
 have HLv:=hD0 (Zlo hpo)
 have hnn:ds.length≤16:=by omega
 clear hm hp ok hSl h64 hpo hFp
 obtain⟨nn,hnl⟩:∃nn,ds.length=nn:=⟨_,rfl⟩
 rw[hnl] at c6 hnn
 have HN:=hD0 hnl
 clear hnl
 go_enter func14,ntmps14
 go_wp2_with fail
 refine HMd.out.mono ?_
 rintro e w' ⟨rfl,rfl⟩
 go_wp2_with fail
 go_loopw [2,5,14] (fun vi bi i wr=>∃(j:Nat),vi=.int .i64 (Z4r ((Z9 ds).take j))∧i=.int .i64 j∧j≤nn∧Hid (W=wr)) (fun _ _ i _=>nn-(intOf i).toNat)
 case atStart=>exact⟨0,rfl,rfl,Nat.zero_le _,rfl⟩
 case round =>
  obtain⟨j,rfl,rfl,hj,HI⟩:=hrel
  have hWr:=HI.out
  subst hWr
  by_cases hjl:j<nn
  ·have hjd:j<ds.length:=by rw[HN.out];exact hjl
   have hjh:j<(Z9 ds).length:=by rw[Zw];exact hjd
   have cr:=HM.out.row j hjd
   have hbl:=HM.out.bl
   have HH:=hD0 (Zqo (HM.out.db.db _ (gM0 hjd)))
   have hji:(j:Int)<(nn:Int):=by omega
   have hwj:wrap64 ((j:Int)+1)=(j:Int)+1:=by unfold wrap64;omega
   have e2:=Zg8 hjh
   rw[Z7s hjd hjh] at e2
   have hl1:=Z16 HK.out.1 HK.out.2 (j+1)
   rw[←Zg7,e2] at hl1
   have e3:(Z6 ds[j].l).length=ds[j].l.length:=by unfold Z6;rw[List.length_map]
   rw[e3] at e2 hl1
   obtain⟨B,hB⟩:∃B,ds[j].o=B:=⟨_,rfl⟩
   rw[hB] at cr HH
   obtain⟨M,hM⟩:∃M,ds[j].l.length=M:=⟨_,rfl⟩
   rw[hM] at HH e2 hl1
   obtain⟨A,hA⟩:∃A,Z4r ((Z9 ds).take j)=A:=⟨_,rfl⟩
   rw[hA] at e2 hl1 ⊢
   have hwa:wrap64 ((A:Int)+(M:Int))=(A:Int)+(M:Int):=by unfold wrap64;omega
   have HE2:=hD0 e2
   clear e2 hl1 e3 hB hM hA HI
   go_wp2_with fail
   refine HH.out.mono ?_
   rintro e w2 ⟨rfl,rfl⟩
   clear HH cr hbl
   go_wp2_with fail
   go_roundw
   case rel=>exact⟨j+1,congrArg (Value.int .i64) (by rw[HE2.out];first | rfl | exact hwa),congrArg (Value.int .i64) (by first | exact nxU j | exact hwj.trans (nxU j)),hjl,(by first | exact hD0 trivial | exact rfl)⟩
   case measure=>first | exact Ub nn j hjl | (rw[hwj];exact Ub nn j hjl)
  ·obtain rfl:j=nn:=by omega
   have e:(Z9 ds).take j=Z9 ds:=by rw[←HN.out,←Zw,List.take_length]
   rw[e]
   obtain⟨A,hA⟩:∃A,Z4r (Z9 ds)=A:=⟨_,rfl⟩
   rw[hA]
   have HA:=hD0 hA
   clear hA
   clear HI HMd e HK HM
   go_wp2_with fail
   refine HLv.out.mono ?_
   rintro e w2 ⟨rfl,g2⟩
   have HE:=hD0 g2
   clear g2
   go_wp2
   exact bodyPost_ret (v:=.tuple #[.int .i64 A,.int .i64 (liv L)]) (by simp[results,results14,go_sem, *]) rfl ⟨by rw[HA.out],HE.out⟩
end
def Za4(p:Nat):List Value:=[ptN p]
theorem Zbd:Z20 prog 67 70 1 8 Za4 where
 und:=underlying67
 inf:=by
  have h:(prog.info? 70).map (fun i=>(i.zero.map fun z=>z.cells.size,i.size,i.bytes))=some (some 1,1,8):=by kernel_rfl
  cases e:prog.info? 70 with
  | none=>rw[e] at h;cases h
  | some i =>
   rw[e] at h
   simp only[Option.map_some,Option.some.injEq,Prod.mk.injEq] at h
   obtain⟨h1,h2,h3⟩:=h
   cases ez:i.zero with
   | none=>rw[ez] at h1;cases h1
   | some z=>rw[ez] at h1;exact⟨i,z,rfl,ez,h2,h3,Option.some.inj h1⟩
 pos:=by decide
 byt:=by decide
 len:=fun _=>rfl
 one:=fun a u hu=>by
  simp only[Za4,List.mem_cons,List.not_mem_nil,or_false] at hu
  subst hu
  rfl
theorem Z0m(a l m:Int)(b:Bool)(hb:(decide (l≤a)&&decide (a≤m))=b)(w:World):Calls prog 48 #[.int .i64 a,.int .i64 l,.int .i64 m] w fun e w'=>e=.returned (.bool b)∧w=w':=by
 subst hb
 by_cases h1:l≤a
 ·have d1:decide (l≤a)=true:=by simpa using h1
  rw[d1]
  go_enter func48,ntmps48
  go_wp2
  go_ret
  exact⟨rfl,rfl⟩
 ·have d1:decide (l≤a)=false:=by simpa using h1
  rw[d1]
  clear h1
  go_enter func48,ntmps48
  go_wp2
  go_ret
  exact⟨rfl,rfl⟩
def Z0v(C:Cps):Prop:=(1≤C.s∧C.s≤16)∧(1≤C.h∧C.h≤64)∧(1≤C.r∧C.r≤128)∧(0≤C.p∧C.p≤8)
instance (C:Cps):Decidable (Z0v C):=by unfold Z0v;infer_instance
theorem Z2i(C:Cps)(w:World):Calls prog 25 #[Zkc C] w fun e w'=>e=.returned (.bool (decide (Z0v C)))∧Nw w w':=by
 obtain⟨a,b,c,d⟩:=C
 obtain⟨b1,h1⟩:∃x,(decide ((1:Int)≤a)&&decide (a≤16))=x:=⟨_,rfl⟩
 obtain⟨b2,h2⟩:∃x,(decide ((1:Int)≤b)&&decide (b≤64))=x:=⟨_,rfl⟩
 obtain⟨b3,h3⟩:∃x,(decide ((1:Int)≤c)&&decide (c≤128))=x:=⟨_,rfl⟩
 obtain⟨b4,h4⟩:∃x,(decide ((0:Int)≤d)&&decide (d≤8))=x:=⟨_,rfl⟩
 have hR:decide (Z0v ⟨a,b,c,d⟩)=(b1&&(b2&&(b3&&b4))):=by
  rw[←h1,←h2,←h3,←h4]
  unfold Z0v
  rw[Bool.eq_iff_iff]
  simp only[decide_eq_true_eq,Bool.and_eq_true]
  exact decide_eq_true_iff
 rw[hR]
 have H1:=hD0 (fun w=>Z0m a 1 16 b1 h1 w)
 have H2:=hD0 (fun w=>Z0m b 1 64 b2 h2 w)
 have H3:=hD0 (fun w=>Z0m c 1 128 b3 h3 w)
 have H4:=hD0 (fun w=>Z0m d 0 8 b4 h4 w)
 have HG:=hD0 ((Nw.refl w).alloc (.cells #[.int .i64 a,.int .i64 b,.int .i64 c,.int .i64 d] 28))
 clear h1 h2 h3 h4 hR
 cases b1
 ·go_enter func25,ntmps25
  go_wp2_with (go_at_call 48;(with_reducible refine(H1.out _).mono ?_);rintro e w' ⟨rfl,rfl⟩)
  go_ret
  exact⟨rfl,HG.out⟩
 cases b2
 ·go_enter func25,ntmps25
  go_wp2_with (go_at_call 48;(first | (with_reducible refine(H1.out _).mono ?_) | (with_reducible refine(H2.out _).mono ?_));rintro e w' ⟨rfl,rfl⟩)
  go_ret
  exact⟨rfl,HG.out⟩
 cases b3
 ·go_enter func25,ntmps25
  go_wp2_with (go_at_call 48;(first | (with_reducible refine(H1.out _).mono ?_) | (with_reducible refine(H2.out _).mono ?_) | (with_reducible refine(H3.out _).mono ?_));rintro e w' ⟨rfl,rfl⟩)
  go_ret
  exact⟨rfl,HG.out⟩
 ·go_enter func25,ntmps25
  go_wp2_with (go_at_call 48;(first | (with_reducible refine(H1.out _).mono ?_) | (with_reducible refine(H2.out _).mono ?_) | (with_reducible refine(H3.out _).mono ?_) | (with_reducible refine(H4.out _).mono ?_));rintro e w' ⟨rfl,rfl⟩)
  go_ret
  exact⟨rfl,HG.out⟩
structure Z4g(W:World)(o hb po n:Nat)(C:Cps)(v:Value)(ds:List DB)(L:List Bool)(F:Nat→Prop)(X:World):Prop where
 c0:X.cell? ⟨o,0,none⟩=some (.pointer none)
 c1:X.cell? ⟨o,1,none⟩=some (.int .i64 C.s)
 c2:X.cell? ⟨o,2,none⟩=some (.int .i64 C.h)
 c3:X.cell? ⟨o,3,none⟩=some (.int .i64 C.r)
 c4:X.cell? ⟨o,4,none⟩=some (.int .i64 C.p)
 c5:X.cell? ⟨o,5,none⟩=some (ptN po)
 c6:X.cell? ⟨o,6,none⟩=some v
 c7:X.cell? ⟨o,7,none⟩=some (.map (some hb))
 fz:∀j,X.frozen? ⟨o,j,none⟩=false
 own:Up 70 1 Za4 X (o+1) v (ds.map DB.o)
 map:Zy X hb []
 db:DtB X po n ds L F
 em:∀d∈ds,d.l=[]∧o<d.o∧o<d.mb∧∀b,v.ownBlock=some b→b≠d.o∧b≠d.mb
 nw:Nw W X
 ho:hb+1=o
 hw:W.heap.size≤hb
 hF:∀k,F k→k<hb∧W.heap.size≤k
theorem Z4g.step{W X Y:World}{o hb po n:Nat}{C:Cps}{v:Value}{ds:List DB}{L:List Bool}{F:Nat→Prop}(h:Z4g W o hb po n C v ds L F X)(g:Nw X Y):Z4g W o hb po n C v ds L F Y:=by
 have hl:=World.block_lt_of_cell? _ _ h.c0
 exact⟨g.kp h.c0,g.kp h.c1,g.kp h.c2,g.kp h.c3,g.kp h.c4,g.kp h.c5,g.kp h.c6,g.kp h.c7,fun j=>(g.froz hl).trans (h.fz j),onw h.own g,h.map.nw g,h.db.nw g,h.em,h.nw.trans g,h.ho,h.hw,h.hF⟩
theorem Z4g.push{W X:World}{o hb po n:Nat}{C:Cps}{v:Value}{ds:List DB}{L:List Bool}{F:Nat→Prop}(h:Z4g W o hb po n C v ds L F X)(hl:ds.length≤100){B mb:Nat}(hB:Db X B mb po n [] L F)(h1:o<B)(h2:o<mb)(hne:∀d∈ds,mb≠d.mb)(hv:∀b,v.ownBlock=some b→b≠B∧b≠mb) :
  ∃g cap w3,(Builtin.append_ #[67,67] 67 #[v,.slice (some ⟨X.heap.size,0,none⟩) 1 1]).run prog (X.alloc (.cells #[ptN B] 70))=.ok (.slice (some ⟨g,0,none⟩) (ds.length+1) cap) w3 ∧
   (w3.cell? ⟨o,6,none⟩=some v∧w3.frozen? ⟨o,6,none⟩=false∧o<w3.heap.size)∧Z4g W o hb po n C (.slice (some ⟨g,0,none⟩) (ds.length+1) cap) (ds++[⟨B,mb,[]⟩]) L F (w3.setCell ⟨o,6,none⟩ (.slice (some ⟨g,0,none⟩) (ds.length+1) cap))∧∀b,b<o→(w3.setCell ⟨o,6,none⟩ (.slice (some ⟨g,0,none⟩) (ds.length+1) cap)).heap[b]?=X.heap[b]?:=by
 have hol:=World.block_lt_of_cell? _ _ h.c0
 simp only at hol
 have hal:=Z2 X (.cells #[ptN B] 70)
 have g0:Nw X (X.alloc (.cells #[ptN B] 70)):=(Nw.refl X).alloc _
 obtain⟨y,hy⟩:∃y,X.alloc (.cells #[ptN B] 70)=y:=⟨_,rfl⟩
 rw[hy] at hal g0
 rw[hy]
 have hs:=h.step g0
 have hBy:=hB.nw g0
 obtain⟨v',w3,hr,hO,hg,hp,g,cap,rfl⟩:=Up.push Zbd hs.own B X.heap.size 1 (fun j u hu=>by
  rw[Z0 hal]
  simpa [Za4] using hu) (by rw[List.length_map];omega) (by have:=g0.sz;omega)
 rw[List.length_map] at hr hp hO
 have hgo:o<g:=oge hO rfl
 have t:=Zcx hg
 have hvo:∀b,v.ownBlock=some b→o<b:=fun b e=>oge h.own e
 have hvlt:∀b,v.ownBlock=some b→b<X.heap.size:=fun b e=>olt h.own e
 have hyl:=Z1 hal
 have hSo:¬(v.ownBlock=some o):=fun e=>by have:=hvo o e;omega
 have hoy:o<y.heap.size:=lL0 hol g0.sz
 obtain⟨z,hz⟩:∃z,w3.setCell ⟨o,6,none⟩ (.slice (some ⟨g,0,none⟩) (ds.length+1) cap)=z:=⟨_,rfl⟩
 have t2:Z3 (fun b=>b=o) w3 z:=by rw[←hz];exact Zp w3 ⟨o,6,none⟩ _
 have hor:o<w3.heap.size:=lL0 hoy t.size
 have tt:Z3 (fun b=>v.ownBlock=some b∨b=o) y z:=(t.mono fun _ _ e=>.inl e).trans (t2.mono fun _ _ e=>.inr e)
 have ct:∀ {j:Nat} {u:Value},j≠6→y.cell? ⟨o,j,none⟩=some u→z.cell? ⟨o,j,none⟩=some u:=fun {j u} hj hc=>by
  rw[←hz,World.cell?_setCell_other _ _ _ _ (by first | (simp;done) | (simp;exact fun e=>hj e))]
  exact(t.cell hoy hSo).trans hc
 have c6':w3.cell? ⟨o,6,none⟩=some v:=(t.cell hoy hSo).trans hs.c6
 have hf':∀j,w3.frozen? ⟨o,j,none⟩=false:=fun j=>(t.froz hoy hSo).trans (hs.fz j)
 have hgn:∀b,(g=b)→v.ownBlock=some b∨b=y.heap.size:=fun b e=>by
  rcases hp with q | q
  ·exact .inl (q.symm.trans (congrArg some e))
  ·exact .inr (e.symm.trans (Option.some.inj q))
 have hdn:∀d∈ds,¬(v.ownBlock=some d.o∨d.o=o)∧¬(v.ownBlock=some d.mb∨d.mb=o):=fun d hd=>by
  obtain⟨_,k1,k2,k3⟩:=h.em d hd
  exact⟨fun e=>e.elim (fun e=>(k3 _ e).1 rfl) (fun e=>by omega),fun e=>e.elim (fun e=>(k3 _ e).2 rfl) (fun e=>by omega)⟩
 have hFn:∀k,F k→¬(v.ownBlock=some k∨k=o):=fun k hk e=>by
  have:=h.hF k hk
  have:=h.ho
  exact e.elim (fun e=>by have:=hvo k e;omega) (fun e=>by omega)
 have hbk:∀b,b<o→z.heap[b]?=X.heap[b]?:=fun b hb=>by
  rw[tt.block b (by omega) (fun e=>e.elim (fun e=>by have:=hvo b e;omega) (fun e=>by omega)),g0.block b (by omega)]
 refine⟨g,cap,w3,hr,⟨c6',hf' 6,hor⟩,?_,by rw[hz];exact hbk⟩
 rw[hz]
 refine⟨ct (by decide) hs.c0,ct (by decide) hs.c1,ct (by decide) hs.c2,ct (by decide) hs.c3,ct (by decide) hs.c4,ct (by decide) hs.c5,by rw[←hz];exact World.cell?_setCell_same _ _ _ c6',ct (by decide) hs.c7,fun j=>by rw[←hz,World.frozen?_setCell];exact hf' j,?_,?_,⟨?_,?_,?_⟩,?_,?_,h.ho,h.hw,h.hF⟩
 ·have em:(ds++[(⟨B,mb,[]⟩:DB)]).map DB.o=ds.map DB.o++[B]:=by simp
  rw[em]
  have:=Zij hO t2 (fun b hb e=>by have e':g=b:=Option.some.inj hb;omega)
  exact this
 ·exact hs.map.tch tt (fun e=>by
   have:=h.ho
   exact e.elim (fun e=>by have:=hvo _ e;omega) (fun e=>by omega))
 ·intro d hd
  rcases List.mem_append.1 hd with q | q
  ·have k:=hs.db.db d q
   rw[(h.em d q).1] at k ⊢
   exact k.tch tt (hdn d q).1 (hdn d q).2 hFn (fun x hx=>by cases hx)
  ·obtain rfl:d=⟨B,mb,[]⟩:=by simpa using q
   exact hBy.tch tt (fun e=>e.elim (fun e=>(hv _ e).1 rfl) (fun e=>by have e':B=o:=e;omega)) (fun e=>e.elim (fun e=>(hv _ e).2 rfl) (fun e=>by have e':mb=o:=e;omega)) hFn (fun x hx=>by cases hx)
 ·intro i j hi hj ne
  rw[List.length_append,List.length_singleton] at hi hj
  by_cases q1:i<ds.length
  ·rw[List.getElem_append_left q1]
   by_cases q2:j<ds.length
   ·rw[List.getElem_append_left q2]
    exact h.db.ne i j q1 q2 ne
   ·rw[List.getElem_append_right (by omega)]
    simp only[List.getElem_singleton]
    exact(hne _ (gM0 q1)).symm
  ·rw[List.getElem_append_right (by omega)]
   have q2:j<ds.length:=by omega
   rw[List.getElem_append_left q2]
   simp only[List.getElem_singleton]
   exact hne _ (gM0 q2)
 ·exact hs.db.pol.tch tt hFn
 ·intro d hd
  have hyB:=hB.ol
  have hyM:=hB.map.lt
  have hys:=g0.sz
  rcases List.mem_append.1 hd with q | q
  ·obtain⟨k0,k1,k2,k3⟩:=h.em d q
   have k4:=(h.db.db d q).ol
   have k5:=(h.db.db d q).map.lt
   refine⟨k0,k1,k2,fun b e=>?_⟩
   rcases hgn b (Option.some.inj e)with e | e
   ·exact k3 b e
   ·exact⟨by omega,by omega⟩
  ·obtain rfl:d=⟨B,mb,[]⟩:=by simpa using q
   refine⟨rfl,h1,h2,fun b e=>?_⟩
   rcases hgn b (Option.some.inj e)with e | e
   ·exact hv b e
   ·exact show b≠B∧b≠mb from⟨by omega,by omega⟩
 ·refine Yu hs.nw tt (fun k e=>?_)
  have:=h.ho
  have:=h.hw
  exact e.elim (fun e=>by have:=hvo k e;omega) (fun e=>by omega)
theorem Zbv{W X:World}{po n:Nat}{C:Cps}{L:List Bool}{F:Nat→Prop}(hp:Pol X po L F)(g:Nw W X)(hF:∀k,F k→W.heap.size≤k)(T:TypeId) :
  Z4g W (X.heap.size+1) X.heap.size po n C (.slice none 0 0) [] L F ((X.alloc (.map #[] 0)).alloc (.cells #[.pointer none,.int .i64 C.s,.int .i64 C.h,.int .i64 C.r,.int .i64 C.p,ptN po,.slice none 0 0,.map (some X.heap.size)] T)):=by
 have hs1:(X.alloc (.map #[] 0)).heap.size=X.heap.size+1:=by simp
 have hb:=Z2 (X.alloc (.map #[] 0)) (.cells #[.pointer none,.int .i64 C.s,.int .i64 C.h,.int .i64 C.r,.int .i64 C.p,ptN po,.slice none 0 0,.map (some X.heap.size)] T)
 rw[hs1] at hb
 have hN:Nw X ((X.alloc (.map #[] 0)).alloc (.cells #[.pointer none,.int .i64 C.s,.int .i64 C.h,.int .i64 C.r,.int .i64 C.p,ptN po,.slice none 0 0,.map (some X.heap.size)] T)):=((Nw.refl X).alloc _).alloc _
 have hM:=(Zy.made X).nw ((Nw.refl _).alloc (.cells #[.pointer none,.int .i64 C.s,.int .i64 C.h,.int .i64 C.r,.int .i64 C.p,ptN po,.slice none 0 0,.map (some X.heap.size)] T))
 generalize (X.alloc (.map #[] 0)).alloc (.cells #[.pointer none,.int .i64 C.s,.int .i64 C.h,.int .i64 C.r,.int .i64 C.p,ptN po,.slice none 0 0,.map (some X.heap.size)] T)=z at *
 exact⟨Z0 (j:=0) hb,Z0 (j:=1) hb,Z0 (j:=2) hb,Z0 (j:=3) hb,Z0 (j:=4) hb,Z0 (j:=5) hb,Z0 (j:=6) hb,Z0 (j:=7) hb,fun j=>hfz hb,World.ownsRow_nil _ _ _ _,hM,⟨(fun d hd=>by cases hd),(fun i j hi=>by simp at hi),hp.nw hN⟩,(fun d hd=>by cases hd),g.trans hN,rfl,g.sz,fun k hk=>⟨hp.own k hk,hF k hk⟩⟩
theorem Zl6{ds:List DB}(h:∀d∈ds,d.l=[]):Z9 ds=List.replicate ds.length []:=by
 unfold Z9
 refine List.eq_replicate_iff.2 ⟨by rw[List.length_map],fun x hx=>?_⟩
 obtain⟨d,hd,rfl⟩:=List.mem_map.1 hx
 rw[h d hd]
 rfl
theorem Zom{ds:List DB}(h:∀d∈ds,d.l=[]):hvT ds=[]:=by
 unfold hvT
 rw[List.flatMap_eq_nil_iff]
 intro d hd
 rw[h d hd]
 rfl
theorem Z4g.done{W X:World}{o hb po n S N:Nat}{C:Cps}{g cap:Nat}{ds:List DB}{F:Nat→Prop}(h:Z4g W o hb po n C (.slice (some ⟨g,0,none⟩) ds.length cap) ds (List.replicate N false) F X)(hl:ds.length=S) :
  ∃J,Tab (X.setCell ⟨o,0,none⟩ (ptN o)) o S n N 0 C (List.replicate S []) (List.replicate N false) J∧Nw W (X.setCell ⟨o,0,none⟩ (ptN o))∧∀b,J b→W.heap.size≤b:=by
 have hol:=World.block_lt_of_cell? _ _ h.c0
 simp only at hol
 obtain⟨z,hz⟩:∃z,X.setCell ⟨o,0,none⟩ (ptN o)=z:=⟨_,rfl⟩
 have t:Z3 (fun b=>b=o) X z:=by rw[←hz];exact Zp X ⟨o,0,none⟩ _
 have hgo:o<g:=oge h.own rfl
 have hgl:g<X.heap.size:=olt h.own rfl
 have ho1:=h.ho
 have hw1:=h.hw
 have ct:∀ {j:Nat} {u:Value},j≠0→X.cell? ⟨o,j,none⟩=some u→z.cell? ⟨o,j,none⟩=some u:=fun {j u} hj hc=>by
  rw[←hz,World.cell?_setCell_other _ _ _ _ (by first | (simp;done) | (simp;exact fun e=>hj e))]
  exact hc
 have hdb:DtB z po n ds (List.replicate N false) F:=by
  refine h.db.tchS t fun b hb e=>?_
  have e':b=o:=e
  rcases hb with hb | ⟨d,hd,hb | hb | ⟨x,hx,_⟩⟩
  ·have:=h.hF b hb;omega
  ·have:=(h.em d hd).2.1;omega
  ·have:=(h.em d hd).2.2.1;omega
  ·rw[(h.em d hd).1] at hx;cases hx
 have hin:∀b,Z5z ds F b→b≠o∧b≠g∧b≠hb∧W.heap.size≤b:=fun b hb'=>by
  rcases hb' with hb' | ⟨d,hd,hb' | hb' | ⟨x,hx,_⟩⟩
  ·have:=h.hF b hb';exact⟨by omega,by omega,by omega,by omega⟩
  ·have k:=h.em d hd
   have k2:=k.2.1
   have k3:=(k.2.2.2 g rfl).1
   exact⟨by omega,fun e=>k3 (by omega),by omega,by omega⟩
  ·have k:=h.em d hd
   have k2:=k.2.2.1
   have k3:=(k.2.2.2 g rfl).2
   exact⟨by omega,fun e=>k3 (by omega),by omega,by omega⟩
  ·rw[(h.em d hd).1] at hx;cases hx
 have hem:∀d∈ds,d.l=[]:=fun d hd=>(h.em d hd).1
 rw[hz]
 refine⟨TbJ o g hb ds F,⟨g,cap,hb,po,ds,[],F,⟨by rw[←hz];exact World.cell?_setCell_same _ _ _ h.c0,ct (by decide) h.c1,ct (by decide) h.c2,ct (by decide) h.c3,ct (by decide) h.c4,ct (by decide) h.c5,ct (by decide) h.c6,ct (by decide) h.c7,fun i hi=>?_,lL0 hgl t.size,h.map.tch t (by show ¬hb=o;omega),hdb,fun e=>(hin _ e).1 rfl,fun e=>(hin _ e).2.1 rfl,fun e=>(hin _ e).2.2.1 rfl,by omega⟩,by rw[Zom hem],by rw[Zl6 hem,hl],rfl,Zjh S n N⟩,Yu h.nw t (fun k e=>by have e':k=o:=e;omega),fun b hb'=>?_⟩
 ·refine(t.cell hgl (by show ¬g=o;omega)).trans ?_
  obtain⟨a,c,e,q | ⟨b,o',rfl,hc⟩⟩:=Up.rd Zbd.len h.own
  ·have:=congrArg List.length q.1
   rw[List.length_map] at this
   simp at this
   rw[this] at hi
   simp at hi
  ·simp only[Value.slice.injEq,Option.some.injEq,Addr.mk.injEq,and_true] at e
   obtain⟨⟨rfl,rfl⟩,_⟩:=e
   have:=hc.cell i (by rw[List.length_map];exact hi) 0 (ptN ds[i].o) (by simp[Za4])
   simpa using this
 ·rcases hb' with e | e | e | e
  ·omega
  ·omega
  ·omega
  ·exact(hin b e).2.2.2
def Zmu(W:World)(S n N:Nat)(p:Int)(e:Ending)(W':World):Prop:=∃o J,e=.returned (.tuple #[ptN o,.int .i64 0])∧Tab W' o S n N 0 ⟨S,n,N,p⟩ (List.replicate S []) (List.replicate N false) J∧Nw W W'∧∀b,J b→W.heap.size≤b
theorem Zp2(S n N:Nat)(p:Int)(h:Z0v ⟨S,n,N,p⟩)(W:World):Calls prog 5 #[.agg #[.int .i64 S,.int .i64 n,.int .i64 N,.int .i64 p]] W (Zmu W S n N p):=by
 have hmm:=@run_makeMap prog
 obtain⟨⟨s1,s2⟩,⟨n1,n2⟩,⟨N1,N2⟩,_⟩:=id h
 simp only at s1 s2 n1 n2 N1 N2
 have HS:=hD0 (aI0 (show 1≤S∧S≤16 by omega) (aI0 (show 1≤n∧n≤64 by omega) (show N≤128 by omega)))
 have hPo:=Z2i ⟨S,n,N,p⟩
 rw[decide_eq_true h] at hPo
 have HPo:=hD0 hPo
 have hal:=Z2 W (.cells #[.int .i64 S,.int .i64 n,.int .i64 N,.int .i64 p] 28)
 obtain⟨z,hz⟩:∃z,W.alloc (.cells #[.int .i64 S,.int .i64 n,.int .i64 N,.int .i64 p] 28)=z:=⟨_,rfl⟩
 have g1:Nw W z:=by rw[←hz];exact(Nw.refl W).alloc _
 rw[hz] at hal
 have HZ:=hD0 hz
 have HG:=hD0 (aI0 g1 hal)
 have c0:=Z0 (j:=0) hal
 have c1:=Z0 (j:=1) hal
 have c2:=Z0 (j:=2) hal
 have c3:=Z0 (j:=3) hal
 have cl:=Z1 hal
 clear hz g1 hal s1 s2 n1 n2 N1 N2 h hPo
 go_enter func5,ntmps5
 go_wp2_with fail
 rw[HZ.out]
 obtain⟨cb,hcb⟩:∃cb,W.heap.size=cb:=⟨_,rfl⟩
 have HCb:=hD0 hcb
 rw[hcb] at c0 c1 c2 c3 cl ⊢
 clear hcb
 refine(HPo.out z).mono ?_
 rintro e z1 ⟨rfl,g1⟩
 have HG1:=hD0 (show Nw W z1∧z1.heap[cb]?=some (.cells #[.int .i64 S,.int .i64 n,.int .i64 N,.int .i64 p] 28) from⟨HG.out.1.trans g1,by rw[←HCb.out];exact g1.at' HG.out.2⟩)
 clear c0 c1 c2 c3 cl g1 HG
 have c0:=Z0 (j:=0) HG1.out.2
 have c1:=Z0 (j:=1) HG1.out.2
 have c2:=Z0 (j:=2) HG1.out.2
 have c3:=Z0 (j:=3) HG1.out.2
 have cl:=Z1 HG1.out.2
 go_wp2_with fail
 refine(Zim N HS.out.2.2 z1).mono ?_
 rintro e z2 ⟨po,F,rfl,hp,g2,hF⟩
 have HG2:=hD0 (show Nw W z2∧z2.heap[cb]?=some (.cells #[.int .i64 S,.int .i64 n,.int .i64 N,.int .i64 p] 28) from⟨HG1.out.1.trans g2,g2.at' HG1.out.2⟩)
 clear c0 c1 c2 c3 cl
 have c0:=Z0 (j:=0) HG2.out.2
 have c1:=Z0 (j:=1) HG2.out.2
 have c2:=Z0 (j:=2) HG2.out.2
 have c3:=Z0 (j:=3) HG2.out.2
 have cl:=Z1 HG2.out.2
 have HT:=hD0 (Zbv (C:=⟨S,n,N,p⟩) (n:=n) hp HG2.out.1 (fun k hk=>Nat.le_trans HG1.out.1.sz (hF k hk)) 69)
 clear hp g2 hF HG1
 go_wp2_with fail
 go_loopw [7,8,25] (fun _ _ i wr=>∃(j:Nat) (s0:Option Addr) (s1 s2:Nat) (ds:List DB),i=.int .i64 j∧j≤S∧Hid (Z4g W (z2.heap.size+1) z2.heap.size po n ⟨S,n,N,p⟩ (.slice s0 s1 s2) ds (List.replicate N false) F wr∧ds.length=j∧(s0=none→ds=[])∧wr.heap[cb]?=some (.cells #[.int .i64 S,.int .i64 n,.int .i64 N,.int .i64 p] 28))) (fun _ _ i _=>S-(intOf i).toNat)
 case atStart=>exact⟨0,none,0,0,[],rfl,Nat.zero_le _,HT.out,rfl,fun _=>rfl,(((Nw.refl z2).alloc _).alloc _).at' HG2.out.2⟩
 case round =>
  obtain⟨j,s0,s1',s2',ds,rfl,hj,HI⟩:=hrel
  by_cases hjl:j<S
  ·have hnt:=HI.out.1
   have HNw:=hD0 (Zqp hnt.db.pol n HS.out.2.1.1 HS.out.2.1.2)
   have c1:=Z0 (j:=1) HI.out.2.2.2
   have cl:=Z1 HI.out.2.2.2
   have hji:(j:Int)<(S:Int):=by omega
   have hwj:wrap64 ((j:Int)+1)=(j:Int)+1:=by have:=HS.out.1.2;unfold wrap64;omega
   clear hnt c0 c2 c3
   go_wp2_with fail
   refine HNw.out.mono ?_
   rintro e w2 ⟨B,mb,rfl,hB,g2,hBo,hBm⟩
   have hnt:=HI.out.1.step g2
   have hor:=World.block_lt_of_cell? _ _ HI.out.1.c0
   simp only at hor
   obtain⟨g,cap,w3,hrun,hst,hnx,hbk⟩:=hnt.push (by have:=HI.out.2.1;have:=HS.out.1.2;omega) hB (by omega) (by omega) (fun d hd=>by have:=(HI.out.1.db.db d hd).map.lt;omega) (fun b e=>by have:=olt HI.out.1.own e;exact⟨by omega,by omega⟩)
   have HR:=hD0 hrun
   have c6:=hnt.c6
   have hol2:=World.block_lt_of_cell? _ _ hnt.c0
   simp only at hol2
   obtain⟨t1,t2,t3⟩:=hst
   have hcl:=Z1 HG2.out.2
   have HI3:=hD0 (show Z4g W (z2.heap.size+1) z2.heap.size po n ⟨S,n,N,p⟩ (.slice (some ⟨g,0,none⟩) (ds.length+1) cap) (ds++[⟨B,mb,[]⟩]) (List.replicate N false) F (w3.setCell ⟨z2.heap.size+1,6,none⟩ (.slice (some ⟨g,0,none⟩) (ds.length+1) cap))∧(ds++[(⟨B,mb,[]⟩:DB)]).length=j+1∧(some (⟨g,0,none⟩:Addr)=none→ds++[(⟨B,mb,[]⟩:DB)]=[])∧(w3.setCell ⟨z2.heap.size+1,6,none⟩ (.slice (some ⟨g,0,none⟩) (ds.length+1) cap)).heap[cb]?=some (.cells #[.int .i64 S,.int .i64 n,.int .i64 N,.int .i64 p] 28) from
    ⟨hnx,by rw[List.length_append,HI.out.2.1];rfl,(fun e=>by cases e),(hbk cb (by omega)).trans (g2.at' HI.out.2.2.2)⟩)
   clear hrun hnx hnt hB hBo hBm hor HNw HI hbk hcl
   go_wp2_with (at_builtin;refine Z2s (by rfl) (.tmp 38) (.tmp 40) 67 rfl _ _ _ _ (by first | rfl | simp[Act.eval, *]) (by first | rfl | simp[Act.eval, *]) HR.out ?_)
   go_roundw
   case rel=>exact⟨j+1,_,_,_,_,congrArg (Value.int .i64) (by first | exact nxU j | exact hwj.trans (nxU j)),hjl,HI3⟩
   case measure=>first | exact Ub S j hjl | (rw[hwj];exact Ub S j hjl)
  ·obtain rfl:j=S:=by omega
   have hnt:=HI.out.1
   have hlen:=HI.out.2.1
   obtain⟨g,rfl⟩:∃g,s0=some ⟨g,0,none⟩:=by
    rcases V4 hnt.own with⟨e,q⟩ | ⟨g,cap,e⟩
    ·rw[List.length_map] at q
     have:=HS.out.1.1
     omega
    ·simp only[Value.slice.injEq] at e
     exact⟨g,e.1⟩
   have hs1:s1'=ds.length:=by
    obtain⟨a,c,e,_⟩:=Up.rd Zbd.len hnt.own
    simp only[Value.slice.injEq,List.length_map] at e
    exact e.2.1
   rw[hs1] at hnt
   obtain⟨J,hJ1,hJ2,hJ3⟩:=hnt.done hlen
   have HE:=hD0 (show Zmu W j n N p (.returned (.tuple #[ptN (z2.heap.size+1),.int .i64 0])) _ from⟨_,J,rfl,hJ1,hJ2,hJ3⟩)
   have c0:=hnt.c0
   have fz0:=hnt.fz 0
   have hol:=World.block_lt_of_cell? _ _ hnt.c0
   simp only at hol
   clear hnt hJ1 hJ2 hJ3 HI HT
   go_wp2
   exact bodyPost_ret (v:=.tuple #[ptN (z2.heap.size+1),.int .i64 0]) (by simp[results,results5,go_sem, *]) rfl HE.out
theorem Z9z(C:Cps)(h:¬Z0v C)(W:World):Calls prog 5 #[Zkc C] W fun e W'=>e=.returned (.tuple #[.pointer none,.int .i64 2])∧Nw W W':=by
 have hPo:=Z2i C
 rw[decide_eq_false h] at hPo
 have HPo:=hD0 hPo
 obtain⟨a,b,c,d⟩:=C
 have hal:=Z2 W (.cells #[.int .i64 a,.int .i64 b,.int .i64 c,.int .i64 d] 28)
 obtain⟨z,hz⟩:∃z,W.alloc (.cells #[.int .i64 a,.int .i64 b,.int .i64 c,.int .i64 d] 28)=z:=⟨_,rfl⟩
 have g1:Nw W z:=by rw[←hz];exact(Nw.refl W).alloc _
 rw[hz] at hal
 have HZ:=hD0 hz
 have HG:=hD0 g1
 have c0:=Z0 (j:=0) hal
 have c1:=Z0 (j:=1) hal
 have c2:=Z0 (j:=2) hal
 have c3:=Z0 (j:=3) hal
 have cl:=Z1 hal
 clear hz g1 hal h hPo
 go_enter func5,ntmps5
 go_wp2_with fail
 rw[HZ.out]
 refine(HPo.out z).mono ?_
 rintro e z1 ⟨rfl,g1⟩
 have HE:=hD0 (HG.out.trans g1)
 clear g1 HG
 go_wp2
 exact bodyPost_ret (v:=.tuple #[.pointer none,.int .i64 2]) (by simp[results,results5,go_sem, *]) rfl ⟨rfl,HE.out⟩
end Go.Proofs.YtfepoibfbmehiaaGreatDoor
namespace Go.Proofs
open _root_.Go.Proofs.Tryz
open Go.Shelf
def Tryz.sortL_ren:Go.Shelf.Ren:=⟨fun | 6=>66 | 15=>75 | 14=>93 | 28=>106 | 29=>107 | 20=>123 | 21=>124 | 22=>125 | 23=>126 | 24=>127 | 25=>128 | 26=>129 | 27=>130 | 46=>147 | 47=>135 | 48=>136 | 49=>148 | 50=>149 | 57=>157 | n=>n,fun | 22=>55 | 24=>54 | 25=>118 | 3=>3 | 39=>124 | 0=>0 | 53=>120 | 55=>160 | 4=>4 | 46=>153 | 45=>152 | 50=>48 | 5=>5 | 9=>9 | 66=>188 | 70=>192 | 76=>203 | 77=>46 | n=>n,fun | n=>n⟩
theorem Tryz.sortL:Go.Proofs.SlLaysF0.n6 prog Tryz.sortL_ren:={
 mixed:=by kernel_rfl
 f6:=⟨Tryz.f66.name,by decide,func66.trans (congrArg some (by kernel_rfl))⟩
 f14:=⟨Tryz.f93.name,by decide,func93.trans (congrArg some (by kernel_rfl))⟩
 f15:=func75.trans (congrArg some (by kernel_rfl))
 f20:=⟨Tryz.f123.name,by decide,func123.trans (congrArg some (by kernel_rfl))⟩
 f21:=⟨Tryz.f124.name,by decide,func124.trans (congrArg some (by kernel_rfl))⟩
 f22:=⟨Tryz.f125.name,by decide,func125.trans (congrArg some (by kernel_rfl))⟩
 f23:=⟨Tryz.f126.name,by decide,func126.trans (congrArg some (by kernel_rfl))⟩
 f24:=⟨Tryz.f127.name,by decide,func127.trans (congrArg some (by kernel_rfl))⟩
 f25:=⟨Tryz.f128.name,by decide,func128.trans (congrArg some (by kernel_rfl))⟩
 f26:=⟨Tryz.f129.name,by decide,func129.trans (congrArg some (by kernel_rfl))⟩
 f27:=⟨Tryz.f130.name,by decide,func130.trans (congrArg some (by kernel_rfl))⟩
 f28:=func106.trans (congrArg some (by kernel_rfl))
 f29:=func107.trans (congrArg some (by kernel_rfl))
 f46:=⟨Tryz.f147.name,by decide,func147.trans (congrArg some (by kernel_rfl))⟩
 f47:=func135.trans (congrArg some (by kernel_rfl))
 f48:=func136.trans (congrArg some (by kernel_rfl))
 f49:=⟨Tryz.f148.name,by decide,func148.trans (congrArg some (by kernel_rfl))⟩
 f50:=⟨Tryz.f149.name,by decide,func149.trans (congrArg some (by kernel_rfl))⟩
 f57:=⟨Tryz.f157.name,by decide,func157.trans (congrArg some (by kernel_rfl))⟩
 t0:=underlying0
 a0:=Tryz.isAgg0
 z0:=Tryz.sizeOf0
 v0:=Tryz.zeroValue0
 t3:=underlying3
 a3:=Tryz.isAgg3
 z3:=Tryz.sizeOf3
 v3:=Tryz.zeroValue3
 t4:=underlying4
 a4:=Tryz.isAgg4
 z4:=Tryz.sizeOf4
 v4:=Tryz.zeroValue4
 t5:=underlying5
 a5:=Tryz.isAgg5
 z5:=Tryz.sizeOf5
 v5:=Tryz.zeroValue5
 t9:=underlying9
 a9:=Tryz.isAgg9
 z9:=Tryz.sizeOf9
 v9:=Tryz.zeroValue9
 t22:=underlying55
 a22:=Tryz.isAgg55
 z22:=Tryz.sizeOf55
 v22:=Tryz.zeroValue55
 t25:=underlying118
 a25:=Tryz.isAgg118
 z25:=Tryz.sizeOf118
 v25:=Tryz.zeroValue118
 t39:=underlying124
 a39:=Tryz.isAgg124
 z39:=Tryz.sizeOf124
 v39:=Tryz.zeroValue124
 t45:=underlying152
 a45:=Tryz.isAgg152
 z45:=Tryz.sizeOf152
 v45:=Tryz.zeroValue152
 t46:=underlying153
 a46:=Tryz.isAgg153
 z46:=Tryz.sizeOf153
 v46:=Tryz.zeroValue153
 t50:=underlying48
 a50:=Tryz.isAgg48
 z50:=Tryz.sizeOf48
 v50:=Tryz.zeroValue48
 t53:=underlying120
 a53:=Tryz.isAgg120
 z53:=Tryz.sizeOf120
 v53:=Tryz.zeroValue120
 t55:=underlying160
 a55:=Tryz.isAgg160
 z55:=Tryz.sizeOf160
 v55:=Tryz.zeroValue160
 t66:=underlying188
 a66:=Tryz.isAgg188
 z66:=Tryz.sizeOf188
 v66:=Tryz.zeroValue188
 t70:=underlying192
 a70:=Tryz.isAgg192
 z70:=Tryz.sizeOf192
 v70:=Tryz.zeroValue192
 t76:=underlying203
 a76:=Tryz.isAgg203
 z76:=Tryz.sizeOf203
 v76:=Tryz.zeroValue203
 t77:=underlying46
 a77:=Tryz.isAgg46
 z77:=Tryz.sizeOf46
 v77:=Tryz.zeroValue46 }
end Go.Proofs
namespace Go.Proofs.YtfepoibfbmehiaaGreatDoor
open Go.RowKit _root_.Go.Proofs.Tryz Go.Shelf
end Go.Proofs.YtfepoibfbmehiaaGreatDoor
