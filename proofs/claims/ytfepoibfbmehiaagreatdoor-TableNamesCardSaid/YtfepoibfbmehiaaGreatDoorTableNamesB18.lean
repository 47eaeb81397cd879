/- Texts merged: TbV, QvT, TbX, TbW, TeA -/
import Derived.Test.YtfepoibfbmehiaaGreatDoorTableNamesB17
import Derived.ChangeOld
import Derived.Below
import Derived.Deep.Slices
import Derived.Deep.Fields
import Derived.ChangeSame
set_option linter.unusedVariables false
set_option maxRecDepth 100000
set_option maxHeartbeats 16000000
namespace Go.Proofs.YtfepoibfbmehiaaGreatDoor
open Go.RowKit _root_.Go.Proofs.Tryz
section
open Go.RowKit Go.Sort Go.Shelf
abbrev Zjy(w:World)(x t r x' t' r':Int)(a:World):Prop:=(a.cell? ⟨w.heap.size,0,none⟩=some (.int .i64 x)∧a.cell? ⟨w.heap.size,1,none⟩=some (.int .i64 t)∧a.cell? ⟨w.heap.size,2,none⟩=some (.int .i64 r)∧a.cell? ⟨w.heap.size+1,0,none⟩=some (.int .i64 x')∧a.cell? ⟨w.heap.size+1,1,none⟩=some (.int .i64 t')∧a.cell? ⟨w.heap.size+1,2,none⟩=some (.int .i64 r'))∧w.heap.size+1<a.heap.size∧GG w a
theorem Zc8(w:World)(x t r m x' t' r' m':Int)(ty:TypeId):Zjy w x t r x' t' r' (((w.alloc (.cells #[.int .i64 x,.int .i64 t,.int .i64 r,.int .i64 m] ty)).alloc (.cells #[.int .i64 x',.int .i64 t',.int .i64 r',.int .i64 m'] ty)).drew):=by
 have h1:=Z2 w (.cells #[.int .i64 x,.int .i64 t,.int .i64 r,.int .i64 m] ty)
 have hz:(w.alloc (.cells #[.int .i64 x,.int .i64 t,.int .i64 r,.int .i64 m] ty)).heap.size=w.heap.size+1:=by simp
 have h2:=Z2 (w.alloc (.cells #[.int .i64 x,.int .i64 t,.int .i64 r,.int .i64 m] ty)) (.cells #[.int .i64 x',.int .i64 t',.int .i64 r',.int .i64 m'] ty)
 have h3:=((Nw.refl (w.alloc (.cells #[.int .i64 x,.int .i64 t,.int .i64 r,.int .i64 m] ty))).alloc (.cells #[.int .i64 x',.int .i64 t',.int .i64 r',.int .i64 m'] ty)).at' h1
 rw[hz] at h2
 exact⟨⟨Z0 (j:=0) h3,Z0 (j:=1) h3,Z0 (j:=2) h3,Z0 (j:=0) h2,Z0 (j:=1) h2,Z0 (j:=2) h2⟩,Z1 h2,(((GG.refl w).alloc _).alloc _).drew⟩
theorem Z3b{w a b:World}{x t r x' t' r':Int}(g:GG a b)(h:Zjy w x t r x' t' r' a):Zjy w x t r x' t' r' b:=by
 obtain⟨⟨h0,h1,h2,h3,h4,h5⟩,hs,hn⟩:=h
 exact⟨⟨g.nw.kp h0,g.nw.kp h1,g.nw.kp h2,g.nw.kp h3,g.nw.kp h4,g.nw.kp h5⟩,lL0 hs g.nw.sz,hn.trans g⟩
theorem Z9h(x y:Hl)(w:World):Calls prog 67 #[.agg (Z1n x).toArray,.agg (Z1n y).toArray] w fun e w'=>e=.returned (.int .i64 (Z1m x y))∧GG w w':=by
 obtain⟨x,t,r,m⟩:=x
 obtain⟨x',t',r',m'⟩:=y
 simp only[Z1n,Z1m,Uh]
 go_enter func67,ntmps67
 go_wp2
 go_region_held3 (fun w'=>Zjy w x t r x' t' r' w') (first | assumption | exact Zc8 w x t r m x' t' r' m' _ | exact Z3b (by assumption) (by assumption) | exact Z3b ((GG.refl _).alloc _) (by assumption) | exact Z3b (GG.refl _).drew (by assumption))
  (first | (go_at_call 69;refine(Z4p _ _ _).mono ?_;rintro e w' ⟨rfl,rfl⟩) | (go_at_call 46;refine(Z2p t r t' r' _).mono ?_;rintro e w' ⟨rfl,gg⟩) | (go_at_call 68;refine(Zpc _ (cP x x') (orP (cP t t') (cP r r')) _ (by simp[go_sem]) (by simp[go_sem])).mono ?_;rintro e w' ⟨rfl,rfl⟩))
 all_goals
  rename_i hS
  go_wp2
  go_ret
  exact⟨rfl,hS.2.2⟩
theorem Zo5:∀args w,(callFunc 67 args).run prog w=.ok (.enter 67 args) w:=enters_of func67 (by kernel_rfl) rfl
def Z08(W:World)(l:List Hl)(e:Ending)(W':World):Prop:=∃v,e=.returned v∧Z1i W' W.heap.size v l∧Nw W W'
structure HlI(w1:World)(pb:Nat)(hc:Array Value)(v:Value)(l:List Hl)(y:World):Prop where
 own:Z1i y w1.heap.size v l
 nw:Nw w1 y
 off:v.ownBlock≠some pb
 box:y.heap[pb]?=some (.cells hc 83)
theorem HlI.step{w1 y y':World}{pb:Nat}{hc:Array Value}{v:Value}{l:List Hl}(h:HlI w1 pb hc v l y)(g:Nw y y'):HlI w1 pb hc v l y':=⟨onw h.own g,h.nw.trans g,h.off,g.at' h.box⟩
theorem HlI.push{w1 y:World}{pb:Nat}{hc:Array Value}{v:Value}{l:List Hl}(h:HlI w1 pb hc v l y)(x t r m:Int)(hl:l.length<100000) :
  ∃s0 s1 s2 w3,(Builtin.append_ #[55,55] 55 #[v,.slice (some ⟨y.heap.size,0,none⟩) 1 1]).run prog (y.alloc (.cells #[.int .i64 x,.int .i64 t,.int .i64 r,.int .i64 m] 54))=.ok (.slice s0 s1 s2) w3∧HlI w1 pb hc (.slice s0 s1 s2) (l++[⟨x,t,r,m⟩]) w3:=by
 have hal:=Z2 y (.cells #[.int .i64 x,.int .i64 t,.int .i64 r,.int .i64 m] 54)
 have g0:Nw y (y.alloc (.cells #[.int .i64 x,.int .i64 t,.int .i64 r,.int .i64 m] 54)):=(Nw.refl y).alloc _
 obtain⟨z,hz⟩:∃z,y.alloc (.cells #[.int .i64 x,.int .i64 t,.int .i64 r,.int .i64 m] 54)=z:=⟨_,rfl⟩
 rw[hz] at hal g0
 rw[hz]
 have hs:=h.step g0
 have hpl:=Z1 h.box
 obtain⟨v',w3,hr,hO,hg,hp,g,cap,rfl⟩:=Up.push Z4w hs.own ⟨x,t,r,m⟩ y.heap.size 1 (fun j u hu=>by
  rw[Z0 hal]
  simpa [Z1n] using hu) hl hs.nw.sz
 refine⟨_,_,_,w3,hr,hO,hs.nw.gro hg (fun k hk=>oge hs.own hk),fun e=>?_,?_⟩
 ·rcases hp with q | q
  ·exact h.off (q▸e)
  ·rw[q] at e
   have e':z.heap.size=pb:=Option.some.inj e
   have:=g0.sz
   omega
 ·rw[hg.block pb (by have:=g0.sz;omega) (fun e=>h.off e.symm)]
  exact hs.box
def heF(f:Rq→Bool)(h:Hq)(q:List Rq):List Hl:=(q.filter fun r=>!(r.md==0)&&f r).map fun r=>⟨r.txn,h.t,h.r,r.md⟩
theorem Ze9{f:Rq→Bool}{s:List Hq}{i:Nat}(hi:i<s.length):U3 f (s.take (i+1))=U3 f (s.take i)++heF f s[i] s[i].q:=by
 unfold U3
 rw[List.take_succ_eq_append_getElem hi,List.flatMap_append]
 simp[heF]
theorem Zha{f:Rq→Bool}{h:Hq}{q:List Rq}{j:Nat}(hj:j<q.length):heF f h (q.take (j+1))=heF f h (q.take j)++(if (!(q[j].md==0)&&f q[j])=true then[⟨q[j].txn,h.t,h.r,q[j].md⟩] else[]):=by
 unfold heF
 rw[List.take_succ_eq_append_getElem hj,List.filter_append,List.map_append]
 congr 1
 by_cases e:(!(q[j].md==0)&&f q[j])=true
 ·rw[if_pos e,List.filter_cons,if_pos e];rfl
 ·rw[if_neg e,List.filter_cons,if_neg e];rfl
theorem Zj5(s:List Hq)(j:Nat):((s.take j).map fun h=>h.q.length).sum≤(s.map fun h=>h.q.length).sum:=by
 conv=>rhs;rw[←List.take_append_drop j s,List.map_append,List.sum_append]
 exact Nat.le_add_right _ _
theorem Zgz(hss:List (List Hq)):(hss.flatten.map fun h=>h.q.length).sum=(hss.map fun hs=>(hs.map fun x=>x.q.length).sum).sum:=by
 induction hss with
 | nil=>rfl
 | cons a t ih=>rw[List.flatten_cons,List.map_append,List.sum_append,ih];rfl
theorem Tab.len128{W:World}{o S n N k:Nat}{C:Cps}{hss:List (List Hq)}{L:List Bool}{J:Nat→Prop}(h:Tab W o S n N k C hss L J):L.length≤128:=by
 obtain⟨bb,cp,hb,po,ds,hv,F,hm,_⟩:=h
 exact hm.db.pol.sz
theorem Z8z{f:Rq→Bool}{s:List Hq}{M:Nat}(h:(s.map fun h=>h.q.length).sum≤M):(U3 f s).length≤M:=by
 refine Nat.le_trans ?_ h
 unfold U3
 induction s with
 | nil=>simp
 | cons a t ih =>
  simp only[List.flatMap_cons,List.length_append,List.map_cons,List.sum_cons,List.length_map]
  have h1:=List.length_filter_le (fun r=>!(r.md==0)&&f r) a.q
  simp only[List.map_cons,List.sum_cons] at h
  have:=ih (by omega)
  omega
section
variable {W:World} {o S n N k:Nat} {C:Cps} {hss:List (List Hq)} {L:List Bool} {J:Nat→Prop}
theorem Zhd(h:Tab W o S n N k C hss L J)(hS:S≤16)(hn:n≤64)(fn:Nat)(cb:Array Value)(f:Rq→Bool)(eg:∀args w,(callFunc fn args).run prog w=.ok (.enter fn args) w)
  (hF:∀y,Nw W y→∀r:Rq,Calls prog fn (#[rqV r]++cb) y fun e y'=>e=.returned (.bool (f r))∧Nw y y') (l:List Hl) (hl:∀l':List Hl,l'.Perm (U3 f hss.flatten)→(l'.Pairwise fun a b=>ltOf Z1m b a=false)→l'=l) :
  Calls prog 40 #[.pointer (some ⟨o,0,none⟩),.func (.func fn) #[] cb] W (Z08 W l):=by
 have HH:=hD0 (Zan h hS hn)
 have hlen:hss.flatten.length≤1024:=by
  have:=Z16 (fun l hl=>Nat.le_trans (h.ok.inv.part l hl).len hn) (by rw[h.ok.sl];exact hS) hss.length
  rwa [List.take_length] at this
 have HQ:Hid ((hss.flatten.map fun h=>h.q.length).sum≤50000):=hD0 (by
  rw[Zgz,h.ok.inv.count]
  have h1:liv L≤L.length:=List.countP_le_length
  have h2:=h.len128
  omega)
 have HF:=hD0 hF
 have HL:=hD0 hl
 clear h hF hl
 go_enter func40,ntmps40
 go_wp2_with fail
 refine HH.out.mono ?_
 rintro e w1 ⟨v,rfl,hh,g1⟩
 obtain⟨lm,h1,h2,h3⟩:=hh
 have HX:=hD0 (aI0 h1 (aI0 h2 (aI0 h3 g1)))
 obtain⟨va,vc,rfl,hrd⟩:=Up.rd Z1t.len h1
 have HB:=hD0 (show lm.length≤1024 by rw[←h2,List.length_map] at hlen;exact hlen)
 clear hlen
 have HRd:=hD0 hrd
 clear h1 h2 h3 g1 hrd HH
 go_wp2_with fail
 go_loopw [5,7,9,13] (fun vi _ _ i wr=>∃(j:Nat) (s0:Option Addr) (s1 s2:Nat),vi=.slice s0 s1 s2∧i=.int .i64 j∧j≤lm.length∧Hid (Z1i wr w1.heap.size (.slice s0 s1 s2) (U3 f (hss.flatten.take j))∧Nw w1 wr)) (fun _ _ _ i _=>lm.length-(intOf i).toNat)
 case atStart=>exact⟨0,none,0,0,rfl,rfl,Nat.zero_le _,World.ownsRow_nil _ _ _ _,Nw.refl _⟩
 case round =>
  obtain⟨j,s0,s1,s2,rfl,rfl,hj,HI⟩:=hrel
  by_cases hjl:j<lm.length
  ·rcases HRd.out with⟨q,_⟩ | ⟨b,ob,rfl,hc⟩
   ·rw[q] at hjl;simp at hjl
   have hce:=(hc.nw HI.out.2).cell j hjl
   have hok:=HX.out.2.2.1 _ (gM0 hjl)
   have hjs:j<hss.flatten.length:=by rw[←HX.out.2.1,List.length_map];exact hjl
   have hhe:hss.flatten[j]=lm[j].h:=by
    have:(lm.map Hm.h)[j]'(by rw[List.length_map];exact hjl)=hss.flatten[j]:=by congr 1;exact HX.out.2.1
    rw[←this,List.getElem_map]
   have hent:=Ze9 (f:=f) hjs
   rw[hhe] at hent
   have hji:(j:Int)<(lm.length:Int):=by omega
   have hwj:wrap64 ((j:Int)+1)=(j:Int)+1:=by have:=HB.out;unfold wrap64;omega
   clear hc
   generalize lm[j]=x at *
   obtain⟨⟨xt,xr,xW,q⟩,xa,xc⟩:=x
   have c0:=hce 0 _ rfl
   have c1:=hce 1 _ rfl
   have c2:=hce 2 _ rfl
   have c3:=hce 3 _ rfl
   simp only[Nat.add_zero] at c0 c1 c2 c3
   obtain⟨ql,hql⟩:∃ql,q.length=ql:=⟨_,rfl⟩
   rw[hql] at c2
   have hbl:=World.block_lt_of_cell? _ _ c0
   simp only at hbl
   have hbx:=Z2 wr (.cells #[.int .i64 xt,.int .i64 xr,.slice xa ql xc,.int .i64 xW] 83)
   have gbx:Nw wr (wr.alloc (.cells #[.int .i64 xt,.int .i64 xr,.slice xa ql xc,.int .i64 xW] 83)):=(Nw.refl wr).alloc _
   obtain⟨z,hz⟩:∃z,wr.alloc (.cells #[.int .i64 xt,.int .i64 xr,.slice xa ql xc,.int .i64 xW] 83)=z:=⟨_,rfl⟩
   rw[hz] at hbx gbx
   have HZ:=hD0 hz
   have HI2:=hD0 (show HlI w1 wr.heap.size #[.int .i64 xt,.int .i64 xr,.slice xa ql xc,.int .i64 xW] (.slice s0 s1 s2) (U3 f (hss.flatten.take j)) z from⟨onw HI.out.1 gbx,HI.out.2.trans gbx,fun e=>by have:=olt HI.out.1 e;omega,hbx⟩)
   have HK:=hD0 (aI0 hok (aI0 hent hql))
   have hM:((hss.flatten.take j).map fun h=>h.q.length).sum≤50000:=Nat.le_trans (Zj5 _ j) HQ.out
   have HM:=hD0 hM
   clear hce hok hent hhe hz gbx hbx hjs hM
   go_upto_region 5 with fail
   rw[HZ.out]
   obtain⟨pb,hpb⟩:∃pb,wr.heap.size=pb:=⟨_,rfl⟩
   rw[hpb] at HI2 ⊢
   have b2:=Z0 (j:=2) HI2.out.box
   have bl:=Z1 HI2.out.box
   clear hpb c0 c1 c2 c3 hbl HZ
   go_wp2_with fail
   go_loopw [5,9,20] (fun vi _ kk y=>∃(m:Nat) (s0:Option Addr) (s1 s2:Nat),vi=.slice s0 s1 s2∧kk=.int .i64 m∧m≤ql∧Hid (HlI w1 pb #[.int .i64 xt,.int .i64 xr,.slice xa ql xc,.int .i64 xW] (.slice s0 s1 s2) (U3 f (hss.flatten.take j)++heF f ⟨xt,xr,xW,q⟩ (q.take m)) y)) (fun _ _ kk _=>ql-(intOf kk).toNat)
   case atStart=>exact⟨0,_,_,_,rfl,rfl,Nat.zero_le _,(show Hid (HlI w1 pb _ _ _ z) from((List.append_nil _).symm▸HI2.out:HlI w1 pb _ _ (U3 f (hss.flatten.take j)++[]) z))⟩
   case round =>
    clear HI2 b2 bl HI
    obtain⟨m,r0,r1,r2,rfl,rfl,hm,HJ⟩:=hrel
    by_cases hml:m<ql
    ·have hmq:m<q.length:=by rw[HK.out.2.2];exact hml
     obtain⟨a',c',e,⟨q0,_⟩ | ⟨qb,qo,e2,hcq⟩⟩:=HK.out.1.rd
     ·simp only at q0;rw[q0] at hmq;simp at hmq
     unfold hmV at e
     subst e2
     simp only[Value.slice.injEq] at e
     obtain⟨rfl,_,rfl⟩:=e
     have hcr:=(hcq.nw HJ.out.nw).cell m hmq
     have hen:=Zha (f:=f) (h:=⟨xt,xr,xW,q⟩) hmq
     simp only at hen hcr
     generalize q[m]=R at *
     obtain⟨i0,i1,i2,i3,i4⟩:=R
     have c0:=hcr 0 _ rfl
     have c1:=hcr 1 _ rfl
     have c2:=hcr 2 _ rfl
     have c3:=hcr 3 _ rfl
     have c4:=hcr 4 _ rfl
     simp only[Nat.add_zero] at c0 c1 c2 c3 c4
     have cl:=World.block_lt_of_cell? _ _ c0
     simp only at cl
     have hmi:(m:Int)<(ql:Int):=by omega
     have hwm:wrap64 ((m:Int)+1)=(m:Int)+1:=by have h7:=HK.out.1.len;have h8:=HK.out.2.2;simp only at h7;unfold wrap64;omega
     have hbx:=Z2 wr (.cells #[.int .i64 i0,.int .i64 i1,.int .i64 i2,.int .i64 i3,.int .i64 i4] 43)
     have gbx:Nw wr (wr.alloc (.cells #[.int .i64 i0,.int .i64 i1,.int .i64 i2,.int .i64 i3,.int .i64 i4] 43)):=(Nw.refl wr).alloc _
     obtain⟨z,hz⟩:∃z,wr.alloc (.cells #[.int .i64 i0,.int .i64 i1,.int .i64 i2,.int .i64 i3,.int .i64 i4] 43)=z:=⟨_,rfl⟩
     rw[hz] at hbx gbx
     have HZ:=hD0 hz
     have HJ2:=hD0 (HJ.out.step gbx)
     have HEn:=hD0 hen
     obtain⟨rb,hrb⟩:∃rb,wr.heap.size=rb:=⟨_,rfl⟩
     rw[hrb] at hbx
     have HRb:=hD0 hrb
     clear hz gbx hcq hcr hen hrb HJ
     go_upto_region 8 with fail
     rw[HZ.out,HRb.out]
     have d1:=Z0 (j:=1) hbx
     have d0:=Z0 (j:=0) hbx
     have d2:=Z0 (j:=2) hbx
     have d3:=Z0 (j:=3) hbx
     have d4:=Z0 (j:=4) hbx
     have dl:=Z1 hbx
     clear c0 c1 c2 c3 c4 cl HZ HRb
     have hsml:(U3 f (hss.flatten.take j)++heF f ⟨xt,xr,xW,q⟩ (q.take m)).length<100000:=by
      rw[List.length_append]
      have e1:=Z8z (f:=f) (s:=hss.flatten.take j) (M:=50000) HM.out
      have e2:(heF f ⟨xt,xr,xW,q⟩ (q.take m)).length≤1000:=by
       unfold heF
       rw[List.length_map]
       refine Nat.le_trans (List.length_filter_le _ _) ?_
       have h7:=HK.out.1.len
       simp only at h7
       rw[List.length_take]
       omega
      omega
     have HSm:=hD0 hsml
     clear hsml
     by_cases hm0:i2=0
     ·subst hm0
      have HE:=hD0 (show HlI w1 pb _ (.slice r0 r1 r2) (U3 f (hss.flatten.take j)++heF f ⟨xt,xr,xW,q⟩ (q.take (m+1))) z from by
       rw[HEn.out,if_neg (by simp),List.append_nil]
       exact HJ2.out)
      clear HJ2 HEn
      go_wp2_with fail
      go_roundw
      case rel=>exact⟨m+1,_,_,_,rfl,congrArg (Value.int .i64) (by first | exact nxU m | exact hwm.trans (nxU m)),hml,HE⟩
      case measure=>first | exact Ub ql m hml | (rw[hwm];exact Ub ql m hml)
     ·have dm:(i2 != 0)=true:=by simpa using hm0
      have hfr:=HF.out z (HX.out.2.2.2.trans HJ2.out.nw) ⟨i0,i1,i2,i3,i4⟩
      obtain⟨fv,hfv⟩:∃fv,f ⟨i0,i1,i2,i3,i4⟩=fv:=⟨_,rfl⟩
      rw[hfv] at hfr
      unfold rqV at hfr
      have HFr:=hD0 hfr
      have HFv:=hD0 hfv
      have HM0:=hD0 hm0
      clear hfr hfv hm0
      go_wp2_with fail
      refine HFr.out.mono ?_
      rintro e z2 ⟨rfl,g2⟩
      have HJ3:=hD0 (HJ2.out.step g2)
      have hbx3:=g2.at' hbx
      have hbh:=HJ3.out.box
      have d1:=Z0 (j:=1) hbx3
      have d2:=Z0 (j:=2) hbx3
      have dl:=Z1 hbx3
      have n0:=Z0 (j:=0) hbh
      have n1:=Z0 (j:=1) hbh
      have nl:=Z1 hbh
      clear d0 d3 d4 HJ2 HFr g2 hbx3 hbh hbx
      cases fv
      ·have HE:=hD0 (show HlI w1 pb _ (.slice r0 r1 r2) (U3 f (hss.flatten.take j)++heF f ⟨xt,xr,xW,q⟩ (q.take (m+1))) z2 from by
        rw[HEn.out,HFv.out,if_neg (by simp),List.append_nil]
        exact HJ3.out)
       clear HJ3 HEn
       go_wp2_with fail
       go_roundw
       case rel=>exact⟨m+1,_,_,_,rfl,congrArg (Value.int .i64) (by first | exact nxU m | exact hwm.trans (nxU m)),hml,HE⟩
       case measure=>first | exact Ub ql m hml | (rw[hwm];exact Ub ql m hml)
      ·obtain⟨t0,t1,t2,w3,hrun,hnx⟩:=HJ3.out.push i1 xt xr i2 HSm.out
       have HE:=hD0 (show HlI w1 pb _ (.slice t0 t1 t2) (U3 f (hss.flatten.take j)++heF f ⟨xt,xr,xW,q⟩ (q.take (m+1))) w3 from by
        rw[HEn.out,HFv.out,if_pos (by simp[HM0.out]),←List.append_assoc]
        exact hnx)
       have HR:=hD0 hrun
       clear HJ3 HEn hrun hnx
       go_wp2_with (at_builtin;refine Z2s (by rfl) (.tmp 32) (.tmp 40) 55 rfl _ _ _ _ (by first | rfl | simp[Act.eval, *]) (by first | rfl | simp[Act.eval, *]) HR.out ?_)
       go_roundw
       case rel=>exact⟨m+1,_,_,_,rfl,congrArg (Value.int .i64) (by first | exact nxU m | exact hwm.trans (nxU m)),hml,HE⟩
       case measure=>first | exact Ub ql m hml | (rw[hwm];exact Ub ql m hml)
    ·obtain rfl:m=ql:=by omega
     have HE:=hD0 (show Z1i wr w1.heap.size (.slice r0 r1 r2) (U3 f (hss.flatten.take (j+1)))∧Nw w1 wr from⟨by
      rw[HK.out.2.1]
      have e:q.take m=q:=by rw[←HK.out.2.2,List.take_length]
      have:=HJ.out.own
      rw[e] at this
      exact this,HJ.out.nw⟩)
     clear HJ
     go_wp2_with fail
     go_roundw
     case rel=>exact⟨j+1,_,_,_,rfl,congrArg (Value.int .i64) (by first | exact nxU j | exact hwj.trans (nxU j)),hjl,HE⟩
     case measure=>first | exact Ub lm.length j hjl | (rw[hwj];exact Ub lm.length j hjl)
  ·obtain rfl:j=lm.length:=by omega
   have hE:(hss.flatten.take lm.length)=hss.flatten:=by rw[←HX.out.2.1];exact List.take_of_length_le (by rw[List.length_map];exact Nat.le_refl _)
   have hO:=HI.out.1
   rw[hE] at hO
   have hen:(U3 f hss.flatten).length≤50000:=Z8z HQ.out
   rcases V4 hO with⟨e,hz⟩ | ⟨g,cap,e⟩
   ·simp only[Value.slice.injEq] at e
    obtain⟨rfl,rfl,rfl⟩:=e
    have HS:=hD0 (AnyF.slices_SortFunc_none (P:=prog) { Tryz.sortL with } none 0 (.func (.func 67) #[] #[]) wr)
    have h0:U3 f hss.flatten=[]:=List.length_eq_zero_iff.1 hz
    have HE:Hid (Z08 W l (.returned (.slice none 0 0)) wr):=by
     refine⟨_,rfl,?_,HX.out.2.2.2.trans HI.out.2⟩
     have:l=[]:=(HL.out [] (by rw[h0]) .nil).symm
     rw[this]
     exact World.ownsRow_nil _ _ _ _
    clear hO hen hz HI h0 hE
    go_wp2_with fail
    refine Calls.mono HS.out ?_
    rintro e w2 ⟨rfl,rfl⟩
    go_wp2
    go_ret
    exact HE.out
   ·simp only[Value.slice.injEq] at e
    obtain⟨rfl,rfl,rfl⟩:=e
    have HS:=hD0 (Z70 Z4w (ρ:=_) { Tryz.sortL with } (by intro w;kernel_rfl) (by intro w;kernel_rfl) Z1m Zg3 67 Zo5 Z9h _ g s2 (U3 f hss.flatten) wr hO (by omega))
    have HO:=hD0 (aI0 hO (HX.out.2.2.2.trans HI.out.2))
    obtain⟨N1,hN1⟩:∃N1,(U3 f hss.flatten).length=N1:=⟨_,rfl⟩
    have HN1:=hD0 hN1
    rw[hN1] at HS ⊢
    clear hO hen HI hE hN1
    go_wp2_with fail
    refine Calls.mono HS.out ?_
    rintro e w2 ⟨rfl,l',hp,hs,hO2,ht⟩
    have hl:l'.length=N1:=by rw[hp.length_eq];exact HN1.out
    have HE:Hid (Z08 W l (.returned (.slice (some ⟨g,0,none⟩) N1 s2)) w2):=by
     have e2:=HL.out l' hp hs
     subst e2
     rw[hl] at hO2
     refine⟨_,rfl,Zby hO2 (fun b e=>?_),Yu HO.out.2 ht (fun i e=>?_)⟩
     ·have h1:w1.heap.size≤g:=oge HO.out.1 rfl
      have h2:=HX.out.2.2.2.sz
      have e':g=b:=Option.some.inj e
      omega
     ·have h1:w1.heap.size≤g:=oge HO.out.1 rfl
      have h2:=HX.out.2.2.2.sz
      omega
    clear hp hs hO2 ht hl HS
    go_wp2
    go_ret
    exact HE.out
theorem Zel(r:Rq)(w:World):Calls prog 41 #[rqV r] w fun e w'=>e=.returned (.bool true)∧Nw w w':=by
 obtain⟨a,b,c,d,e⟩:=r
 unfold rqV
 have HG:=hD0 ((Nw.refl w).alloc (.cells #[.int .i64 a,.int .i64 b,.int .i64 c,.int .i64 d,.int .i64 e] 43))
 go_enter func41,ntmps41
 go_wp2
 go_ret
 exact⟨rfl,HG.out⟩
theorem Zem(r:Rq)(txn:Int)(pb:Nat)(w:World)(hb:w.cell? ⟨pb,0,none⟩=some (.int .i64 txn)):Calls prog 47 #[rqV r,.pointer (some ⟨pb,0,none⟩)] w fun e w'=>e=.returned (.bool (r.txn==txn))∧Nw w w':=by
 obtain⟨a,b,c,d,e⟩:=r
 unfold rqV
 have hbl:=World.block_lt_of_cell? _ _ hb
 simp only at hbl
 have HG:=hD0 ((Nw.refl w).alloc (.cells #[.int .i64 a,.int .i64 b,.int .i64 c,.int .i64 d,.int .i64 e] 43))
 go_enter func47,ntmps47
 go_wp2
 go_ret
 exact⟨rfl,HG.out⟩
theorem Zkn:∀args w,(callFunc 41 args).run prog w=.ok (.enter 41 args) w:=enters_of func41 (by kernel_rfl) rfl
theorem Zko:∀args w,(callFunc 47 args).run prog w=.ok (.enter 47 args) w:=enters_of func47 (by kernel_rfl) rfl
theorem Zv.snap_srt(ok:Zv S n N k hss L):Yd (Y5 hss)∧(Y5 hss).Perm hss.flatten:=Go.Proofs.YtfepoibfbmehiaaGreatDoor.snap_srt ok.apart
theorem Zv.snap_ok(ok:Zv S n N k hss L):∀h∈Y5 hss,Ok h.W h.q:=fun h hh=>by
 obtain⟨l,hl,h2⟩:=List.mem_flatten.1 (ok.snap_srt.2.mem_iff.1 hh)
 exact((ok.inv.part l hl).inv h h2).ok
theorem Zq4(h:Tab W o S n N k C hss L J)(hS:S≤16)(hn:n≤64):Calls prog 19 #[.pointer (some ⟨o,0,none⟩)] W (Z08 W (Z3r (Y5 hss))):=by
 have hs:=h.ok.snap_srt
 have HH:=hD0 (Zhd h hS hn 41 #[] (fun _=>true) Zkn (fun y _ r=>Zel r y) (Z3r (Y5 hss)) (fun l' p q=>Znp hs.1 h.ok.snap_ok hs.2.symm (by rwa [Zgt] at p) q))
 clear hs h
 go_enter func19,ntmps19
 go_wp2_with fail
 refine HH.out.mono ?_
 rintro e w1 ⟨v,rfl,h1,g1⟩
 have HE:Hid (Z08 W (Z3r (Y5 hss)) (.returned v) w1):=⟨v,rfl,h1,g1⟩
 clear h1 g1 HH
 go_wp2
 go_ret
 exact HE.out
theorem Zl3(h:Tab W o S n N k C hss L J)(hS:S≤16)(hn:n≤64)(txn:Int):Calls prog 23 #[.pointer (some ⟨o,0,none⟩),.int .i64 txn] W (Z08 W (Z2b (Y5 hss) txn)):=by
 have hs:=h.ok.snap_srt
 have hal:=Z2 W (.cells #[.int .i64 txn] 3)
 obtain⟨z,hz⟩:∃z,W.alloc (.cells #[.int .i64 txn] 3)=z:=⟨_,rfl⟩
 have g1:Nw W z:=by rw[←hz];exact(Nw.refl W).alloc _
 rw[hz] at hal
 have HH:=hD0 (Zhd (h.nw g1) hS hn 47 #[.pointer (some ⟨W.heap.size,0,none⟩)] (fun r=>r.txn==txn) Zko (fun y g r=>Zem r txn W.heap.size y (g.kp ((Z0 (j:=0) hal).trans rfl))) (Z2b (Y5 hss) txn) (fun l' p q=>Zoe hs.1 h.ok.snap_ok hs.2.symm txn (by rwa [Zgu] at p) q))
 have HZ:=hD0 hz
 have HG:=hD0 g1
 clear hs h hal hz g1
 go_enter func23,ntmps23
 go_wp2_with fail
 rw[HZ.out]
 refine HH.out.mono ?_
 rintro e w1 ⟨v,rfl,h1,g1⟩
 have HE:Hid (Z08 W (Z2b (Y5 hss) txn) (.returned v) w1):=⟨v,rfl,Zby h1 (fun b e=>Nat.le_trans HG.out.sz (oge h1 e)),HG.out.trans g1⟩
 clear h1 g1 HH
 go_wp2
 go_ret
 exact HE.out
end
end
def HB(w:World)(B:Nat)(t r:Int)(v:Value)(W:Int):Prop:=w.heap[B]?=some (.cells #[.int .i64 t,.int .i64 r,v,.int .i64 W] 83)
theorem Zht(w:World)(x:Int):IS (w.alloc (.cells #[.int .i64 x] 3)) (.slice (some ⟨w.heap.size,0,none⟩) 1 1) [x]:=by
 have h:=World.ownsRow_lit (base:=0) (size:=1) (e:=3) w #[.int .i64 x] 1 (Nat.zero_le _) (by unfold maxLen;omega) (by simp)
 unfold IS
 simpa using h
section
open Go.ChangeShapes Go.WideShapes Go.ChangeAt Go.RowKit Go.Deep
structure Cl where
 k:Int
 t:Int
 r:Int
 id:Int
 tx:Int
 md:Int
section
variable {H:Type} {enc:TypeId × Value→H} {w:World} {base:Nat} {spare:Nat→Bool} {held:Bool}
end
end
open Go.Shelf
theorem Zc1(b o c b' o' c':Nat)(l:List Hl)(w:World)(hm:l.length≤100000)(h:RdC 4 Z1n w b o l)(h':RdC 4 Z1n w b' o' l) :
  Calls prog 18 #[.slice (some ⟨b,o,none⟩) l.length c,.slice (some ⟨b',o',none⟩) l.length c'] w fun e w'=>e=.returned (.bool true)∧Nw w w':=by
 have H:=hD0 (aI0 h h')
 clear h h'
 go_enter func18,ntmps18
 go_wp2
 go_loopw [5] (fun i wr=>∃k:Nat,k≤l.length∧i=.int .i64 k∧Nw w wr) (fun i _=>l.length-(intOf i).toNat)
 case atStart=>exact⟨0,Nat.zero_le _,rfl,Nw.refl _⟩
 case round =>
  obtain⟨k,hk,rfl,hG⟩:=hrel
  by_cases Z1:k<l.length
  ·have hce:=(H.out.1.nw hG).cell k Z1
   have hde:=(H.out.2.nw hG).cell k Z1
   have hki:(k:Int)<(l.length:Int):=by omega
   generalize l[k]=s at *
   obtain⟨s0,s1,s2,s3⟩:=s
   have c0:=hce 0 _ rfl
   have c1:=hce 1 _ rfl
   have c2:=hce 2 _ rfl
   have c3:=hce 3 _ rfl
   simp only[Nat.add_zero] at c0
   have d0:=hde 0 _ rfl
   have d1:=hde 1 _ rfl
   have d2:=hde 2 _ rfl
   have d3:=hde 3 _ rfl
   simp only[Nat.add_zero] at d0
   clear hce hde
   have HG:=hD0 hG
   clear hG
   go_wp2_with fail
   go_quiet (fail)
   go_wp2
   go_roundw
   case rel=>exact⟨k+1,by omega,by go_num,HG.out.drewN _⟩
   case measure=>simp[intOf];omega
  ·have HG:=hD0 hG
   clear hG
   go_wp2
   go_ret
   exact⟨rfl,HG.out⟩
theorem Z5g(a a':Option Addr)(c c':Nat)(w:World):Calls prog 18 #[.slice a 0 c,.slice a' 0 c'] w fun e w'=>e=.returned (.bool true)∧Nw w w':=by
 go_enter func18,ntmps18
 go_wp2
 refine wp_loop_rounds 1 ?_
 repeat (rw[rounds_succ];go_wp2)
 go_ret
 exact⟨rfl,Nw.refl _⟩
abbrev Zdq(w:World)(v:Value)(l:List Hl):Prop:=Rd 4 Z1n w v l
theorem Z1i.rd{w:World}{g0:Nat}{v:Value}{l:List Hl}(h:Z1i w g0 v l):Zdq w v l:=Up.rd Z4w.len h
theorem Z6v(v v':Value)(l:List Hl)(w:World)(hm:l.length≤100000)(h:Zdq w v l)(h':Zdq w v' l):Calls prog 18 #[v,v'] w fun e w'=>e=.returned (.bool true)∧Nw w w':=by
 obtain⟨a,c,rfl,⟨rfl,_⟩ | ⟨b,o,rfl,hc⟩⟩:=h
 ·obtain⟨a',c',rfl,_⟩:=h'
  exact Z5g a a' c c' w
 ·obtain⟨a',c',rfl,⟨rfl,_⟩ | ⟨b',o',rfl,hc'⟩⟩:=h'
  ·exact Z5g _ a' c c' w
  ·exact Zc1 b o c b' o' c' l w hm hc hc'
theorem Z81(w:World):Calls prog 16 #[] w fun e w'=>e=.returned (.agg #[.int .i64 (-1),.int .i64 (-1)])∧Nw w w':=by
 go_enter func16,ntmps16
 go_wp2
 exact bodyPost_ret (v:=.agg #[.int .i64 (-1),.int .i64 (-1)]) (by simp[results,results16,go_sem, *]) rfl ⟨rfl,(Nw.refl w).alloc _⟩
theorem Z4n(w:World):Calls prog 6 #[] w fun e w'=>e=.returned (.agg #[.int .i64 3,.int .i64 4,.int .i64 8,.int .i64 1])∧Nw w w':=by
 go_enter func6,ntmps6
 go_wp2
 exact bodyPost_ret (v:=.agg #[.int .i64 3,.int .i64 4,.int .i64 8,.int .i64 1]) (by simp[results,results6,go_sem, *]) rfl ⟨rfl,(Nw.refl w).alloc _⟩
abbrev lv0:List (List Hq):=List.replicate 3 []
abbrev lvL:List Bool:=List.replicate 8 false
theorem Zi4:Z1l 4 lv0 lvL 3 (-1) 1 3=(0,true,0):=by kernel_rfl
theorem Zi5:Z1l 4 (V0 4 lv0 lvL 3 (-1) 1 3).1 (V0 4 lv0 lvL 3 (-1) 1 3).2 (-1) (-1) 1 1=(1,true,0):=by kernel_rfl
theorem Zln:Z2b (Y5 (V0 4 (V0 4 lv0 lvL 3 (-1) 1 3).1 (V0 4 lv0 lvL 3 (-1) 1 3).2 (-1) (-1) 1 1).1) 1=[⟨1,-1,-1,1⟩,⟨1,3,-1,3⟩]:=by kernel_rfl
theorem Zi6(w:World):Zdq (w.alloc (.cells #[.int .i64 1,.int .i64 (-1),.int .i64 (-1),.int .i64 1,.int .i64 1,.int .i64 3,.int .i64 (-1),.int .i64 3] 54)) (.slice (some ⟨w.heap.size,0,none⟩) 2 2) [⟨1,-1,-1,1⟩,⟨1,3,-1,3⟩]:=by
 have h:=Z2 w (.cells #[.int .i64 1,.int .i64 (-1),.int .i64 (-1),.int .i64 1,.int .i64 1,.int .i64 3,.int .i64 (-1),.int .i64 3] 54)
 exact Za6 (l:=([⟨1,-1,-1,1⟩,⟨1,3,-1,3⟩]:List Hl)) Z4w.len h 2
structure TaE(w:World)(o S n N k:Nat)(C:Cps)(hss:List (List Hq))(L:List Bool)(a b:Nat)(W:World):Prop where
 tab:∃J,Tab W o S n N k C hss L J∧(∀j,J j→w.heap.size≤j)∧∀j,a≤j→j<b→¬J j
 nw:Nw w W
 lt:b≤W.heap.size
def KpA(a b:Nat)(W W':World):Prop:=∀j,a≤j→j<b→W'.heap[j]?=W.heap[j]?
section
variable {w W W':World} {o S n N k:Nat} {C:Cps} {hss hss':List (List Hq)} {L L':List Bool} {a b:Nat}
theorem TaE.step(h:TaE w o S n N k C hss L a b W)(g:Nw W W'):TaE w o S n N k C hss L a b W':=by
 obtain⟨J,h1,h2,h3⟩:=h.tab
 exact⟨⟨J,h1.nw g,h2,h3⟩,h.nw.trans g,Nat.le_trans h.lt g.sz⟩
theorem TaE.mark(h:TaE w o S n N k C hss L a b W)(g:Nw W W'):TaE w o S n N k C hss L W.heap.size W'.heap.size W':=by
 obtain⟨J,h1,h2,h3⟩:=h.tab
 exact⟨⟨J,h1.nw g,h2,fun j h4 _ h5=>by have:=h1.lt j h5;omega⟩,h.nw.trans g,Nat.le_refl _⟩
theorem Z5t{J:Nat→Prop}{k':Nat}(hw:Nw w W)(h2:∀j,J j→w.heap.size≤j)(h3:∀j,a≤j→j<b→¬J j)(hl:b≤W.heap.size)(d:Z1j W o S n N k' C hss' L' J W'):TaE w o S n N k' C hss' L' a b W'∧KpA a b W W':=by
 obtain⟨J',k1,k2,k3⟩:=d
 have hws:=hw.sz
 exact⟨⟨⟨J',k1,fun j e=>(k2 j e).elim (h2 j) (fun q=>by omega),fun j h4 h5 e=>(k2 j e).elim (h3 j h4 h5) (fun q=>by omega)⟩,Yu hw k3 h2,Nat.le_trans hl k3.size⟩,fun j h4 h5=>k3.block j (by omega) (h3 j h4 h5)⟩
theorem Z5r(h:TaE w o S n N k C hss L a b W)(hk:k≤800)(hn:n≤64)(hS:S≤16)(t r txn m i:Int)(g:Bool)(E:Int)(hR:Z1l n hss L t r txn m=(i,g,E)) :
  Calls prog 7 #[.pointer (some ⟨o,0,none⟩),.agg #[.int .i64 t,.int .i64 r],.int .i64 txn,.int .i64 m] W fun e W'=>e=.returned (.tuple #[.int .i64 i,.bool g,.int .i64 E])∧TaE w o S n N (k+1) C (V0 n hss L t r txn m).1 (V0 n hss L t r txn m).2 a b W'∧KpA a b W W':=by
 obtain⟨J,h1,h2,h3⟩:=h.tab
 refine(Zq6 h1 hk hn hS t r txn m).mono ?_
 rintro e W' ⟨e1,d⟩
 rw[hR] at e1
 exact⟨e1,Z5t h.nw h2 h3 h.lt d⟩
theorem Zaj(h:TaE w o S n N k C hss L a b W)(hk:k≤800)(hn:n≤64)(hS:0<S)(id:Int)(hf:Fit id)(E:Int)(hE:(Zbt hss id).2=E) :
  Calls prog 10 #[.pointer (some ⟨o,0,none⟩),.int .i64 id] W fun e W'=>∃vi,e=.returned (.tuple #[vi,.int .i64 E])∧IS W' vi (Zbt hss id).1∧TaE w o S n N (k+1) C (Z5b hss L id).1 (Z5b hss L id).2 a b W'∧KpA a b W W'∧∀j,vi.ownBlock=some j→W.heap.size≤j:=by
 obtain⟨J,h1,h2,h3⟩:=h.tab
 refine(Zll h1 hk hn hS id hf).mono ?_
 rintro e W' ⟨vi,e1,hi,d,hv⟩
 rw[hE] at e1
 obtain⟨k1,k2⟩:=Z5t h.nw h2 h3 h.lt d
 exact⟨vi,e1,hi,k1,k2,hv⟩
theorem Zc7(h:TaE w o S n N k C hss L a b W)(hk:k≤800)(hn:n≤64)(hS:0<S)(id:Int)(hf:Fit id)(E:Int)(hE:(Zfl hss id).2=E) :
  Calls prog 11 #[.pointer (some ⟨o,0,none⟩),.int .i64 id] W fun e W'=>∃vi,e=.returned (.tuple #[vi,.int .i64 E])∧IS W' vi (Zfl hss id).1∧TaE w o S n N (k+1) C (Z77 hss L id).1 (Z77 hss L id).2 a b W'∧KpA a b W W'∧∀j,vi.ownBlock=some j→W.heap.size≤j:=by
 obtain⟨J,h1,h2,h3⟩:=h.tab
 refine(Zdu h1 hk hn hS id hf).mono ?_
 rintro e W' ⟨vi,e1,hi,d,hv⟩
 rw[hE] at e1
 obtain⟨k1,k2⟩:=Z5t h.nw h2 h3 h.lt d
 exact⟨vi,e1,hi,k1,k2,hv⟩
theorem Z5s(h:TaE w o S n N k C hss L a b W)(hk:k≤800)(hn:n≤64)(hS:0<S)(id x:Int)(hf:Fit id)(g:Bool)(E:Int)(hG:Zjr hss id x=g)(hE:Zjq hss id x=E) :
  Calls prog 9 #[.pointer (some ⟨o,0,none⟩),.int .i64 id,.int .i64 x] W fun e W'=>e=.returned (.tuple #[.bool g,.int .i64 E])∧TaE w o S n N (k+1) C (Zca hss id x) L a b W'∧KpA a b W W':=by
 obtain⟨J,h1,h2,h3⟩:=h.tab
 refine(Zfj h1 hk hn hS id x hf).mono ?_
 rintro e W' ⟨e1,d⟩
 rw[hG,hE] at e1
 exact⟨e1,Z5t h.nw h2 h3 h.lt d⟩
theorem Zmg(h:TaE w o S n N k C hss L a b W)(hk:k≤800)(hn:n≤64)(hS:0<S)(id x:Int)(hf:Fit id)(E:Int)(hE:Zl2 hss id x=E) :
  Calls prog 12 #[.pointer (some ⟨o,0,none⟩),.int .i64 id,.int .i64 x] W fun e W'=>e=.returned (.int .i64 E)∧TaE w o S n N (k+1) C (Zed hss id x) L a b W'∧KpA a b W W':=by
 obtain⟨J,h1,h2,h3⟩:=h.tab
 refine(Zod h1 hk hn hS id x hf).mono ?_
 rintro e W' ⟨e1,d⟩
 rw[hE] at e1
 exact⟨e1,Z5t h.nw h2 h3 h.lt d⟩
theorem Zmh(h:TaE w o S n N k C hss L a b W)(hS:S≤16)(hn:n≤64):Calls prog 22 #[.pointer (some ⟨o,0,none⟩)] W (Z07 W (Y5 hss)):=by
 obtain⟨J,h1,_⟩:=h.tab
 exact Zc3 h1 hS hn
theorem Zpw(h:TaE w o S n N k C hss L a b W)(hS:S≤16)(hn:n≤64):Calls prog 19 #[.pointer (some ⟨o,0,none⟩)] W (Z08 W (Z3r (Y5 hss))):=by
 obtain⟨J,h1,_⟩:=h.tab
 exact Zq4 h1 hS hn
theorem Zje(h:TaE w o S n N k C hss L a b W)(hS:S≤16)(hn:n≤64)(txn:Int):Calls prog 23 #[.pointer (some ⟨o,0,none⟩),.int .i64 txn] W (Z08 W (Z2b (Y5 hss) txn)):=by
 obtain⟨J,h1,_⟩:=h.tab
 exact Zl3 h1 hS hn txn
theorem Zf9(h:TaE w o S n N k C hss L a b W)(hS:S≤16)(hn:n≤64):Calls prog 14 #[.pointer (some ⟨o,0,none⟩)] W fun e W'=>e=.returned (.tuple #[.int .i64 (Z4r hss),.int .i64 (liv L)])∧Nw W W':=by
 obtain⟨J,h1,_⟩:=h.tab
 exact Zg9 h1 hS hn
theorem Zfa(h:TaE w o S n N k C hss L a b W)(t r:Int):Calls prog 20 #[.pointer (some ⟨o,0,none⟩),.agg #[.int .i64 t,.int .i64 r]] W fun e W'=>e=.returned (.int .i64 (ofS t r S))∧Nw W W':=by
 obtain⟨J,h1,_⟩:=h.tab
 exact Zj4 h1 t r
theorem Zjd(h:TaE w o S n N k C hss L a b W)(hS:0<S)(id:Int)(hf:Fit id)(t r b0 b1 b2 b3 b4:Int)(y:Bool)(hR:Z9d hss id=(t,r,⟨b0,b1,b2,b3,b4⟩,y)) :
  Calls prog 13 #[.pointer (some ⟨o,0,none⟩),.int .i64 id] W fun e W'=>e=.returned (.tuple #[.agg #[.int .i64 t,.int .i64 r],.agg #[.int .i64 b0,.int .i64 b1,.int .i64 b2,.int .i64 b3,.int .i64 b4],.bool y])∧Nw W W':=by
 obtain⟨J,h1,_⟩:=h.tab
 exact Zqd h1 hS id hf t r b0 b1 b2 b3 b4 y hR
theorem Zdm(h:TaE w o S n N k C hss L a b W)(t r txn i:Int)(y:Bool)(hR:Z93 hss t r txn=(i,y)):Calls prog 15 #[.pointer (some ⟨o,0,none⟩),.agg #[.int .i64 t,.int .i64 r],.int .i64 txn] W fun e W'=>e=.returned (.tuple #[.int .i64 i,.bool y])∧Nw W W':=by
 obtain⟨J,h1,_⟩:=h.tab
 exact Zo9 h1 t r txn i y hR
end
theorem Zjf(w W:World)(g:Nw w W)(S n N:Nat)(p:Int)(h:Z0v ⟨S,n,N,p⟩):Calls prog 5 #[.agg #[.int .i64 S,.int .i64 n,.int .i64 N,.int .i64 p]] W fun e W'=>∃o,e=.returned (.tuple #[ptN o,.int .i64 0])∧TaE w o S n N 0 ⟨S,n,N,p⟩ (List.replicate S []) (List.replicate N false) 0 0 W':=by
 refine(Zp2 S n N p h W).mono ?_
 rintro e W' ⟨o,J,e1,h1,g2,h2⟩
 exact⟨o,e1,⟨⟨J,h1,fun j e=>Nat.le_trans g.sz (h2 j e),fun j _ q=>by omega⟩,g.trans g2,Nat.zero_le _⟩⟩
theorem Zlp(W:World):Calls prog 4 #[] W fun e w'=>e=.returned (.bool true)∧Nw W w':=by
 have HW:=hD0 (Nw.refl W)
 go_enter func4,ntmps4
 go_wp2_with fail
 refine(Z4n W).mono ?_
 rintro e w1 ⟨rfl,g1⟩
 have HN:=hD0 (Zjf W w1 g1 3 4 8 1 (by decide))
 clear g1
 go_wp2_with fail
 refine HN.out.mono ?_
 rintro e w2 ⟨o,rfl,hT⟩
 have H2:=hD0 hT
 clear hT HN
 go_wp2_with fail
 refine(Zne 3 w2).mono ?_
 rintro e w3 ⟨rfl,g3⟩
 have HA:=hD0 (Z5r (H2.out.step g3) (by omega) (by omega) (by omega) 3 (-1) 1 3 _ _ _ Zi4)
 clear g3 H2
 go_wp2_with fail
 refine HA.out.mono ?_
 rintro e w4 ⟨rfl,hT,_⟩
 have H4:=hD0 hT
 clear hT HA
 go_wp2_with fail
 refine(Z81 w4).mono ?_
 rintro e w5 ⟨rfl,g5⟩
 have HA:=hD0 (Z5r (H4.out.step g5) (by omega) (by omega) (by omega) (-1) (-1) 1 1 _ _ _ Zi5)
 clear g5 H4
 go_wp2_with fail
 refine HA.out.mono ?_
 rintro e w6 ⟨rfl,hT,_⟩
 have hh:=Zje hT (by omega) (by omega) 1
 rw[Zln] at hh
 have HH:=hD0 hh
 have H6:=hD0 hT.nw
 clear hT HA hh
 go_wp2_with fail
 refine HH.out.mono ?_
 rintro e w7 ⟨v,rfl,hl,g7⟩
 obtain⟨v0,v1,v2,hv⟩:∃a b c,v=.slice a b c:=by
  obtain⟨a,c,e,_⟩:=Z1i.rd hl
  exact⟨_,_,_,e⟩
 subst hv
 have H7:=hD0 (aI0 (Z1i.rd hl) (H6.out.trans g7))
 clear hl g7 HH H6
 go_wp2_with fail
 refine(Z81 w7).mono ?_
 rintro e w8 ⟨rfl,g8⟩
 have H8:=hD0 (aI0 (H7.out.1.nw g8) (H7.out.2.trans g8))
 clear g8 H7
 go_wp2_with fail
 refine(Zne 3 w8).mono ?_
 rintro e w9 ⟨rfl,g9⟩
 have gA:Nw w9 (w9.alloc (.cells #[.int .i64 1,.int .i64 (-1),.int .i64 (-1),.int .i64 1,.int .i64 1,.int .i64 3,.int .i64 (-1),.int .i64 3] 54)):=(Nw.refl w9).alloc _
 have HS:=hD0 (Z6v (.slice v0 v1 v2) (.slice (some ⟨w9.heap.size,0,none⟩) 2 2) _ _ (by decide) (H8.out.1.nw (g9.trans gA)) (Zi6 w9))
 have H9:=hD0 (H8.out.2.trans (g9.trans gA))
 clear g9 gA H8
 go_wp2_with fail
 refine HS.out.mono ?_
 rintro e w10 ⟨rfl,g10⟩
 have HE:=hD0 (H9.out.trans g10)
 clear g10 HS H9
 go_wp2
 go_ret
 exact⟨rfl,HE.out⟩
section
open Go.RowKit Go.Sort Go.Shelf
theorem Vw(w:World):Calls prog 28 #[.pointer none] w fun e w'=>e=.returned (.bool false)∧w=w':=by
 go_enter func28,ntmps28
 go_wp2
 go_ret
 exact⟨rfl,rfl⟩
theorem Zk2(t r x m:Int)(w:World):Calls prog 7 #[.pointer none,.agg #[.int .i64 t,.int .i64 r],.int .i64 x,.int .i64 m] w fun e w'=>e=.returned (.tuple #[.int .i64 0,.bool false,.int .i64 1])∧Nw w w':=by
 have H:=hD0 Vw
 have HG:=hD0 (Nw.refl w)
 go_enter func7,ntmps7
 go_wp2_with fail
 refine(H.out _).mono ?_
 rintro e w1 ⟨rfl,rfl⟩
 go_wp2
 exact bodyPost_ret (v:=.tuple #[.int .i64 0,.bool false,.int .i64 1]) (by simp[results,results7,go_sem, *]) rfl ⟨rfl,by first | exact Nw.refl _ | exact(Nw.refl _).alloc _⟩
theorem Zc5(t r:Int)(w:World):Calls prog 20 #[.pointer none,.agg #[.int .i64 t,.int .i64 r]] w fun e w'=>e=.returned (.int .i64 (-1))∧Nw w w':=by
 have H:=hD0 Vw
 go_enter func20,ntmps20
 go_wp2_with fail
 refine(H.out _).mono ?_
 rintro e w1 ⟨rfl,rfl⟩
 go_wp2
 go_ret
 exact⟨rfl,by first | exact Nw.refl _ | exact(Nw.refl _).alloc _⟩
theorem Zap(id:Int)(w:World):Calls prog 30 #[.pointer none,.int .i64 id] w fun e w'=>e=.returned (.pointer none)∧w=w':=by
 have H:=hD0 Vw
 go_enter func30,ntmps30
 go_wp2_with fail
 refine(H.out _).mono ?_
 rintro e w1 ⟨rfl,rfl⟩
 go_wp2
 go_ret
 exact⟨rfl,rfl⟩
theorem Zft(id:Int)(f:Value)(w:World):Calls prog 59 #[.pointer none,.int .i64 id,f] w fun e w'=>e=.returned (.tuple #[.slice none 0 0,.int .i64 1])∧w=w':=by
 have H:=hD0 Z67
 go_enter func59,ntmps59
 go_wp2_with fail
 refine(H.out _).mono ?_
 rintro e w1 ⟨rfl,rfl⟩
 go_wp2
 exact bodyPost_ret (v:=.tuple #[.slice none 0 0,.int .i64 1]) (by simp[results,results59,go_sem, *]) rfl ⟨rfl,rfl⟩
theorem Zb2(id:Int)(w:World):Calls prog 33 #[.pointer none,.int .i64 id] w fun e w'=>e=.returned (.tuple #[.slice none 0 0,.int .i64 1])∧w=w':=by
 have H:=hD0 Zft
 go_enter func33,ntmps33
 go_wp2_with fail
 refine(H.out _ _ _).mono ?_
 rintro e w1 ⟨rfl,rfl⟩
 go_wp2
 exact bodyPost_ret (v:=.tuple #[.slice none 0 0,.int .i64 1]) (by simp[results,results33,go_sem, *]) rfl ⟨rfl,rfl⟩
theorem Zdx(id x:Int)(w:World):Calls prog 35 #[.pointer none,.int .i64 id,.int .i64 x] w fun e w'=>e=.returned (.int .i64 1)∧w=w':=by
 have H:=hD0 Z67
 go_enter func35,ntmps35
 go_wp2_with fail
 refine(H.out _).mono ?_
 rintro e w1 ⟨rfl,rfl⟩
 go_wp2
 go_ret
 exact⟨rfl,rfl⟩
theorem Zh7(id x:Int)(w:World):Calls prog 12 #[.pointer none,.int .i64 id,.int .i64 x] w fun e w'=>e=.returned (.int .i64 1)∧Nw w w':=by
 have H:=hD0 Zap
 have H2:=hD0 Zdx
 go_enter func12,ntmps12
 go_wp2_with fail
 refine(H.out _ _).mono ?_
 rintro e w1 ⟨rfl,rfl⟩
 go_wp2_with fail
 refine(H2.out _ _ _).mono ?_
 rintro e w1 ⟨rfl,rfl⟩
 go_wp2
 go_ret
 exact⟨rfl,Nw.refl _⟩
theorem Zeo(id:Int)(w:World):Calls prog 10 #[.pointer none,.int .i64 id] w fun e w'=>e=.returned (.tuple #[.slice none 0 0,.int .i64 1])∧Nw w w':=by
 have H:=hD0 Zap
 have H2:=hD0 Zb2
 have HE:Hid (∀(id:Int) (w:World),Calls prog 32 #[.pointer none,.int .i64 id,.func (.func 33) #[] #[]] w fun e w'=>e=.returned (.tuple #[.slice none 0 0,.int .i64 1])∧Nw w w'):=by
  intro id w
  go_enter func32,ntmps32
  go_wp2_with fail
  refine(H.out _ _).mono ?_
  rintro e w1 ⟨rfl,rfl⟩
  go_wp2_with fail
  refine(H2.out _ _).mono ?_
  rintro e w1 ⟨rfl,rfl⟩
  go_wp2
  exact bodyPost_ret (v:=.tuple #[.slice none 0 0,.int .i64 1]) (by simp[results,results32,go_sem, *]) rfl ⟨rfl,Nw.refl _⟩
 go_enter func10,ntmps10
 go_wp2_with fail
 refine(HE.out _ _).mono ?_
 rintro e w1 ⟨rfl,g1⟩
 have HG:=hD0 g1
 clear g1
 go_wp2
 exact bodyPost_ret (v:=.tuple #[.slice none 0 0,.int .i64 1]) (by simp[results,results10,go_sem, *]) rfl ⟨rfl,HG.out⟩
theorem Zb7(w:World):Calls prog 14 #[.pointer none] w fun e w'=>e=.returned (.tuple #[.int .i64 0,.int .i64 0])∧Nw w w':=by
 have H:=hD0 Vw
 go_enter func14,ntmps14
 go_wp2_with fail
 refine(H.out _).mono ?_
 rintro e w1 ⟨rfl,rfl⟩
 go_wp2
 exact bodyPost_ret (v:=.tuple #[.int .i64 0,.int .i64 0]) (by simp[results,results14,go_sem, *]) rfl ⟨rfl,Nw.refl _⟩
theorem Zg0(w:World):Calls prog 21 #[.pointer none] w fun e w'=>e=.returned (.agg #[.int .i64 0,.int .i64 0,.int .i64 0,.int .i64 0])∧Nw w w':=by
 have H:=hD0 Vw
 go_enter func21,ntmps21
 go_wp2_with fail
 refine(H.out _).mono ?_
 rintro e w1 ⟨rfl,rfl⟩
 go_wp2
 exact bodyPost_ret (v:=.agg #[.int .i64 0,.int .i64 0,.int .i64 0,.int .i64 0]) (by simp[results,results21,go_sem, *]) rfl ⟨rfl,(Nw.refl _).alloc _⟩
theorem Z6f(w:World):Calls prog 43 #[.pointer none] w fun e w'=>e=.returned (.slice none 0 0)∧w=w':=by
 have H:=hD0 Vw
 go_enter func43,ntmps43
 go_wp2_with fail
 refine(H.out _).mono ?_
 rintro e w1 ⟨rfl,rfl⟩
 go_wp2
 go_ret
 exact⟨rfl,rfl⟩
theorem Zj0(w:World):Calls prog 22 #[.pointer none] w fun e w'=>e=.returned (.slice none 0 0)∧Nw w w':=by
 have H:=hD0 Z6f
 have HS:=hD0 (fun w1=>AnyF.slices_SortFunc_none (P:=prog) { Tryz.sortH with } none 0 (.func (.func 45) #[] #[]) w1)
 go_enter func22,ntmps22
 go_wp2_with fail
 refine(H.out _).mono ?_
 rintro e w1 ⟨rfl,rfl⟩
 go_wp2_with fail
 refine Calls.mono (HS.out _) ?_
 rintro e w2 ⟨rfl,rfl⟩
 go_wp2
 go_ret
 exact⟨rfl,Nw.refl _⟩
theorem Z9i(f:Value)(w:World):Calls prog 40 #[.pointer none,f] w fun e w'=>e=.returned (.slice none 0 0)∧Nw w w':=by
 have H:=hD0 Z6f
 have HS:=hD0 (fun w1=>AnyF.slices_SortFunc_none (P:=prog) { Tryz.sortL with } none 0 (.func (.func 67) #[] #[]) w1)
 go_enter func40,ntmps40
 go_wp2_with fail
 refine(H.out _).mono ?_
 rintro e w1 ⟨rfl,rfl⟩
 go_wp2_with fail
 refine wp_loop_rounds 1 ?_
 repeat (rw[rounds_succ];go_wp2_with fail)
 refine Calls.mono (HS.out _) ?_
 rintro e w2 ⟨rfl,rfl⟩
 go_wp2
 go_ret
 exact⟨rfl,Nw.refl _⟩
theorem Zk1(w:World):Calls prog 19 #[.pointer none] w fun e w'=>e=.returned (.slice none 0 0)∧Nw w w':=by
 have H:=hD0 Z9i
 go_enter func19,ntmps19
 go_wp2_with fail
 refine(H.out _ _).mono ?_
 rintro e w1 ⟨rfl,g1⟩
 have HG:=hD0 g1
 clear g1
 go_wp2
 go_ret
 exact⟨rfl,HG.out⟩
theorem Zef(x:Int)(w:World):Calls prog 23 #[.pointer none,.int .i64 x] w fun e w'=>e=.returned (.slice none 0 0)∧Nw w w':=by
 have H:=hD0 Z9i
 have HN:=hD0 (fun w1 (g:Nw (w.alloc (.cells #[.int .i64 x] 3)) w1)=>((Nw.refl w).alloc (.cells #[.int .i64 x] 3)).trans g)
 go_enter func23,ntmps23
 go_wp2_with fail
 refine(H.out _ _).mono ?_
 rintro e w1 ⟨rfl,g1⟩
 have HG:Hid (Nw w w1):=by first | exact HN.out _ g1 | exact g1
 clear g1
 go_wp2
 go_ret
 exact⟨rfl,HG.out⟩
end
end Go.Proofs.YtfepoibfbmehiaaGreatDoor
