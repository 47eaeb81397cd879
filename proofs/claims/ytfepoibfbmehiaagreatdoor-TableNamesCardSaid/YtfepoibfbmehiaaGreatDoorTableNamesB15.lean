/- Texts merged: BdO, BdQ, BdR, QvX, BdS, BdT, BdV, Rt, BdW -/
import Derived.Test.YtfepoibfbmehiaaGreatDoorTableNamesB14
set_option linter.unusedVariables false
set_option maxRecDepth 100000
set_option maxHeartbeats 16000000
namespace Go.Proofs.YtfepoibfbmehiaaGreatDoor
open Go.RowKit _root_.Go.Proofs.Tryz
open Go.Shelf
def Z73(w:World)(o mb po n:Nat)(F:Nat→Prop)(l:List Hp)(L:List Bool)(t r txn m:Int)(e:Ending)(w':World):Prop :=
 e=.returned (.tuple #[.int .i64 (Z0o n (Z6 l) L t r txn m).1,.bool (Z0o n (Z6 l) L t r txn m).2.1,.int .i64 (Z0o n (Z6 l) L t r txn m).2.2])∧∃l',Z6 l'=(Yn n (Z6 l) L t r txn m).1∧V9 w o mb po n F l w' l' (Yn n (Z6 l) L t r txn m).2
theorem Z8r{w w':World}{o mb po n:Nat}{F:Nat→Prop}{l:List Hp}{L:List Bool}{t r txn m E:Int}(h:Db w o mb po n l L F)(g:Nw w w')(he:Yb n (Z6 l) L t r txn m=E)(hE:E≠0) :
  Z73 w o mb po n F l L t r txn m (.returned (.tuple #[.int .i64 0,.bool false,.int .i64 E])) w':=by
 obtain⟨h1,h2⟩:=Z7b (most:=n) (hs:=Z6 l) (L:=L) (t:=t) (r:=r) (txn:=txn) (m:=m) (by rw[he];exact hE)
 unfold Z73
 rw[h1,h2.1,he]
 exact⟨rfl,l,rfl,h.to g⟩
theorem Z65{w w':World}{o mb po n:Nat}{F:Nat→Prop}{l:List Hp}{L:List Bool}{t r txn m E:Int}(h:V9 w o mb po n F l w' l L)(he:Yb n (Z6 l) L t r txn m=E)(hE:E≠0) :
  Z73 w o mb po n F l L t r txn m (.returned (.tuple #[.int .i64 0,.bool false,.int .i64 E])) w':=by
 obtain⟨h1,h2⟩:=Z7b (most:=n) (hs:=Z6 l) (L:=L) (t:=t) (r:=r) (txn:=txn) (m:=m) (by rw[he];exact hE)
 unfold Z73
 rw[h1,h2.1,he]
 exact⟨rfl,l,rfl,h⟩
theorem Z41{L:List Bool}:Zm L<L.length↔liv L<L.length:=by
 have h1:=Zcs L
 constructor
 ·intro h
  rw[Z99 h] at h1
  simp only[List.length_cons] at h1
  omega
 ·intro h
  rcases Nat.lt_or_ge (Zm L) L.length with q | q
  ·exact q
  ·have:=Z51 L
   rw[Z98 (by omega)] at h1
   simp only[List.length_nil] at h1
   omega
theorem Zq5{w:World}{o mb po n k:Nat}{l:List Hp}{L:List Bool}{F:Nat→Prop}(h:Db w o mb po n l L F){X:List Int}(b:Ze n k (Z6 l) X L)(hk:k≤800)(hn:n≤64)(t r txn m:Int)(wa:wfN (t,r)) :
  Calls prog 29 #[.pointer (some ⟨o,0,none⟩),.agg #[.int .i64 t,.int .i64 r],.int .i64 txn,.int .i64 m] w (Z73 w o mb po n F l L t r txn m):=by
 have H:=hD0 h
 have HB:=hD0 b
 have hol:=h.ol
 have hLs:=h.pol.sz
 have hN:Nw w (w.alloc (.cells #[.int .i64 t,.int .i64 r] 33)):=(Nw.refl w).alloc _
 have hb0:=Z2 w (.cells #[.int .i64 t,.int .i64 r] 33)
 obtain⟨z,hz⟩:∃z,w.alloc (.cells #[.int .i64 t,.int .i64 r] 33)=z:=⟨_,rfl⟩
 rw[hz] at hN hb0
 have HZ:=hD0 hz
 have n0:z.cell? ⟨w.heap.size,0,none⟩=some (.int .i64 t):=Z0 hb0
 have n1:z.cell? ⟨w.heap.size,1,none⟩=some (.int .i64 r):=Z0 hb0
 have hbl:=Z1 hb0
 have HMd:=hD0 (Yw o z (hN.kp h.c0))
 have HAt:=hD0 (Zfs (h.nw hN) t r wa)
 obtain⟨hi,hW,hql,_⟩:=b.hd t r
 have htry:=Zk3 b t r txn m 128 (by omega)
 rw[←Zch] at hi hW hql htry
 have hnm:(atP l (t,r)).h.t=t∧(atP l (t,r)).h.r=r:=by
  have:=Zky (Z6 l) t r
  rw[←Zch] at this
  exact⟨congrArg Prod.fst this,congrArg Prod.snd this⟩
 have hrd:=Zmx h t r
 have hqf:=Zq7 h t r
 have hh:=Zch l t r
 have hge:Uj l (t,r)=none→(atP l (t,r)).h.q=[]:=fun e=>by unfold atP;rw[e];rfl
 have hgs:∀x,Uj l (t,r)=some x→(atP l (t,r)).h.q≠[]:=fun x e=>by
  have hx:=(Yi e).1
  unfold atP;rw[e]
  exact b.ne _ (List.mem_map.2 ⟨x,hx,rfl⟩)
 clear h b hz hb0
 unfold hpH at HAt
 revert HAt hi hW hql htry hnm hrd hqf hh hge hgs
 generalize atP l (t,r)=x
 obtain⟨⟨xt,xr,xW,q⟩,xa,xq,xc⟩:=x
 intro HAt hi hW hql htry hnm hrd hqf hh hge hgs
 obtain⟨rfl,rfl⟩:=hnm
 simp only at HAt hi hW hql htry hrd hqf hh hge hgs
 obtain⟨ql,hqe⟩:∃ql,q.length=ql:=⟨_,rfl⟩
 unfold hpV at hrd
 simp only at hrd
 rw[hqe] at HAt hrd
 have HD:=hD0 (aI0 hi (aI0 hql (aI0 hh (aI0 hge (aI0 hgs (aI0 hqf (aI0 hqe hW)))))))
 have HRd:=hD0 hrd
 have HTr:=hD0 htry
 have hok:=hi.ok
 clear hi hW hql hh hge hgs hqf hrd htry
 go_enter func29,ntmps29
 go_wp2_with fail
 rw[HZ.out]
 refine HMd.out.mono ?_
 rintro e w' ⟨rfl,rfl⟩
 go_wp2_with fail
 refine HAt.out.mono ?_
 rintro e w1 ⟨rfl,g1⟩
 have HN1:=hD0 (hN.trans g1)
 have hal:=Z2 w1 (.cells #[.int .i64 xt,.int .i64 xr,.slice xq ql xc,.int .i64 xW] 83)
 have hN2:Nw w (w1.alloc (.cells #[.int .i64 xt,.int .i64 xr,.slice xq ql xc,.int .i64 xW] 83)):=HN1.out.alloc _
 have hpb:w.heap.size≤w1.heap.size:=HN1.out.sz
 have pl:=Z1 hal
 have HA1:=hD0 (fun w2 (g:Nw w w2)=>Zny xt xr xW 128 txn m (.slice xq ql xc) q w2 (by have:=HD.out.2.1;omega) hok (HRd.out.nw g))
 unfold Un at HA1
 clear n0 n1 hbl HAt HMd g1 hN HZ
 go_wp2_with fail
 generalize w1.heap.size=pb at *
 generalize w1.alloc (.cells #[.int .i64 xt,.int .i64 xr,.slice xq ql xc,.int .i64 xW] 83)=z1 at *
 refine(HA1.out _ hN2).mono ?_
 rintro e y ⟨v2,rfl,g2,rd2,cap2,fr2⟩
 obtain⟨av,cv,hv2⟩:=rd2.form
 obtain⟨nv,hnv⟩:∃nv,(Z0a ⟨xt,xr,xW,q⟩ 128 txn m).1.q.length=nv:=⟨_,rfl⟩
 rw[hnv] at hv2
 subst hv2
 clear hnv
 have hal2:=g2.at' hal
 have HN3:=hD0 (hN2.trans g2)
 have hE1:(Z0a ⟨xt,xr,xW,q⟩ 128 txn m).2.2=Z09 q 128 txn m:=by unfold Z0a;split<;>simp_all
 rw[hE1,HTr.out]
 obtain⟨E1,hE⟩:∃E1:Int,(if Z0s m then(2:Int)else if twB (Z6 l) xt xr txn=true then 4 else 0)=E1:=⟨_,rfl⟩
 rw[hE]
 have HE:=hD0 hE
 clear hal g2 hN2 HA1 HN1 rd2 cap2 fr2 pl
 generalize (Z0a ⟨xt,xr,xW,q⟩ 128 txn m).1=X1
 generalize (Z0a ⟨xt,xr,xW,q⟩ 128 txn m).2.1=X2
 simp only[Un]
 by_cases he1:E1=0
 ·subst he1
  have hbm:¬Z0s m:=fun e=>by have:=HE.out;rw[if_pos e] at this;cases this
  have htw:¬twB (Z6 l) xt xr txn=true:=fun e=>by have:=HE.out;rw[if_neg hbm,if_pos e] at this;cases this
  have hex:Yb n (Z6 l) L xt xr txn m=if Z2a n (Z6 l) L xt xr then 8 else 0:=by unfold Yb;rw[if_neg hbm,if_neg htw]
  have HX:=hD0 hex
  clear hE hbm htw hex
  obtain⟨y1,hy1⟩:∃y1,y.alloc (.cells #[.int .i64 X1.t,.int .i64 X1.r,.slice av nv cv,.int .i64 X1.W] 83)=y1:=⟨_,rfl⟩
  have g1:Nw y y1:=by rw[←hy1];exact(Nw.refl y).alloc _
  have HN4:=hD0 (HN3.out.trans g1)
  have hal3:=g1.at' hal2
  have HY1:=hD0 hy1
  clear hal2 g1 hy1 HN3
  go_wp2_with fail
  rw[HY1.out]
  clear HY1
  have c1:=(H.out.nw HN4.out).c1
  have c2:=(H.out.nw HN4.out).c2
  have c3:=(H.out.nw HN4.out).c3
  have pl:=Z1 hal3
  have hdr:Nw w y1.drew:=HN4.out.dr
  have hle:=fun(d:Wd (fun y=>y=y1.drew))=>((H.out.nw (show Nw w d.w by rw[d.h];exact hdr)).map).len 3
  have d1:∀d:Wd (fun y=>y=y1.drew),d.w.cell? ⟨o,1,none⟩=some (.int .i64 n):=fun d=>by rw[d.h];exact c1
  have d3:∀d:Wd (fun y=>y=y1.drew),d.w.cell? ⟨o,3,none⟩=some (.map (some mb)):=fun d=>by rw[d.h];exact c3
  have e1:∀d:Wd (fun y=>y=y1.drew),d.w.cell? ⟨pb,2,none⟩=some (.slice xq ql xc):=fun d=>by rw[d.h];exact Z0 (j:=2) hal3
  have hne:Nonempty (Wd (fun y=>y=y1.drew)):=⟨⟨_,rfl⟩⟩
  have hLl:(Z6 l).length=l.length:=List.length_map _
  have hln:=HB.out.len
  rw[hLl] at hln
  have hway:(ql=0∧l.length=n∧Z2a n (Z6 l) L xt xr)∨(((ql=0∧l.length≠n)∨ql≠0)∧(Z2a n (Z6 l) L xt xr↔L.length≤liv L)):=by
   have hg:Z2y (Z6 l) (xt,xr)=none↔ql=0:=by
    rw[Z9c]
    cases e:Uj l (xt,xr) with
    | none=>have:=HD.out.2.2.2.1 e;have:=HD.out.2.2.2.2.2.2.1;simp_all
    | some x =>
     have h1:=HD.out.2.2.2.2.1 x e
     have h2:=HD.out.2.2.2.2.2.2.1
     constructor
     ·intro q;cases q
     ·intro q;rw[q] at h2;exact absurd (List.length_eq_zero_iff.1 h2) h1
   unfold Z2a
   rw[hLl,hg]
   by_cases q0:ql=0
   ·by_cases q1:l.length=n
    ·exact .inl ⟨q0,q1,.inl ⟨q0,by omega⟩⟩
    ·refine .inr ⟨.inl ⟨q0,q1⟩,⟨fun h=>h.elim (fun h=>by omega) id,.inr⟩⟩
   ·exact .inr ⟨.inr q0,⟨fun h=>h.elim (fun h=>absurd h.1 q0) id,.inr⟩⟩
  clear c1 c3 hLl hln
  rcases hway with⟨rfl,hq1,hfu⟩ | ⟨hq,hfu⟩
  ·have j1:((l.length:Int)==(n:Int))=true:=beq_iff_eq.2 (by omega)
   have j2:(l.length==n)=true:=by simpa using hq1
   have HR:=hD0 (Z8r (t:=xt) (r:=xr) (txn:=txn) (m:=m) H.out hdr (by rw[HX.out,if_pos hfu]) (show(8:Int)≠0 by decide))
   clear hfu hq1 hal3 hdr
   refine Yy (fun y=>y=y1.drew) (by kernel_rfl) (by kernel_rfl) rfl ?_
   repeat (first | go_big_quiet_step (fail) | quiet_step (fail))
   refine wpQuiet_nil ?_
   intro d
   rw[d.h]
   clear d hle d1 d3 e1
   clear hne
   go_wp2
   exact bodyPost_ret (v:=.tuple #[.int .i64 0,.bool false,.int .i64 8]) (by simp[results,results29,go_sem, *]) rfl HR.out
  ·have HFu:=hD0 hfu
   have HDr:=hD0 hdr
   clear hfu hdr
   rcases hq with⟨hq0,hq1⟩ | hq0
   ·have j1:((l.length:Int)==(n:Int))=false:=beq_eq_false_iff_ne.2 (by omega)
    have j0:((ql:Int)==0)=true:=beq_iff_eq.2 (by omega)
    have j3:(ql==0)=true:=beq_iff_eq.2 hq0
    clear hq0
    have j2:(l.length==n)=false:=by simpa using hq1
    clear hq1
    refine Yy (fun y=>y=y1.drew) (by kernel_rfl) (by kernel_rfl) rfl ?_
    repeat (first | go_big_quiet_step (fail) | quiet_step (fail))
    refine wpQuiet_nil ?_
    intro d
    rw[d.h]
    clear d hle d1 d3 e1
    clear hne
    obtain⟨y2,hy2⟩:∃y2,y1.drew=y2:=⟨_,rfl⟩
    have hal4:y2.heap[pb]?=some (.cells #[.int .i64 xt,.int .i64 xr,.slice xq ql xc,.int .i64 xW] 83 (0,0)):=by subst hy2;exact hal3
    have HN5:Hid (Nw w y2):=by subst hy2;exact HDr
    have c2':y2.cell? ⟨o,2,none⟩=some (.pointer (some ⟨po,0,none⟩)):=by subst hy2;exact c2
    have pl2:=Z1 hal4
    have hol2:o<y2.heap.size:=lL0 hol HN5.out.sz
    rw[hy2]
    have HTk:=hD0 (Zam (H.out.nw HN5.out).pol)
    clear hy2 hal3 c2 pl HDr
    go_wp2_with fail
    refine HTk.out.mono ?_
    rintro e y3 ⟨rfl,hpt⟩
    have HPt:=hD0 (((H.out.nw HN5.out).pool hpt).pre HN5.out)
    by_cases hf:Zm L<L.length
    ·have hl0:liv L<L.length:=Z41.1 hf
     have he0:Yb n (Z6 l) L xt xr txn m=0:=by rw[HX.out,if_neg (fun e=>by have:=HFu.out.1 e;omega)]
     have htk:tkR L=(↑(Zm L),0):=if_pos hf
     rw[htk]
     obtain⟨hke,hfl,hnn⟩:=Z3y HB.out he0
     have hhq:(hdB (Z6 l) xt xr)=⟨xt,xr,xW,q⟩:=HD.out.2.2.1.symm
     rw[hhq] at hke
     have hpbF:¬F pb:=fun e=>by have:=H.out.pol.own _ e;omega
     obtain⟨F1,hDb1,hF1,ht1,_⟩:=(H.out.nw HN5.out).pool hpt
     have hpF1:¬F1 pb:=fun e=>(hF1 pb e).elim hpbF (fun q=>by omega)
     have hy2s:=HN5.out.sz
     have hpn:pb≠mb:=by have:=H.out.map.lt;omega
     have hal5:y3.heap[pb]?=some (.cells #[.int .i64 xt,.int .i64 xr,.slice xq ql xc,.int .i64 xW] 83 (0,0)):=by
      obtain⟨_,_,_,ht⟩:=hpt
      exact(ht.block pb pl2 hpbF).trans hal4
     have hrd3:Zu y3 (.slice xq ql xc) q:=by
      obtain⟨_,_,_,ht⟩:=hpt
      refine Z1a (HRd.out.nw HN5.out) ht (fun a n c e hqe=>?_)
      simp only[Value.slice.injEq] at e
      exact HD.out.2.2.2.2.2.1 a e.1 hqe
     have p0:=Z0 (j:=0) hal5
     have p1:=Z0 (j:=1) hal5
     have p2:=Z0 (j:=2) hal5
     have p3:=Z0 (j:=3) hal5
     have pz:=fun j=>hfz (j:=j) hal5
     have pl3:=Z1 hal5
     have HA2:=hD0 (Zny xt xr xW (Zm L) txn m (.slice xq ql xc) q y3 (by have:=HD.out.2.1;omega) hok hrd3)
     have hX2:Z0a ⟨xt,xr,xW,q⟩ (Zm L) txn m=(⟨xt,xr,(Ye xW q (Zm L) txn m).1,(Ye xW q (Zm L) txn m).2.1⟩,(Ye xW q (Zm L) txn m).2.2,0):=by unfold Z0a;rw[if_pos hke]
     rw[hX2] at HA2
     unfold Un at HA2
     have HK:=hD0 (aI0 hke (aI0 hfl (aI0 hnn (aI0 he0 hhq))))
     have HDb:=hD0 (aI0 hDb1 (aI0 (show ∀k,F1 k→F k∨w.heap.size≤k from fun k e=>(hF1 k e).imp id (fun q=>by omega)) (aI0 (show Z3 (fun b=>b=mb∨F b) w y3 from(Z3.nw HN5.out).trans ht1) (aI0 hpF1 hpn))))
     clear hke hfl hnn he0 hhq hX2 hDb1 hF1 ht1 hpt hpbF hpn htk hl0 hal4 pl2 c2' HTk hf
     have hsz3:w.heap.size≤y3.heap.size:=HDb.out.2.2.1.size
     have hpl3:pb<y3.heap.size:=pl3
     go_wp2_with fail
     refine HA2.out.mono ?_
     rintro e y4 ⟨v4,rfl,g4,rd4,cap4,fr4⟩
     obtain⟨a4,c4,hv4⟩:=rd4.form
     have HRd4:=hD0 rd4
     have hal6:=g4.at' hal5
     have g4':=hD0 g4
     simp only at HRd4 hv4 ⊢
     generalize hQ:Ye xW q (Zm L) txn m=Q at *
     obtain⟨W4,q4,gr⟩:=Q
     simp only at HRd4 hv4 ⊢
     obtain⟨q4l,hq4l⟩:∃n,q4.length=n:=⟨_,rfl⟩
     rw[hq4l] at hv4
     subst hv4
     have HFr:=hD0 fr4
     clear p0 p1 p2 p3 pz pl3 rd4 cap4 fr4 hal5
     have p0:=Z0 (j:=0) hal6
     have p1:=Z0 (j:=1) hal6
     have p2:=Z0 (j:=2) hal6
     have p3:=Z0 (j:=3) hal6
     have pz:=fun j=>hfz (j:=j) hal6
     have pl4:=Z1 hal6
     have hb6:=Z7g hal6 (.int .i64 xt) (.int .i64 xr) (.slice a4 q4l c4) (.int .i64 W4)
     have ht6:=Z7h y4 pb (.int .i64 xt) (.int .i64 xr) (.slice a4 q4l c4) (.int .i64 W4)
     have hq4:q4≠[]:=by have:=Z7a xW q (Zm L) txn m;rw[hQ] at this;exact this
     have hW4:=HD.out.2.2.2.2.2.2.2
     have hok4:Ok W4 q4:=by have:=Zbx hok (Zm L) txn m HK.out.1 (by omega);rw[hQ] at this;exact this
     have hdn4:Vp q4:=by have:=Z4v hok HD.out.1.done (Zm L) txn m HK.out.1;rw[hQ] at this;exact this
     have hsc:Zc q4=([],q4):=Z39 hdn4
     have hsb:Yn n (Z6 l) L xt xr txn m=(Zz (Z6 l) ⟨xt,xr,W4,q4⟩,tkL L):=by
      unfold Yn Z79
      rw[if_pos HK.out.2.2.2.1,HK.out.2.2.2.2]
      simp only
      rw[hQ]
     have hbr:Z0o n (Z6 l) L xt xr txn m=(↑(Zm L),gr,0):=by
      unfold Z0o
      rw[if_pos HK.out.2.2.2.1,HK.out.2.2.2.2]
      simp only
      rw[hQ]
     have hes:Yl (Z6 l) ⟨xt,xr,W4,q4⟩=Zz (Z6 l) ⟨xt,xr,W4,q4⟩:=by
      unfold Yl scH
      simp only
      rw[hsc]
      simp only
      rw[if_neg hq4]
     have hbl:=(Z4l HB.out (by omega) xt xr txn m).len
     rw[hsb] at hbl
     simp only at hbl
     have hql4:q4.length≤1000:=by
      have:=HD.out.2.1
      have e:=congrArg (fun z=>z.2.1.length) hQ
      simp only at e
      rw[←e]
      unfold Ye
      split<;>simp<;>omega
     have HS6:=hD0 (fun y5 (hd:Db y5 o mb po n l (tkL L) F1) (hr:Zu y5 (.slice a4 q4l c4) q4)=>Vd hd xt xr W4 (.slice a4 q4l c4) q4 wa hql4 hok4 hr (by rw[hes];omega))
     rw[hes,hsc] at HS6
     have hd5:Db ((((y4.setCell ⟨pb,0,none⟩ (.int .i64 xt)).setCell ⟨pb,1,none⟩ (.int .i64 xr)).setCell ⟨pb,2,none⟩ (.slice a4 q4l c4)).setCell ⟨pb,3,none⟩ (.int .i64 W4)) o mb po n l (tkL L) F1:=by
      refine(HDb.out.1.nw g4'.out).tch ht6 (fun e=>by omega) (fun e=>HDb.out.2.2.2.2 e.symm) (fun k e q=>HDb.out.2.2.2.1 (q▸e)) (fun x hx=>⟨fun e=>?_,fun b e hq e2=>?_⟩)
      ·have:=(H.out.ok x hx).lt;omega
      ·obtain⟨a',c',e1,⟨q1,_⟩ | ⟨b',o',e3,hc⟩⟩:=(H.out.ok x hx).rd
       ·exact hq q1
       ·unfold hpV at e1
        rw[e,e3] at e1
        injection e1 with e1 _ _
        injection e1 with e1
        subst e1
        have:=hc.lt
        have e4:(⟨b',o',none⟩:Addr).block=b':=rfl
        omega
     have hr5:Zu ((((y4.setCell ⟨pb,0,none⟩ (.int .i64 xt)).setCell ⟨pb,1,none⟩ (.int .i64 xr)).setCell ⟨pb,2,none⟩ (.slice a4 q4l c4)).setCell ⟨pb,3,none⟩ (.int .i64 W4)) (.slice a4 q4l c4) q4:=by
      refine Z1a HRd4.out ht6 (fun a n' c e hqe e2=>?_)
      obtain⟨a',c',e1,⟨q1,_⟩ | ⟨b',o',e3,hc⟩⟩:=HRd4.out
      ·exact hqe q1
      ·rw[e1,e3] at e
       simp only[Value.slice.injEq,Option.some.injEq] at e
       obtain⟨rfl,_,_⟩:=e
       rw[e3] at e1
       rcases HFr.out b' o' _ _ e1 with q2 | q2
       ·have:b'=pb:=e2
        omega
       ·exact hqe q2
     have HS7:=hD0 (HS6.out _ hd5 hr5)
     have HDt:=hD0 (show V9 w o mb po n F l ((((y4.setCell ⟨pb,0,none⟩ (.int .i64 xt)).setCell ⟨pb,1,none⟩ (.int .i64 xr)).setCell ⟨pb,2,none⟩ (.slice a4 q4l c4)).setCell ⟨pb,3,none⟩ (.int .i64 W4)) l (tkL L) from
      ⟨F1,hd5,HDb.out.2.1,((HDb.out.2.2.1.trans (Z3.nw g4'.out))).trans' ht6 (fun i hi e=>by omega),HdN.refl w l⟩)
     have HTc:=hD0 (((HDb.out.2.2.1.trans (Z3.nw g4'.out))).trans' ht6 (fun i hi e=>by omega))
     have HBS:=hD0 (aI0 hsb hbr)
     simp only[Un]
     clear HS6 hd5 hr5 hql4 hbl hes hbr hsb hsc hdn4 hok4 hW4 hq4 hQ hb6 ht6 hal6
     go_wp2_with fail
     refine HS7.out.mono ?_
     rintro e y6 ⟨vi,l',rfl,_,hl',hto,_⟩
     have HF:=hD0 (show Z73 w o mb po n F l L xt xr txn m (.returned (.tuple #[.int .i64 (Zm L),.bool gr,.int .i64 0])) y6 by
      unfold Z73
      rw[HBS.out.1,HBS.out.2]
      exact⟨rfl,l',hl',V9.comp HDb.out.2.1 HTc.out hto⟩)
     clear hl' hto p0 p1 p2 p3 pz pl4
     go_wp2
     exact bodyPost_ret (v:=.tuple #[.int .i64 (Zm L),.bool gr,.int .i64 0]) (by simp[results,results29,go_sem, *]) rfl HF.out
    ·have hl0:L.length≤liv L:=Nat.le_of_not_lt (fun e=>hf (Z41.2 e))
     have hkl:tkL L=L:=Z5u hf
     have htk:tkR L=(0,8):=if_neg hf
     rw[hkl] at HPt
     rw[htk]
     have HR:=hD0 (Z65 HPt.out (show Yb n (Z6 l) L xt xr txn m=8 by rw[HX.out,if_pos (HFu.out.2 hl0)]) (show(8:Int)≠0 by decide))
     clear hf hl0 hkl htk hpt hal4 pl2
     go_wp2
     exact bodyPost_ret (v:=.tuple #[.int .i64 0,.bool false,.int .i64 8]) (by simp[results,results29,go_sem, *]) rfl HR.out
   ·have j1:((ql:Int)==0)=false:=by simpa using hq0
    have j2:(ql==0)=false:=by simpa using hq0
    clear hq0
    refine Yy (fun y=>y=y1.drew) (by kernel_rfl) (by kernel_rfl) rfl ?_
    repeat (first | go_big_quiet_step (fail) | quiet_step (fail))
    refine wpQuiet_nil ?_
    intro d
    rw[d.h]
    clear d hle d1 d3 e1
    clear hne
    obtain⟨y2,hy2⟩:∃y2,y1.drew=y2:=⟨_,rfl⟩
    have hal4:y2.heap[pb]?=some (.cells #[.int .i64 xt,.int .i64 xr,.slice xq ql xc,.int .i64 xW] 83 (0,0)):=by subst hy2;exact hal3
    have HN5:Hid (Nw w y2):=by subst hy2;exact HDr
    have c2':y2.cell? ⟨o,2,none⟩=some (.pointer (some ⟨po,0,none⟩)):=by subst hy2;exact c2
    have pl2:=Z1 hal4
    have hol2:o<y2.heap.size:=lL0 hol HN5.out.sz
    rw[hy2]
    have HTk:=hD0 (Zam (H.out.nw HN5.out).pol)
    clear hy2 hal3 c2 pl HDr
    go_wp2_with fail
    refine HTk.out.mono ?_
    rintro e y3 ⟨rfl,hpt⟩
    have HPt:=hD0 (((H.out.nw HN5.out).pool hpt).pre HN5.out)
    by_cases hf:Zm L<L.length
    ·have hl0:liv L<L.length:=Z41.1 hf
     have he0:Yb n (Z6 l) L xt xr txn m=0:=by rw[HX.out,if_neg (fun e=>by have:=HFu.out.1 e;omega)]
     have htk:tkR L=(↑(Zm L),0):=if_pos hf
     rw[htk]
     obtain⟨hke,hfl,hnn⟩:=Z3y HB.out he0
     have hhq:(hdB (Z6 l) xt xr)=⟨xt,xr,xW,q⟩:=HD.out.2.2.1.symm
     rw[hhq] at hke
     have hpbF:¬F pb:=fun e=>by have:=H.out.pol.own _ e;omega
     obtain⟨F1,hDb1,hF1,ht1,_⟩:=(H.out.nw HN5.out).pool hpt
     have hpF1:¬F1 pb:=fun e=>(hF1 pb e).elim hpbF (fun q=>by omega)
     have hy2s:=HN5.out.sz
     have hpn:pb≠mb:=by have:=H.out.map.lt;omega
     have hal5:y3.heap[pb]?=some (.cells #[.int .i64 xt,.int .i64 xr,.slice xq ql xc,.int .i64 xW] 83 (0,0)):=by
      obtain⟨_,_,_,ht⟩:=hpt
      exact(ht.block pb pl2 hpbF).trans hal4
     have hrd3:Zu y3 (.slice xq ql xc) q:=by
      obtain⟨_,_,_,ht⟩:=hpt
      refine Z1a (HRd.out.nw HN5.out) ht (fun a n c e hqe=>?_)
      simp only[Value.slice.injEq] at e
      exact HD.out.2.2.2.2.2.1 a e.1 hqe
     have p0:=Z0 (j:=0) hal5
     have p1:=Z0 (j:=1) hal5
     have p2:=Z0 (j:=2) hal5
     have p3:=Z0 (j:=3) hal5
     have pz:=fun j=>hfz (j:=j) hal5
     have pl3:=Z1 hal5
     have HA2:=hD0 (Zny xt xr xW (Zm L) txn m (.slice xq ql xc) q y3 (by have:=HD.out.2.1;omega) hok hrd3)
     have hX2:Z0a ⟨xt,xr,xW,q⟩ (Zm L) txn m=(⟨xt,xr,(Ye xW q (Zm L) txn m).1,(Ye xW q (Zm L) txn m).2.1⟩,(Ye xW q (Zm L) txn m).2.2,0):=by unfold Z0a;rw[if_pos hke]
     rw[hX2] at HA2
     unfold Un at HA2
     have HK:=hD0 (aI0 hke (aI0 hfl (aI0 hnn (aI0 he0 hhq))))
     have HDb:=hD0 (aI0 hDb1 (aI0 (show ∀k,F1 k→F k∨w.heap.size≤k from fun k e=>(hF1 k e).imp id (fun q=>by omega)) (aI0 (show Z3 (fun b=>b=mb∨F b) w y3 from(Z3.nw HN5.out).trans ht1) (aI0 hpF1 hpn))))
     clear hke hfl hnn he0 hhq hX2 hDb1 hF1 ht1 hpt hpbF hpn htk hl0 hal4 pl2 c2' HTk hf
     have hsz3:w.heap.size≤y3.heap.size:=HDb.out.2.2.1.size
     have hpl3:pb<y3.heap.size:=pl3
     go_wp2_with fail
     refine HA2.out.mono ?_
     rintro e y4 ⟨v4,rfl,g4,rd4,cap4,fr4⟩
     obtain⟨a4,c4,hv4⟩:=rd4.form
     have HRd4:=hD0 rd4
     have hal6:=g4.at' hal5
     have g4':=hD0 g4
     simp only at HRd4 hv4 ⊢
     generalize hQ:Ye xW q (Zm L) txn m=Q at *
     obtain⟨W4,q4,gr⟩:=Q
     simp only at HRd4 hv4 ⊢
     obtain⟨q4l,hq4l⟩:∃n,q4.length=n:=⟨_,rfl⟩
     rw[hq4l] at hv4
     subst hv4
     have HFr:=hD0 fr4
     clear p0 p1 p2 p3 pz pl3 rd4 cap4 fr4 hal5
     have p0:=Z0 (j:=0) hal6
     have p1:=Z0 (j:=1) hal6
     have p2:=Z0 (j:=2) hal6
     have p3:=Z0 (j:=3) hal6
     have pz:=fun j=>hfz (j:=j) hal6
     have pl4:=Z1 hal6
     have hb6:=Z7g hal6 (.int .i64 xt) (.int .i64 xr) (.slice a4 q4l c4) (.int .i64 W4)
     have ht6:=Z7h y4 pb (.int .i64 xt) (.int .i64 xr) (.slice a4 q4l c4) (.int .i64 W4)
     have hq4:q4≠[]:=by have:=Z7a xW q (Zm L) txn m;rw[hQ] at this;exact this
     have hW4:=HD.out.2.2.2.2.2.2.2
     have hok4:Ok W4 q4:=by have:=Zbx hok (Zm L) txn m HK.out.1 (by omega);rw[hQ] at this;exact this
     have hdn4:Vp q4:=by have:=Z4v hok HD.out.1.done (Zm L) txn m HK.out.1;rw[hQ] at this;exact this
     have hsc:Zc q4=([],q4):=Z39 hdn4
     have hsb:Yn n (Z6 l) L xt xr txn m=(Zz (Z6 l) ⟨xt,xr,W4,q4⟩,tkL L):=by
      unfold Yn Z79
      rw[if_pos HK.out.2.2.2.1,HK.out.2.2.2.2]
      simp only
      rw[hQ]
     have hbr:Z0o n (Z6 l) L xt xr txn m=(↑(Zm L),gr,0):=by
      unfold Z0o
      rw[if_pos HK.out.2.2.2.1,HK.out.2.2.2.2]
      simp only
      rw[hQ]
     have hes:Yl (Z6 l) ⟨xt,xr,W4,q4⟩=Zz (Z6 l) ⟨xt,xr,W4,q4⟩:=by
      unfold Yl scH
      simp only
      rw[hsc]
      simp only
      rw[if_neg hq4]
     have hbl:=(Z4l HB.out (by omega) xt xr txn m).len
     rw[hsb] at hbl
     simp only at hbl
     have hql4:q4.length≤1000:=by
      have:=HD.out.2.1
      have e:=congrArg (fun z=>z.2.1.length) hQ
      simp only at e
      rw[←e]
      unfold Ye
      split<;>simp<;>omega
     have HS6:=hD0 (fun y5 (hd:Db y5 o mb po n l (tkL L) F1) (hr:Zu y5 (.slice a4 q4l c4) q4)=>Vd hd xt xr W4 (.slice a4 q4l c4) q4 wa hql4 hok4 hr (by rw[hes];omega))
     rw[hes,hsc] at HS6
     have hd5:Db ((((y4.setCell ⟨pb,0,none⟩ (.int .i64 xt)).setCell ⟨pb,1,none⟩ (.int .i64 xr)).setCell ⟨pb,2,none⟩ (.slice a4 q4l c4)).setCell ⟨pb,3,none⟩ (.int .i64 W4)) o mb po n l (tkL L) F1:=by
      refine(HDb.out.1.nw g4'.out).tch ht6 (fun e=>by omega) (fun e=>HDb.out.2.2.2.2 e.symm) (fun k e q=>HDb.out.2.2.2.1 (q▸e)) (fun x hx=>⟨fun e=>?_,fun b e hq e2=>?_⟩)
      ·have:=(H.out.ok x hx).lt;omega
      ·obtain⟨a',c',e1,⟨q1,_⟩ | ⟨b',o',e3,hc⟩⟩:=(H.out.ok x hx).rd
       ·exact hq q1
       ·unfold hpV at e1
        rw[e,e3] at e1
        injection e1 with e1 _ _
        injection e1 with e1
        subst e1
        have:=hc.lt
        have e4:(⟨b',o',none⟩:Addr).block=b':=rfl
        omega
     have hr5:Zu ((((y4.setCell ⟨pb,0,none⟩ (.int .i64 xt)).setCell ⟨pb,1,none⟩ (.int .i64 xr)).setCell ⟨pb,2,none⟩ (.slice a4 q4l c4)).setCell ⟨pb,3,none⟩ (.int .i64 W4)) (.slice a4 q4l c4) q4:=by
      refine Z1a HRd4.out ht6 (fun a n' c e hqe e2=>?_)
      obtain⟨a',c',e1,⟨q1,_⟩ | ⟨b',o',e3,hc⟩⟩:=HRd4.out
      ·exact hqe q1
      ·rw[e1,e3] at e
       simp only[Value.slice.injEq,Option.some.injEq] at e
       obtain⟨rfl,_,_⟩:=e
       rw[e3] at e1
       rcases HFr.out b' o' _ _ e1 with q2 | q2
       ·have:b'=pb:=e2
        omega
       ·exact hqe q2
     have HS7:=hD0 (HS6.out _ hd5 hr5)
     have HDt:=hD0 (show V9 w o mb po n F l ((((y4.setCell ⟨pb,0,none⟩ (.int .i64 xt)).setCell ⟨pb,1,none⟩ (.int .i64 xr)).setCell ⟨pb,2,none⟩ (.slice a4 q4l c4)).setCell ⟨pb,3,none⟩ (.int .i64 W4)) l (tkL L) from
      ⟨F1,hd5,HDb.out.2.1,((HDb.out.2.2.1.trans (Z3.nw g4'.out))).trans' ht6 (fun i hi e=>by omega),HdN.refl w l⟩)
     have HTc:=hD0 (((HDb.out.2.2.1.trans (Z3.nw g4'.out))).trans' ht6 (fun i hi e=>by omega))
     have HBS:=hD0 (aI0 hsb hbr)
     simp only[Un]
     clear HS6 hd5 hr5 hql4 hbl hes hbr hsb hsc hdn4 hok4 hW4 hq4 hQ hb6 ht6 hal6
     go_wp2_with fail
     refine HS7.out.mono ?_
     rintro e y6 ⟨vi,l',rfl,_,hl',hto,_⟩
     have HF:=hD0 (show Z73 w o mb po n F l L xt xr txn m (.returned (.tuple #[.int .i64 (Zm L),.bool gr,.int .i64 0])) y6 by
      unfold Z73
      rw[HBS.out.1,HBS.out.2]
      exact⟨rfl,l',hl',V9.comp HDb.out.2.1 HTc.out hto⟩)
     clear hl' hto p0 p1 p2 p3 pz pl4
     go_wp2
     exact bodyPost_ret (v:=.tuple #[.int .i64 (Zm L),.bool gr,.int .i64 0]) (by simp[results,results29,go_sem, *]) rfl HF.out
    ·have hl0:L.length≤liv L:=Nat.le_of_not_lt (fun e=>hf (Z41.2 e))
     have hkl:tkL L=L:=Z5u hf
     have htk:tkR L=(0,8):=if_neg hf
     rw[hkl] at HPt
     rw[htk]
     have HR:=hD0 (Z65 HPt.out (show Yb n (Z6 l) L xt xr txn m=8 by rw[HX.out,if_pos (HFu.out.2 hl0)]) (show(8:Int)≠0 by decide))
     clear hf hl0 hkl htk hpt hal4 pl2
     go_wp2
     exact bodyPost_ret (v:=.tuple #[.int .i64 0,.bool false,.int .i64 8]) (by simp[results,results29,go_sem, *]) rfl HR.out
 ·have hne:(E1 != 0)=true:=by simpa using he1
  have hne2:(E1==0)=false:=by simpa using he1
  have HR:=hD0 (Z8r (t:=xt) (r:=xr) (txn:=txn) (m:=m) H.out (HN3.out.alloc (.cells #[.int .i64 X1.t,.int .i64 X1.r,.slice av nv cv,.int .i64 X1.W] 83)) (show Yb n (Z6 l) L xt xr txn m=E1 by
   unfold Yb
   rw[←HE.out]
   have:=HE.out
   by_cases hb:Z0s m
   ·rw[if_pos hb,if_pos hb]
   ·rw[if_neg hb] at this ⊢
    rw[if_neg hb]
    by_cases ht:twB (Z6 l) xt xr txn=true
    ·rw[if_pos ht,if_pos ht]
    ·rw[if_neg ht] at this;exact absurd this.symm he1) he1)
  clear hE hal2
  go_wp2
  exact bodyPost_ret (v:=.tuple #[.int .i64 0,.bool false,.int .i64 E1]) (by simp[results,results29,go_sem, *]) rfl HR.out
theorem Yg{l:List Hp}{id:Int}{x:Hp}(e:whP l id=some x):Zb l id=x∧x∈l∧∃r,Va x.h.q id=some r:=by
 refine⟨by unfold Zb;rw[e];rfl,List.mem_of_find?_eq_some e,?_⟩
 have:=List.find?_some e
 exact Option.isSome_iff_exists.1 this
theorem V5{l:List Hp}{id:Int}(e:whP l id=none):Zb l id=Zcb:=by unfold Zb;rw[e];rfl
theorem Z5y{w:World}{o mb po n:Nat}{l:List Hp}{L:List Bool}{F:Nat→Prop}(h:Db w o mb po n l L F)(id:Int):Zu w (hpV (Zb l id)) (Zb l id).h.q:=by
 cases e:whP l id with
 | none=>rw[V5 e];exact Rd.nil w
 | some x=>rw[(Yg e).1];exact(h.ok x (Yg e).2.1).rd
theorem Z8l{n k:Nat}{l:List Hp}{L:List Bool}{X:List Int}(b:Ze n k (Z6 l) X L)(id:Int):Z74 (Zb l id).h∧(Zb l id).h.W≤k∧(Zb l id).h.q.length≤k:=by
 cases e:whP l id with
 | none=>rw[V5 e];exact⟨Zd6 0 0,by show(0:Int)≤(k:Int);omega,Nat.zero_le _⟩
 | some x =>
  rw[(Yg e).1]
  have hm:x.h∈Z6 l:=List.mem_map.2 ⟨x,(Yg e).2.1,rfl⟩
  exact⟨b.inv _ hm,b.wt _ hm,b.ql _ hm⟩
def Zjv(w:World)(o mb po n:Nat)(F:Nat→Prop)(l:List Hp)(L:List Bool)(id:Int)(X:Hq)(E:Int)(e:Ending)(w':World):Prop :=
 (E≠0→e=.returned (.tuple #[.slice none 0 0,.int .i64 E])∧Nw w w') ∧
 (E=0→∃vi l',e=.returned (.tuple #[vi,.int .i64 0])∧IS w' vi (Zc X.q).1∧Z6 l'=Yl (Z6 l) X∧V9 w o mb po n F l w' l' (if (Va X.q id).isSome=true then L else gvL L id)∧∀b,vi.ownBlock=some b→w.heap.size≤b)
theorem Zn5{w:World}{o mb po n:Nat}{l:List Hp}{L:List Bool}{F:Nat→Prop}(h:Db w o mb po n l L F)(id:Int)(g:Nat)(eg:∀args w,(callFunc g args).run prog w=.ok (.enter g args) w)(X:Hq)(E:Int)
  (hC:∀w1,Nw w w1→Calls prog g #[hpH (Zb l id),.int .i64 id] w1 (HD1 (X,E) w1))
  (hX:E=0→wfN (X.t,X.r)∧X.q.length≤1000∧Ok X.W X.q∧(Yl (Z6 l) X).length≤64) :
  Calls prog 59 #[.pointer (some ⟨o,0,none⟩),.int .i64 id,.func (.func g) #[] #[]] w (Zjv w o mb po n F l L id X E):=by
 have H:=hD0 h
 have hol:=h.ol
 have HMd:=hD0 (Yw o w h.c0)
 have HWi:=hD0 (Z2r h id)
 have HC:=hD0 hC
 have HX:=hD0 hX
 obtain⟨V,hV⟩:∃V,hpH (Zb l id)=V:=⟨_,rfl⟩
 rw[hV] at HWi HC
 have hVa:∃c,V=.agg c:=⟨_,hV.symm⟩
 clear h hC hX hV
 obtain⟨cs,rfl⟩:=hVa
 go_enter func59,ntmps59
 go_wp2_with fail
 refine HMd.out.mono ?_
 rintro e w' ⟨rfl,rfl⟩
 go_wp2_with fail
 refine HWi.out.mono ?_
 rintro e w1 ⟨rfl,g1⟩
 go_wp2_with fail
 refine(HC.out _ g1).mono ?_
 rintro e w2 ⟨v2,rfl,g2,rd2,cap2,fr2⟩
 obtain⟨a2,c2,hv2⟩:=rd2.form
 obtain⟨q2l,hq2⟩:∃q2l,X.q.length=q2l:=⟨_,rfl⟩
 simp only at hv2 rd2
 rw[hq2] at hv2
 subst hv2
 have HG:=hD0 (g1.trans g2)
 have HRd:=hD0 (aI0 rd2 (aI0 fr2 (aI0 hq2 g1)))
 obtain⟨Xt,Xr,XW,Xq⟩:=X
 simp only[Un]
 clear g1 g2 rd2 cap2 fr2 hq2
 by_cases he:E=0
 ·subst he
  obtain⟨hwa,hxl,hxo,hxe⟩:=HX.out rfl
  simp only at hwa hxl hxo hxe
  obtain⟨y1,hy1⟩:∃y1,w2.alloc (.cells #[.int .i64 Xt,.int .i64 Xr,.slice a2 q2l c2,.int .i64 XW] 83)=y1:=⟨_,rfl⟩
  have hal:=Z2 w2 (.cells #[.int .i64 Xt,.int .i64 Xr,.slice a2 q2l c2,.int .i64 XW] 83)
  rw[hy1] at hal
  have g3:Nw w2 y1:=by rw[←hy1];exact(Nw.refl w2).alloc _
  have hrd:=HRd.out.1.nw g3
  have HFi:=hD0 (fun w3 (g:Nw y1 w3)=>Zba Xt Xr XW id (.slice a2 q2l c2) Xq w3 hxl (hrd.nw g))
  obtain⟨b0,b1,b2,b3,b4,hv,_⟩:=Zcr Xq id
  rw[hv] at HFi
  unfold Un at HFi
  obtain⟨yb,hyb⟩:∃yb,(Va Xq id).isSome=yb:=⟨_,rfl⟩
  rw[hyb] at HFi
  have HY:=hD0 hy1
  have HG1:=hD0 (HG.out.trans g3)
  have HXx:=hD0 (aI0 hwa (aI0 hxl (aI0 hxo (aI0 hxe hyb))))
  have hpb:w.heap.size≤w2.heap.size:=HG.out.sz
  clear hy1 g3 hv hwa hxl hxo hxe hyb
  go_wp2_with fail
  rw[HY.out]
  refine(HFi.out _ (Nw.refl _)).mono ?_
  rintro e y2 ⟨rfl,g4⟩
  obtain⟨y3,hy3⟩:∃y3,y2.alloc (.cells #[.int .i64 b0,.int .i64 b1,.int .i64 b2,.int .i64 b3,.int .i64 b4] 43)=y3:=⟨_,rfl⟩
  have g5:Nw y2 y3:=by rw[←hy3];exact(Nw.refl y2).alloc _
  have HY3:=hD0 hy3
  have hal3:=(g4.trans g5).at' hal
  have hrd3:=hrd.nw (g4.trans g5)
  have HG3:=hD0 (HG1.out.trans (g4.trans g5))
  have hbl:w2.heap.size<y3.heap.size:=Z1 hal3
  have hal2:=g4.at' hal
  have HG2:=hD0 (HG1.out.trans g4)
  clear hy3 hal hrd HFi HY
  generalize w2.heap.size=pb at *
  have c2':=(H.out.nw HG2.out).c2
  have hol3:o<y2.heap.size:=lL0 hol HG2.out.sz
  have p0:=Z0 (j:=0) hal2
  have p1:=Z0 (j:=1) hal2
  have p2:=Z0 (j:=2) hal2
  have p3:=Z0 (j:=3) hal2
  have pl2:=Z1 hal2
  clear hal2
  have hes:=HXx.out.2.2.2.1
  cases yb
  ·have HGv:=hD0 (Zh6 (H.out.nw HG3.out).pol id)
   go_wp2_with fail
   rw[HY3.out]
   refine HGv.out.mono ?_
   rintro e y4 ⟨rfl,hpt⟩
   obtain⟨F1,hDb1,hF1,ht1,_⟩:=(H.out.nw HG3.out).pool hpt
   have hpbF:¬F pb:=fun e=>by have:=H.out.pol.own _ e;omega
   obtain⟨_,_,_,hpt'⟩:=hpt
   have hal4:=(hpt'.block pb hbl hpbF).trans hal3
   have hrd4:Zu y4 (.slice a2 q2l c2) Xq:=Z1a hrd3 hpt' (fun a n c e hqe e2=>by
    simp only[Value.slice.injEq] at e
    obtain⟨rfl,rfl,rfl⟩:=e
    obtain⟨a',c',e1,⟨q1,_⟩ | ⟨b',o',e3,_⟩⟩:=HRd.out.1
    ·exact hqe q1
    ·rw[e3] at e1
     injection e1 with e1 _ _
     injection e1 with e1
     subst e1
     rcases HRd.out.2.1 b' o' _ _ rfl with q2 | q2
     ·have:=H.out.pol.own _ e2
      have:=HRd.out.2.2.2.sz
      have e4:(⟨b',o',none⟩:Addr).block=b':=rfl
      omega
     ·exact hqe q2)
   have HS:=hD0 (Vd hDb1 Xt Xr XW (.slice a2 q2l c2) Xq HXx.out.1 HXx.out.2.1 HXx.out.2.2.1 hrd4 hes)
   have HK:=hD0 (aI0 (show ∀k,F1 k→F k∨w.heap.size≤k from fun k e=>(hF1 k e).imp (fun q=>q) (fun q=>by have:=HG3.out.sz;omega)) (show Z3 (fun b=>b=mb∨F b) w y4 from(Z3.nw HG3.out).trans ht1))
   have hys:w.heap.size≤y4.heap.size:=HK.out.2.size
   have p0:=Z0 (j:=0) hal4
   have p1:=Z0 (j:=1) hal4
   have p2:=Z0 (j:=2) hal4
   have p3:=Z0 (j:=3) hal4
   have pl4:=Z1 hal4
   clear hal3 hal4 hDb1 hF1 ht1 hpt' hpbF hrd4 hrd3 hes c2'
   go_wp2_with fail
   refine HS.out.mono ?_
   rintro e y5 ⟨vi,l',rfl,his,hl',hto,hin⟩
   have HR:=hD0 (show Zjv w o mb po n F l L id ⟨Xt,Xr,XW,Xq⟩ 0 (.returned (.tuple #[vi,.int .i64 0])) y5 from⟨fun e=>absurd rfl e,fun _=>⟨vi,l',rfl,his,hl',by rw[if_neg (by rw[HXx.out.2.2.2.2];simp)];exact V9.comp HK.out.1 HK.out.2 hto,fun b e=>Nat.le_trans hys (hin b e)⟩⟩)
   clear his hl' hto hin p0 p1 p2 p3
   go_wp2
   exact bodyPost_ret (v:=.tuple #[vi,.int .i64 0]) (by simp[results,results59,go_sem, *]) rfl HR.out
  ·have HS:=hD0 (Vd (H.out.nw HG3.out) Xt Xr XW (.slice a2 q2l c2) Xq HXx.out.1 HXx.out.2.1 HXx.out.2.2.1 hrd3 hes)
   clear hal3 hrd3 hes c2'
   go_wp2_with fail
   rw[HY3.out]
   refine HS.out.mono ?_
   rintro e y5 ⟨vi,l',rfl,his,hl',hto,hin⟩
   have hys:w.heap.size≤y3.heap.size:=HG3.out.sz
   have HR:=hD0 (show Zjv w o mb po n F l L id ⟨Xt,Xr,XW,Xq⟩ 0 (.returned (.tuple #[vi,.int .i64 0])) y5 from⟨fun e=>absurd rfl e,fun _=>⟨vi,l',rfl,his,hl',by rw[if_pos (by rw[HXx.out.2.2.2.2])];exact hto.pre HG3.out,fun b e=>Nat.le_trans hys (hin b e)⟩⟩)
   clear his hl' hto hin p0 p1 p2 p3
   go_wp2
   exact bodyPost_ret (v:=.tuple #[vi,.int .i64 0]) (by simp[results,results59,go_sem, *]) rfl HR.out
 ·have hne:(E != 0)=true:=by simpa using he
  have hne2:(E==0)=false:=by simpa using he
  have HR:=hD0 (HG.out.alloc (.cells #[.int .i64 Xt,.int .i64 Xr,.slice a2 q2l c2,.int .i64 XW] 83))
  have HE:=hD0 he
  clear he
  go_wp2
  exact bodyPost_ret (v:=.tuple #[.slice none 0 0,.int .i64 E]) (by simp[results,results59,go_sem, *]) rfl (show Zjv w o mb po n F l L id ⟨Xt,Xr,XW,Xq⟩ E _ _ from⟨fun _=>⟨rfl,HR.out⟩,fun e=>absurd e HE.out⟩)
theorem Zdv{q:List Rq}{id:Int}{r:Rq}(hf:Va q id=some r):(Va (abQ r q) id).isSome=!decide (r.md=0):=by
 obtain⟨hr,hi⟩:=Z50 hf
 unfold abQ
 by_cases hm:r.md=0
 ·rw[if_pos hm]
  have:Va (lvQ r.id q) id=none:=by
   refine List.find?_eq_none.2 fun x hx=>?_
   have:=(List.mem_filter.1 hx).2
   rw[←hi]
   simpa using this
  rw[this]
  simp[hm]
 ·rw[if_neg hm]
  have:(Va (Um abR r.id q) id).isSome=true:=by
   unfold Va
   rw[List.find?_isSome]
   exact⟨abR r,List.mem_map.2 ⟨r,hr,if_pos rfl⟩,by simp[abR,hi]⟩
  rw[this]
  simp[hm]
theorem Zlr(q:List Rq)(id:Int):Va (lvQ id q) id=none:=by
 unfold Va lvQ
 rw[List.find?_eq_none]
 intro x hx
 have:=(List.mem_filter.1 hx).2
 simpa using this
def Zay(w:World)(o mb po n:Nat)(F:Nat→Prop)(l:List Hp)(R:List Int × Int)(S:List Hq × List Bool)(e:Ending)(w':World):Prop :=
 ∃vi l',e=.returned (.tuple #[vi,.int .i64 R.2])∧IS w' vi R.1∧Z6 l'=S.1∧V9 w o mb po n F l w' l' S.2∧∀b,vi.ownBlock=some b→w.heap.size≤b
theorem Ul(l:List Hp)(id:Int):Zs (Z6 l) id=(whP l id).map Hp.h:=Zp8 l id
theorem Zkq:∀args w,(callFunc 60 args).run prog w=.ok (.enter 60 args) w:=enters_of func60 (by kernel_rfl) rfl
theorem Ze7:∀args w,(callFunc 61 args).run prog w=.ok (.enter 61 args) w:=enters_of func61 (by kernel_rfl) rfl
theorem Zlk{w:World}{o mb po n k:Nat}{l:List Hp}{L:List Bool}{F:Nat→Prop}(h:Db w o mb po n l L F){X:List Int}(b:Ze n k (Z6 l) X L)(hk:k≤800)(hn:n≤64)(id:Int) :
  Calls prog 33 #[.pointer (some ⟨o,0,none⟩),.int .i64 id] w (Zay w o mb po n F l (Z5a (Z6 l) id) (U5 (Z6 l) L id)):=by
 obtain⟨hi,hW,hql⟩:=Z8l b id
 have hbl:=(Z7e b id).len
 obtain⟨X,hX⟩:∃X,lvR (Zb l id).h id=X:=⟨_,rfl⟩
 have hC:=fun w1 (g:Nw w w1)=>Zo2 (Zb l id).h.t (Zb l id).h.r (Zb l id).h.W id (hpV (Zb l id)) (Zb l id).h.q w1 (by omega) ((Z5y h id).nw g)
 rw[show(⟨(Zb l id).h.t,(Zb l id).h.r,(Zb l id).h.W,(Zb l id).h.q⟩:Hq)=(Zb l id).h from rfl,hX] at hC
 have key:(X.2=0→wfN (X.1.t,X.1.r)∧X.1.q.length≤1000∧Ok X.1.W X.1.q∧(Yl (Z6 l) X.1).length≤64)∧((X.2=5∧Z5a (Z6 l) id=([],5)∧U5 (Z6 l) L id=(Z6 l,L))∨(X.2=0∧Z5a (Z6 l) id=((Zc X.1.q).1,0)∧U5 (Z6 l) L id=(Yl (Z6 l) X.1,gvL L id)∧(Va X.1.q id).isSome=false)):=by
  cases e:whP l id with
  | none =>
   have e0:X=(noH,5):=by rw[←hX,V5 e];rfl
   have e1:Zs (Z6 l) id=none:=by rw[Ul,e];rfl
   subst e0
   exact⟨fun q=>(by cases q),.inl ⟨rfl,by unfold Z5a;rw[e1],by unfold U5;rw[e1]⟩⟩
  | some x =>
   obtain⟨ex,hx,r,hr⟩:=Yg e
   have e1:Zs (Z6 l) id=some x.h:=by rw[Ul,e];rfl
   have e0:X=(⟨x.h.t,x.h.r,x.h.W,lvQ id x.h.q⟩,0):=by rw[←hX,ex];unfold lvR;rw[hr]
   rw[ex] at hi hW hql
   subst e0
   have hS:U5 (Z6 l) L id=(Yl (Z6 l) ⟨x.h.t,x.h.r,x.h.W,lvQ id x.h.q⟩,gvL L id):=by unfold U5;rw[e1]
   rw[hS] at hbl
   simp only at hbl
   exact⟨fun _=>⟨h.map.wf x hx,by have:=Z83 id x.h.q;simp only;omega,Zig hi.ok id,by simp only;omega⟩,.inr ⟨rfl,by unfold Z5a;rw[e1],hS,by simp only;rw[Zlr];rfl⟩⟩
 have HDB:=hD0 h
 have HE:=hD0 (Zn5 h id 60 Zkq X.1 X.2 hC key.1)
 have HK:=hD0 key.2
 clear hC key hbl hi hW hql hX h b
 go_enter func33,ntmps33
 go_wp2_with fail
 refine HE.out.mono ?_
 rintro e w' ⟨h1,h2⟩
 rcases HK.out with⟨k1,k2,k3⟩ | ⟨k1,k2,k3,k4⟩
 ·obtain⟨rfl,g⟩:=h1 (by rw[k1];decide)
  have HR:=hD0 (aI0 k2 (aI0 k3 g))
  rw[k1]
  clear h1 h2 k2 k3 g
  go_wp2
  refine bodyPost_ret (v:=.tuple #[.slice none 0 0,.int .i64 5]) (by simp[results,results33,go_sem, *]) rfl ?_
  unfold Zay
  rw[HR.out.1,HR.out.2.1]
  exact⟨_,l,rfl,IS.nil _,rfl,HDB.out.to HR.out.2.2,fun b e=>by cases e⟩
 ·obtain⟨vi,l',rfl,his,hl',hto,hin⟩:=h2 k1
  have HR:=hD0 (aI0 k2 (aI0 k3 (aI0 his (aI0 hl' (aI0 hto (aI0 hin k4))))))
  clear h1 h2 k2 k3 k4 his hl' hto hin
  go_wp2
  refine bodyPost_ret (v:=.tuple #[vi,.int .i64 0]) (by simp[results,results33,go_sem, *]) rfl ?_
  unfold Zay
  rw[HR.out.1,HR.out.2.1]
  exact⟨_,l',rfl,HR.out.2.2.1,HR.out.2.2.2.1,by have:=HR.out.2.2.2.2.1;rw[if_neg (by rw[HR.out.2.2.2.2.2.2];simp)] at this;exact this,HR.out.2.2.2.2.2.1⟩
theorem Zdt{w:World}{o mb po n k:Nat}{l:List Hp}{L:List Bool}{F:Nat→Prop}(h:Db w o mb po n l L F){X:List Int}(b:Ze n k (Z6 l) X L)(hk:k≤800)(hn:n≤64)(id:Int) :
  Calls prog 34 #[.pointer (some ⟨o,0,none⟩),.int .i64 id] w (Zay w o mb po n F l (Z3q (Z6 l) id) (V6 (Z6 l) L id)):=by
 obtain⟨hi,hW,hql⟩:=Z8l b id
 have hbl:=(Z7d b id).len
 obtain⟨X,hX⟩:∃X,Z1k (Zb l id).h id=X:=⟨_,rfl⟩
 have hC:=fun w1 (g:Nw w w1)=>Zga (Zb l id).h.t (Zb l id).h.r (Zb l id).h.W id (hpV (Zb l id)) (Zb l id).h.q w1 (by omega) hi.ok ((Z5y h id).nw g)
 rw[show(⟨(Zb l id).h.t,(Zb l id).h.r,(Zb l id).h.W,(Zb l id).h.q⟩:Hq)=(Zb l id).h from rfl,hX] at hC
 have key:(X.2=0→wfN (X.1.t,X.1.r)∧X.1.q.length≤1000∧Ok X.1.W X.1.q∧(Yl (Z6 l) X.1).length≤64)∧((X.2≠0∧Z3q (Z6 l) id=([],X.2)∧V6 (Z6 l) L id=(Z6 l,L))∨(X.2=0∧Z3q (Z6 l) id=((Zc X.1.q).1,0)∧V6 (Z6 l) L id=(Yl (Z6 l) X.1,if (Va X.1.q id).isSome=true then L else gvL L id))):=by
  cases e:whP l id with
  | none =>
   have e0:X=(noH,5):=by rw[←hX,V5 e];rfl
   have e1:Zs (Z6 l) id=none:=by rw[Ul,e];rfl
   subst e0
   exact⟨fun q=>(by cases q),.inl ⟨by decide,by unfold Z3q;rw[e1],by unfold V6;rw[e1]⟩⟩
  | some x =>
   obtain⟨ex,hx,r,hr⟩:=Yg e
   have e1:Zs (Z6 l) id=some x.h:=by rw[Ul,e];rfl
   have er:=Zc0 hr
   rw[ex] at hi hW hql
   by_cases hsn:0<r.sn
   ·have e0:X=(⟨x.h.t,x.h.r,x.h.W,abQ r x.h.q⟩,0):=by rw[←hX,ex];unfold Z1k;rw[hr];simp only;rw[if_pos hsn]
    subst e0
    have hf:=Zdv hr
    have hS:V6 (Z6 l) L id=(Yl (Z6 l) ⟨x.h.t,x.h.r,x.h.W,abQ r x.h.q⟩,if (Va (abQ r x.h.q) id).isSome=true then L else gvL L id):=by
     unfold V6
     rw[e1]
     simp only[er]
     rw[if_pos hsn,hf]
     by_cases hm:r.md=0<;>simp[hm]
    rw[hS] at hbl
    simp only at hbl
    exact⟨fun _=>⟨h.map.wf x hx,by have:=Zcd r x.h.q;simp only;omega,Zif hi.ok r (Zbf hr).1,by simp only;omega⟩,.inr ⟨rfl,by unfold Z3q;rw[e1];simp only[er];rw[if_pos hsn],hS⟩⟩
   ·have e0:X=(noH,7):=by rw[←hX,ex];unfold Z1k;rw[hr];simp only;rw[if_neg hsn]
    subst e0
    exact⟨fun q=>(by cases q),.inl ⟨by decide,by unfold Z3q;rw[e1];simp only[er];rw[if_neg hsn],by unfold V6;rw[e1];simp only[er];rw[if_neg hsn]⟩⟩
 have HDB:=hD0 h
 have HE:=hD0 (Zn5 h id 61 Ze7 X.1 X.2 hC key.1)
 have HK:=hD0 key.2
 clear hC key hbl hi hW hql hX h b
 go_enter func34,ntmps34
 go_wp2_with fail
 refine HE.out.mono ?_
 rintro e w' ⟨h1,h2⟩
 rcases HK.out with⟨k1,k2,k3⟩ | ⟨k1,k2,k3⟩
 ·obtain⟨rfl,g⟩:=h1 k1
  have HR:=hD0 (aI0 k2 (aI0 k3 g))
  generalize X.2=E at *
  clear h1 h2 k1 k2 k3 g
  go_wp2
  refine bodyPost_ret (v:=.tuple #[.slice none 0 0,.int .i64 E]) (by simp[results,results34,go_sem, *]) rfl ?_
  unfold Zay
  rw[HR.out.1,HR.out.2.1]
  exact⟨_,l,rfl,IS.nil _,rfl,HDB.out.to HR.out.2.2,fun b e=>by cases e⟩
 ·obtain⟨vi,l',rfl,his,hl',hto,hin⟩:=h2 k1
  have HR:=hD0 (aI0 k2 (aI0 k3 (aI0 his (aI0 hl' (aI0 hto hin)))))
  clear h1 h2 k2 k3 his hl' hto hin
  go_wp2
  refine bodyPost_ret (v:=.tuple #[vi,.int .i64 0]) (by simp[results,results34,go_sem, *]) rfl ?_
  unfold Zay
  rw[HR.out.1,HR.out.2.1]
  exact⟨_,l',rfl,HR.out.2.2.1,HR.out.2.2.2.1,HR.out.2.2.2.2.1,HR.out.2.2.2.2.2⟩
theorem Zoi{W:Int}{q:List Rq}{id x:Int}{k:Nat}(h:Ok W q)(hk:k<q.length)(hf:Va q id=some q[k]) :
    (q.any fun o=>!(o.id==id)&&o.txn==x)=((plc (fun R=>R.txn==x) q != -1)&&(plc (fun R=>R.txn==x) q != (k:Int))):=by
  rcases Vm (fun R=>R.txn==x) q with⟨h1,h2⟩ | ⟨m,h1,hm,h3,h4⟩
  · rw[h1]
    rw[Zd0 hk hf (fun m hm _ e=>by have:=h2 _ (gM0 hm);simp[e] at this)]
    rfl
  · rw[h1]
    have e1:((m:Int) != -1)=true:=by rw[bne_iff_ne];omega
    rw[e1,Bool.true_and]
    have h3':q[m].txn=x:=by simpa using h3
    by_cases e:m=k
    · subst e
      have:((m:Int) != (m:Int))=false:=by simp
      rw[this]
      refine Zd0 hk hf (fun j hj ne ej=>?_)
      have e5:q[j]=q[m]:=h.injT _ (gM0 hj) _ (gM0 hk) (by rw[ej,h3'])
      have e6:=Zna h hj hk ne
      exact e6 (by rw[e5])
    · have:((m:Int) != (k:Int))=true:=by rw[bne_iff_ne];omega
      rw[this]
      exact Zoh h hk hf hm e h3'
theorem Zqa(t r W id x:Int)(v:Value)(q:List Rq)(w:World)(hl:q.length≤1000)(hok:Ok W q)(h:Zu w v q) :
    Calls prog 62 #[Un t r v W,.int .i64 id,.int .i64 x] w (HD1 (hnR ⟨t,r,W,q⟩ id x) w):=by
  have HOk:=hD0 hok
  clear hok
  obtain⟨X,hX⟩:∃X,hnR ⟨t,r,W,q⟩ id x=X:=⟨_,rfl⟩
  rw[hX]
  unfold HD1
  have HCl:=hD0 (fun(w1:World) (g:Nw w w1)=>Z4s v q w1 hl (h.nw g))
  obtain⟨px,hpx⟩:∃px,plc (fun R=>R.id==id) q=px:=⟨_,rfl⟩
  have hFi:=fun(w1:World) (g:Nw w w1) (f:Value) (hf:Zn w1 f (fun R=>R.id==id))=>Z3g t r W v f _ q w1 hl (h.nw g) hf
  rw[hpx] at hFi
  obtain⟨py,hpy⟩:∃py,plc (fun R=>R.txn==x) q=py:=⟨_,rfl⟩
  have hFt:=fun(w1:World) (g:Nw w w1) (f:Value) (hf:Zn w1 f (fun R=>R.txn==x))=>Z3g t r W v f _ q w1 hl (h.nw g) hf
  rw[hpy] at hFt
  have HAt:=hD0 h
  obtain⟨a,c,rfl,_⟩:=h
  unfold Un at hFi hFt ⊢
  have HFi:=hD0 hFi
  have HFt:=hD0 hFt
  clear hFi hFt
  have HWi:=hD0 (Z14 id)
  have HTx:=hD0 (Zge x)
  obtain⟨hx1,hx2,hx3,hx4⟩:=Y6 w (.cells #[.int .i64 t,.int .i64 r,.slice a q.length c,.int .i64 W] 83) (.cells #[.int .i64 0,.int .i64 0,.slice none 0 0,.int .i64 0] 83)
  obtain⟨w1,hw1⟩:∃w1,(w.alloc (.cells #[.int .i64 t,.int .i64 r,.slice a q.length c,.int .i64 W] 83)).alloc (.cells #[.int .i64 0,.int .i64 0,.slice none 0 0,.int .i64 0] 83)=w1:=⟨_,rfl⟩
  rw[hw1] at hx1 hx2 hx3
  have HB1:=hD0 (aI0 (aI0 hx1 hx2) hx3)
  have s0:∀z,Nw w1 z→z.cell? ⟨w.heap.size,0,none⟩=some (.int .i64 t):=fun z hz=>hz.kp (Z0 (j:=0) hx1)
  have s1:∀z,Nw w1 z→z.cell? ⟨w.heap.size,1,none⟩=some (.int .i64 r):=fun z hz=>hz.kp (Z0 (j:=1) hx1)
  have s2:∀z,Nw w1 z→z.cell? ⟨w.heap.size,2,none⟩=some (.slice a q.length c):=fun z hz=>hz.kp (Z0 (j:=2) hx1)
  have s3:∀z,Nw w1 z→z.cell? ⟨w.heap.size,3,none⟩=some (.int .i64 W):=fun z hz=>hz.kp (Z0 (j:=3) hx1)
  clear hx1 hx2 hx3 hx4
  have HW1:=hD0 hw1
  clear hw1
  have q1:=(Nw.refl w1).drewQ
  obtain⟨wc,hwc⟩:∃wc,w1.drew=wc:=⟨_,rfl⟩
  go_enter func62,ntmps62
  go_wp2
  rw[HW1.out]
  have hB:Nw w1 w1:=Nw.refl w1
  have HT:∀(z:World),Nw w1 z→Nw w z:=fun z hz=>HB1.out.2.trans hz
  clear q1 hwc
  go_region_held3 (fun y=>Nw w1 y) (first | assumption | exact Nw.drewQ (by assumption) | exact Nw.trans (by assumption) (by assumption)) (first | (go_at_call 79;(with_reducible refine(HWi.out _).mono ?_);rintro e wy ⟨pa,rfl,hg,hbx⟩;replace hbx:=Zn.withID hbx) | (go_at_call 80;(with_reducible refine(HTx.out _).mono ?_);rintro e wy ⟨pa,rfl,hg,hbx⟩;replace hbx:=Zn.ofTxn hbx) | (go_at_call 78;(with_reducible refine(HFi.out _ (HT _ (by assumption)) _ hbx).mono ?_);rintro e wy ⟨rfl,hg⟩;clear hbx) | (go_at_call 78;(with_reducible refine(HFt.out _ (HT _ (by assumption)) _ hbx).mono ?_);rintro e wy ⟨rfl,hg⟩;clear hbx))
  rename_i q1
  have HN:=hD0 (HB1.out.2.trans q1)
  have hp1:=q1.at' HB1.out.1.1
  have hq1:=q1.at' HB1.out.1.2
  have c0:=Z0 (j:=0) hp1
  have c1:=Z0 (j:=1) hp1
  have c2:=Z0 (j:=2) hp1
  have c3:=Z0 (j:=3) hp1
  have hpl:=Z1 hp1
  rcases Z4j q id with⟨e1,hf⟩ | ⟨k,e1,hk,hf⟩
  · obtain rfl:=hpx.symm.trans e1
    have hR:=hX.symm.trans (show hnR ⟨t,r,W,q⟩ id x=(noH,5)by unfold hnR;rw[hf])
    subst hR
    have d0:=Z0 (j:=0) hq1
    have d1:=Z0 (j:=1) hq1
    have d2:=Z0 (j:=2) hq1
    have d3:=Z0 (j:=3) hq1
    have fz:=fun k=>hfz (j:=k) hq1
    have hsl2:=Z1 hq1
    clear hpx hpy hX e1 hf s0 s1 s2 s3 HB1 HFi HFt HWi HTx HAt HW1 q1 hp1 hq1 HCl
    go_wp2
    exact bodyPost_ret (v:=.tuple #[.agg #[.int .i64 0,.int .i64 0,.slice none 0 0,.int .i64 0],.int .i64 5]) (by simp only[results,results62];simp[go_sem, *]) rfl ⟨_,rfl,Zh HN.out (Nat.le_succ _) _ _ _ _,Rd.nil _,Nat.le_refl _,Zx.nil _ _⟩
  · obtain rfl:=hpx.symm.trans e1
    have dk:((k:Int)==-1)=false:=by simp
    have hpl2:=Zoi (x:=x) HOk.out hk hf
    rw[hpy] at hpl2
    have hX1:(q.any fun o=>!(o.id==id)&&o.txn==x)=true→X=(noH,4):=fun s=>hX.symm.trans (by unfold hnR;rw[hf];exact if_pos s)
    have hX2:¬(q.any fun o=>!(o.id==id)&&o.txn==x)=true→0<q[k].sn→X=(noH,7):=fun s m=>hX.symm.trans (by unfold hnR;rw[hf];simp only[if_neg s];exact if_pos m)
    have hX3:¬(q.any fun o=>!(o.id==id)&&o.txn==x)=true→¬0<q[k].sn→X=(⟨t,r,W,q.set k ⟨q[k].id,x,q[k].md,q[k].wt,q[k].sn⟩⟩,0):=fun s m=>hX.symm.trans (by unfold hnR;rw[hf];simp only[if_neg s];rw[if_neg m,Zqg HOk.out hk hf])
    rw[hpl2] at hX1 hX2 hX3
    obtain⟨bx,hbx⟩:∃bx,(py != -1)=bx:=⟨_,rfl⟩
    obtain⟨by2,hby2⟩:∃by2,(py != (k:Int))=by2:=⟨_,rfl⟩
    rw[hbx,hby2] at hX1 hX2 hX3
    by_cases hy:(bx&&by2)=true
    · have hR:=hX1 hy
      subst hR
      rw[Bool.and_eq_true] at hy
      obtain⟨rfl,rfl⟩:=hy
      have d0:=Z0 (j:=0) hq1
      have d1:=Z0 (j:=1) hq1
      have d2:=Z0 (j:=2) hq1
      have d3:=Z0 (j:=3) hq1
      have fz:=fun k=>hfz (j:=k) hq1
      have hsl2:=Z1 hq1
      clear hpx hpy hX e1 hf s0 s1 s2 s3 HB1 HFi HFt HWi HTx HAt HW1 q1 hp1 hq1 HCl hX1 hX2 hX3 hpl2
      go_wp2
      exact bodyPost_ret (v:=.tuple #[.agg #[.int .i64 0,.int .i64 0,.slice none 0 0,.int .i64 0],.int .i64 4]) (by simp only[results,results62];simp[go_sem, *]) rfl ⟨_,rfl,Zh HN.out (Nat.le_succ _) _ _ _ _,Rd.nil _,Nat.le_refl _,Zx.nil _ _⟩
    rcases HAt.out with⟨a',c',e3,⟨e4,_⟩ | ⟨b,o,e4,hc⟩⟩
    · subst e4;simp at hk
    simp only[Value.slice.injEq,true_and] at e3
    obtain⟨rfl,rfl⟩:=e3
    subst e4
    have hki:(k:Int)<(q.length:Int):=by omega
    have hce:=(hc.nw HN.out).cell k hk
    have HCe:=hD0 (fun(z:World) (g:Nw w z)=>(hc.nw g).cell k hk)
    have HWa:=hD0 (fun z=>Z4u q[k] z)
    have HHo:=hD0 (fun z=>Z4t q[k] z)
    have HRow:=hD0 (fun(z:World) (g0 g cap:Nat) (j:Nat) (hj:j<5) (u:Value) (new:Rq) (e:(Zi q[k]).set j u=Zi new) (h:Z7 z g0 (.slice (some ⟨g,0,none⟩) q.length cap) q)=>Y3 h rfl k hk j hj u new e)
    have HRow2:=hD0 (fun(z:World) (g0 g cap:Nat) (X:Rq) (j:Nat) (hj:j<5) (u:Value) (new:Rq) (e:(Zi X).set j u=Zi new) (h:Z7 z g0 (.slice (some ⟨g,0,none⟩) q.length cap) (q.set k X))=>Y3 h (by rw[List.length_set]) k (by rw[List.length_set];exact hk) j hj u new (by rw[List.getElem_set_self];exact e))
    simp only[List.set_set] at HRow2
    have HCo:=hD0 (fun(z:World) (g0 g cap:Nat) (h:Z7 z g0 (.slice (some ⟨g,0,none⟩) q.length cap) q)=>Yq h rfl k hk)
    generalize q[k]=R at *
    obtain⟨b0,b1,b2,b3,b4⟩:=R
    unfold rqV at HWa HHo
    have m0:=hce 0 _ rfl
    have m1:=hce 1 _ rfl
    have m2:=hce 2 _ rfl
    have m3:=hce 3 _ rfl
    have m4:=hce 4 _ rfl
    simp only[Nat.add_zero] at m0
    clear hce
    have HX2:=hD0 (hX2 hy)
    have HX3:=hD0 (hX3 hy)
    have HY:=hD0 hy
    have HP:=hD0 (aI0 hp1 hq1)
    clear hX1 hX2 hX3 hpl2 hpx hpy hX e1 hf s0 s1 s2 s3 HB1 HFi HFt HWi HTx HW1 q1 hc HOk HHo hy
    cases bx<;>cases by2<;>first
     | (exfalso;exact absurd rfl HY.out)
     | skip
    all_goals
      clear HY
      go_wp2_with fail
      go_at_call 86
      refine(HWa.out _).mono ?_
      rintro e w2 ⟨rfl,g2⟩
      have hp2:=g2.at' HP.out.1
      have hq2:=g2.at' HP.out.2
      have HN2:=hD0 (HN.out.trans g2)
      clear c0 c1 c2 c3 hpl hp1 hq1
      have c0:=Z0 (j:=0) hp2
      have c1:=Z0 (j:=1) hp2
      have c2:=Z0 (j:=2) hp2
      have c3:=Z0 (j:=3) hp2
      have hpl:=Z1 hp2
      clear m0 m1 m2 m3 m4 g2 HWa HP
      by_cases hs:0<b4
      · have ds:decide (0<b4)=true:=by simpa using hs
        have hR:=HX2.out hs
        subst hR
        have d0:=Z0 (j:=0) hq2
        have d1:=Z0 (j:=1) hq2
        have d2:=Z0 (j:=2) hq2
        have d3:=Z0 (j:=3) hq2
        have fz:=fun k=>hfz (j:=k) hq2
        have hsl2:=Z1 hq2
        clear hs HX2 HX3 HCe HRow HRow2 HCo HCl HAt HN hp2 hq2
        go_wp2
        exact bodyPost_ret (v:=.tuple #[.agg #[.int .i64 0,.int .i64 0,.slice none 0 0,.int .i64 0],.int .i64 7]) (by simp only[results,results62];simp[go_sem, *]) rfl ⟨_,rfl,Zh HN2.out (Nat.le_succ _) _ _ _ _,Rd.nil _,Nat.le_refl _,Zx.nil _ _⟩
      have ds:decide (0<b4)=false:=by simpa using hs
      have hR:=HX3.out (by first | exact hs | exact Int.not_lt.1 hs)
      subst hR
      have HQ:=hD0 (aI0 hp2 hq2)
      have HCl2:=hD0 (HCl.out _ HN2.out)
      clear hs HX2 HX3 HCe HCl HAt hp2 hq2
      go_wp2_with fail
      go_at_call 92
      refine HCl2.out.mono ?_
      rintro e w4 ⟨v4,rfl,g4,hO⟩
      obtain⟨g,cap,rfl,hg0,hgl,_⟩:=Z7.at hO hk
      have hne:¬g=w.heap.size:=by have:=Z1 HQ.out.1;omega
      have hne':¬w.heap.size=g:=fun e=>hne e.symm
      have hn2:¬g=w.heap.size+1:=by have:=Z1 HQ.out.2;omega
      have hn2':¬w.heap.size+1=g:=fun e=>hn2 e.symm
      have hp4:=g4.at' HQ.out.1
      have hq4:=g4.at' HQ.out.2
      have HB:=hD0 (aI0 (Z1 HQ.out.1) (Z1 HQ.out.2))
      have hO1:=Z0i hO (p:=⟨w.heap.size,2,none⟩) (by exact HB.out.1) (.slice (some ⟨g,0,none⟩) q.length cap)
      have hO2:=HRow.out _ _ _ _ 1 (by decide) (.int .i64 x) ⟨b0,x,b2,b3,b4⟩ rfl hO1
      have hO4:=Z4y hO2 (rb:=w.heap.size+1) HB.out.2 (.int .i64 t) (.int .i64 r) (.slice (some ⟨g,0,none⟩) q.length cap) (.int .i64 W)
      have HO4:=hD0 hO4
      have HN4:=hD0 (HN2.out.trans g4)
      have HG:=hD0 (aI0 hg0 HN2.out.sz)
      have hoc:=HCo.out _ _ _ _ hO
      have c0:=Z0 (j:=0) hp4
      have c1:=Z0 (j:=1) hp4
      have c2:=Z0 (j:=2) hp4
      have c3:=Z0 (j:=3) hp4
      have hpl:=Z1 hp4
      have fp:=fun k=>hfz (j:=k) hp4
      have fg:=fun k=>Z0h hO rfl k
      have m1:=hoc 1 _ rfl
      have d0:=Z0 (j:=0) hq4
      have d1:=Z0 (j:=1) hq4
      have d2:=Z0 (j:=2) hq4
      have d3:=Z0 (j:=3) hq4
      have fz:=fun k=>hfz (j:=k) hq4
      have hsl2:=Z1 hq4
      clear hq4 hp4 hO hO1 hO2 hO4 hoc g4 HCl2 HN HRow HRow2 HCo hg0
      go_wp2
      exact bodyPost_ret (v:=.tuple #[.agg #[.int .i64 t,.int .i64 r,.slice (some ⟨g,0,none⟩) q.length cap,.int .i64 W],.int .i64 0]) (by simp only[results,results62];simp[go_sem, *]) rfl ⟨_,rfl,Zh ((HN4.out.st (Nat.le_refl _) _).st (by show w.heap.size≤g;have:=HG.out;omega) _) (Nat.le_succ _) _ _ _ _,Z7.rd HO4.out,HO4.out.cap,HO4.out.fresh HG.out.2⟩
theorem Zab{hs:List Hq}{X:Hq}(hd:Vp X.q)(hn:X.q≠[]):Yl hs X=Zz hs X:=by
 unfold Yl
 have:scH X=X:=by unfold scH;rw[Z39 hd]
 rw[this,if_neg hn]
theorem Zpy{W:Int}{q:List Rq}{r:Rq}{m:Int}(hq:q≠[]):(upQ W q r m).2.1≠[]:=by
 have h1:∀f id,Um f id q≠[]:=fun f id e=>by
  have:=congrArg List.length e
  unfold Um at this
  rw[List.length_map] at this
  exact hq (List.length_eq_zero_iff.1 this)
 unfold upQ
 split
 ·exact hq
 ·split
  ·exact h1 _ _
  ·exact h1 _ _
def UpD(w:World)(o mb po n:Nat)(F:Nat→Prop)(l:List Hp)(L:List Bool)(id a:Int)(e:Ending)(w':World):Prop :=
 e=.returned (.tuple #[.bool (Z8h (Z6 l) id a),.int .i64 (Z2q (Z6 l) id a)])∧∃l',Z6 l'=Z3w (Z6 l) id a∧V9 w o mb po n F l w' l' L
theorem Zfi{w:World}{o mb po n k:Nat}{l:List Hp}{L:List Bool}{F:Nat→Prop}(h:Db w o mb po n l L F){X:List Int}(b:Ze n k (Z6 l) X L)(hk:k≤800)(hn:n≤64)(id a:Int) :
  Calls prog 31 #[.pointer (some ⟨o,0,none⟩),.int .i64 id,.int .i64 a] w (UpD w o mb po n F l L id a):=by
 have H:=hD0 h
 have hol:=h.ol
 have HMd:=hD0 (Yw o w h.c0)
 have HWi:=hD0 (Z2r h id)
 obtain⟨hi,hW,hql⟩:=Z8l b id
 have hbl:=(Zcj b (by omega) id a).len
 obtain⟨X,hX⟩:∃X,upR (Zb l id).h id a=X:=⟨_,rfl⟩
 have hC:=fun w1 (g:Nw w w1)=>Zgg (Zb l id).h.t (Zb l id).h.r (Zb l id).h.W id a (hpV (Zb l id)) (Zb l id).h.q w1 (by omega) hi.ok ((Z5y h id).nw g)
 rw[show(⟨(Zb l id).h.t,(Zb l id).h.r,(Zb l id).h.W,(Zb l id).h.q⟩:Hq)=(Zb l id).h from rfl,hX] at hC
 have key:(X.2.2≠0∧Z2q (Z6 l) id a=X.2.2∧Z8h (Z6 l) id a=false∧Z3w (Z6 l) id a=Z6 l)∨(X.2.2=0∧(Z2q (Z6 l) id a=0∧Z8h (Z6 l) id a=X.2.1)∧Z3w (Z6 l) id a=Zz (Z6 l) X.1∧Yl (Z6 l) X.1=Zz (Z6 l) X.1∧wfN (X.1.t,X.1.r)∧X.1.q.length≤1000∧Ok X.1.W X.1.q∧(Yl (Z6 l) X.1).length≤64):=by
  cases e:whP l id with
  | none =>
   have e1:Zs (Z6 l) id=none:=by rw[Ul,e];rfl
   have e0:X=(noH,false,if Z0s a then 2 else 5):=by
    rw[←hX,V5 e]
    by_cases hb:a=0∨Zq a=false
    ·rw[if_pos (show Z0s a from hb)];unfold upR;rw[if_pos hb]
    ·rw[if_neg (show ¬Z0s a from hb)];unfold upR;rw[if_neg hb];rfl
   have e2:Z2q (Z6 l) id a=if Z0s a then 2 else 5:=by unfold Z2q;rw[e1]
   subst e0
   refine .inl ⟨?_,?_,?_,?_⟩
   ·simp only;split<;>decide
   ·exact e2
   ·unfold Z8h;rw[if_neg (by rw[e2];split<;>decide)]
   ·unfold Z3w;rw[if_neg (by rw[e2];split<;>decide)]
  | some x =>
   obtain⟨ex,hx,r,hr⟩:=Yg e
   have e1:Zs (Z6 l) id=some x.h:=by rw[Ul,e];rfl
   rw[ex] at hi hW hql hX
   have e2:Z2q (Z6 l) id a=X.2.2:=by
    unfold Z2q
    rw[e1,←hX]
    by_cases hb:a=0∨Zq a=false
    ·rw[if_pos (show Z0s a from hb)];unfold upR;rw[if_pos hb]
    ·rw[if_neg (show ¬Z0s a from hb)]
   by_cases h0:X.2.2=0
   ·have hup:=h0
    rw[←hX] at hup
    obtain⟨r',u1,u2,u3,u4,u5,u6,u7⟩:=Znj hi.ok hup
    have hS:Z3w (Z6 l) id a=Zz (Z6 l) X.1:=by unfold Z3w;rw[if_pos (e2.trans h0),e1];simp only;rw[hX]
    have hG:Z8h (Z6 l) id a=X.2.1:=by unfold Z8h;rw[if_pos (e2.trans h0),e1];simp only;rw[hX]
    have hx1:X.1=⟨x.h.t,x.h.r,(upQ x.h.W x.h.q r' a).1,(upQ x.h.W x.h.q r' a).2.1⟩:=by rw[←hX,u7]
    have hne:x.h.q≠[]:=List.ne_nil_of_mem u1
    have hdn:Vp X.1.q:=by rw[hx1];exact Z8x hi.ok hi.done r' u1 a u4 u5
    have hok:Ok X.1.W X.1.q:=by rw[hx1];exact Zng hi.ok r' u1 a u4 u5 (by omega)
    have hen:=Zab (hs:=Z6 l) hdn (by rw[hx1];exact Zpy hne)
    rw[hS] at hbl
    refine .inr ⟨h0,⟨e2.trans h0,hG⟩,hS,hen,by rw[hx1];exact h.map.wf x hx,?_,hok,by rw[hen];omega⟩
    rw[hx1]
    have:=(Zni x.h.W x.h.q r' a).2.2
    simp only
    omega
   ·refine .inl ⟨h0,e2,?_,?_⟩
    ·unfold Z8h;rw[if_neg (by rw[e2];exact h0)]
    ·unfold Z3w;rw[if_neg (by rw[e2];exact h0)]
 have HK:=hD0 key
 have HC:=hD0 hC
 clear h b hC key hi hW hql hbl hX
 obtain⟨V,hV⟩:∃V,hpH (Zb l id)=V:=⟨_,rfl⟩
 change Hid (∀w1,Nw w w1→Calls prog _ #[hpH (Zb l id),_,_] w1 _)at HC
 rw[hV] at HWi HC
 have hVa:∃c,V=.agg c:=⟨_,hV.symm⟩
 clear hV
 obtain⟨cs,rfl⟩:=hVa
 go_enter func31,ntmps31
 go_wp2_with fail
 refine HMd.out.mono ?_
 rintro e w' ⟨rfl,rfl⟩
 go_wp2_with fail
 refine HWi.out.mono ?_
 rintro e w1 ⟨rfl,g1⟩
 go_wp2_with fail
 refine(HC.out _ g1).mono ?_
 rintro e w2 ⟨v2,rfl,g2,rd2,cap2,fr2⟩
 obtain⟨a2,c2,hv2⟩:=rd2.form
 obtain⟨q2l,hq2⟩:∃q2l,X.1.q.length=q2l:=⟨_,rfl⟩
 rw[hq2] at hv2
 subst hv2
 have HG:=hD0 (g1.trans g2)
 have hrd:=rd2
 obtain⟨⟨Xt,Xr,XW,Xq⟩,XG,E⟩:=X
 simp only[Un] at hrd ⊢
 clear g1 g2 rd2 cap2 fr2 hq2
 obtain⟨y1,hy1⟩:∃y1,w2.alloc (.cells #[.int .i64 Xt,.int .i64 Xr,.slice a2 q2l c2,.int .i64 XW] 83)=y1:=⟨_,rfl⟩
 have g3:Nw w2 y1:=by rw[←hy1];exact(Nw.refl w2).alloc _
 have HG1:=hD0 (HG.out.trans g3)
 have hrd1:=hrd.nw g3
 have HY:=hD0 hy1
 clear hy1 g3 hrd
 rcases HK.out with⟨k1,k2⟩ | ⟨k1,k2,k3,k4,k5,k6,k7,k8⟩
 ·simp only at k1 k2
  have hne:(E != 0)=true:=by simpa using k1
  have hne2:(E==0)=false:=by simpa using k1
  have HR:=hD0 (show UpD w o mb po n F l L id a (.returned (.tuple #[.bool false,.int .i64 E])) y1 from by
   unfold UpD
   obtain⟨q1,q2,q3⟩:=k2
   rw[q1,q2,q3]
   exact⟨rfl,l,rfl,H.out.to HG1.out⟩)
  clear k1 k2 hrd1
  go_wp2
  rw[HY.out]
  exact bodyPost_ret (v:=.tuple #[.bool false,.int .i64 E]) (by simp[results,results31,go_sem, *]) rfl HR.out
 ·simp only at k1 k2 k3 k4 k5 k6 k7 k8
  subst k1
  have HS:=hD0 (Vd (H.out.nw HG1.out) Xt Xr XW (.slice a2 q2l c2) Xq k5 k6 k7 hrd1 k8)
  have HR:=hD0 (fun(y2:World) (l':List Hp) (hl':Z6 l'=Yl (Z6 l) ⟨Xt,Xr,XW,Xq⟩) (hto:V9 y1 o mb po n F l y2 l' L)=>(show UpD w o mb po n F l L id a (.returned (.tuple #[.bool XG,.int .i64 0])) y2 from by
   unfold UpD
   obtain⟨q1,q2⟩:=k2
   rw[q1,q2,k3]
   exact⟨rfl,l',by rw[hl',k4],hto.pre HG1.out⟩))
  clear k2 k3 k4 k5 k6 k7 k8 hrd1
  go_wp2_with fail
  rw[HY.out]
  refine HS.out.mono ?_
  rintro e y2 ⟨vi,l',rfl,_,hl',hto,_⟩
  have HF:=hD0 (HR.out y2 l' hl' hto)
  clear hl' hto
  go_wp2
  exact bodyPost_ret (v:=.tuple #[.bool XG,.int .i64 0]) (by simp[results,results31,go_sem, *]) rfl HF.out
def HnD(w:World)(o mb po n:Nat)(F:Nat→Prop)(l:List Hp)(L:List Bool)(id a:Int)(e:Ending)(w':World):Prop :=
 e=.returned (.int .i64 (Z3u (Z6 l) id a))∧∃l',Z6 l'=Z3v (Z6 l) id a∧V9 w o mb po n F l w' l' L
theorem Zoc{w:World}{o mb po n k:Nat}{l:List Hp}{L:List Bool}{F:Nat→Prop}(h:Db w o mb po n l L F){X:List Int}(b:Ze n k (Z6 l) X L)(hk:k≤800)(hn:n≤64)(id a:Int) :
  Calls prog 35 #[.pointer (some ⟨o,0,none⟩),.int .i64 id,.int .i64 a] w (HnD w o mb po n F l L id a):=by
 have H:=hD0 h
 have hol:=h.ol
 have HMd:=hD0 (Yw o w h.c0)
 have HWi:=hD0 (Z2r h id)
 obtain⟨hi,hW,hql⟩:=Z8l b id
 have hbl:=(Zci b id a).len
 obtain⟨X,hX⟩:∃X,hnR (Zb l id).h id a=X:=⟨_,rfl⟩
 have hC:=fun w1 (g:Nw w w1)=>Zqa (Zb l id).h.t (Zb l id).h.r (Zb l id).h.W id a (hpV (Zb l id)) (Zb l id).h.q w1 (by omega) hi.ok ((Z5y h id).nw g)
 rw[show(⟨(Zb l id).h.t,(Zb l id).h.r,(Zb l id).h.W,(Zb l id).h.q⟩:Hq)=(Zb l id).h from rfl,hX] at hC
 have key:(X.2≠0∧Z3u (Z6 l) id a=X.2∧Z3v (Z6 l) id a=Z6 l)∨(X.2=0∧Z3u (Z6 l) id a=0∧Z3v (Z6 l) id a=Zz (Z6 l) X.1∧Yl (Z6 l) X.1=Zz (Z6 l) X.1∧wfN (X.1.t,X.1.r)∧X.1.q.length≤1000∧Ok X.1.W X.1.q∧(Yl (Z6 l) X.1).length≤64):=by
  cases e:whP l id with
  | none =>
   have e1:Zs (Z6 l) id=none:=by rw[Ul,e];rfl
   have e0:X=(noH,5):=by rw[←hX,V5 e];rfl
   have e2:Z3u (Z6 l) id a=5:=by unfold Z3u;rw[e1]
   subst e0
   exact .inl ⟨by decide,e2,by unfold Z3v;rw[if_neg (by rw[e2];decide)]⟩
  | some x =>
   obtain⟨ex,hx,r,hr⟩:=Yg e
   have e1:Zs (Z6 l) id=some x.h:=by rw[Ul,e];rfl
   rw[ex] at hi hW hql hX
   have e2:Z3u (Z6 l) id a=X.2:=by unfold Z3u;rw[e1,←hX]
   by_cases h0:X.2=0
   ·have hup:=h0
    rw[←hX] at hup
    obtain⟨r',u1,u2,u3,u4,u5,u7⟩:=Zn8 hi.ok hup
    have hS:Z3v (Z6 l) id a=Zz (Z6 l) X.1:=by unfold Z3v;rw[if_pos (e2.trans h0),e1];simp only;rw[hX]
    have hx1:X.1=⟨x.h.t,x.h.r,x.h.W,Um (hnF a) r'.id x.h.q⟩:=by rw[←hX,u7]
    have hcl:(Um (hnF a) r'.id x.h.q).length=x.h.q.length:=by unfold Um;rw[List.length_map]
    have hne:Um (hnF a) r'.id x.h.q≠[]:=fun e=>by
     rw[e] at hcl
     have:=List.length_pos_of_mem u1
     simp at hcl
     omega
    have hdn:Vp X.1.q:=by rw[hx1];exact Zcp hi.done r'.id a
    have hok:Ok X.1.W X.1.q:=by rw[hx1];exact Znf hi.ok r' u1 a u5
    have hen:=Zab (hs:=Z6 l) hdn (by rw[hx1];exact hne)
    rw[hS] at hbl
    exact .inr ⟨h0,e2.trans h0,hS,hen,by rw[hx1];exact h.map.wf x hx,by rw[hx1];simp only;omega,hok,by rw[hen];omega⟩
   ·exact .inl ⟨h0,e2,by unfold Z3v;rw[if_neg (by rw[e2];exact h0)]⟩
 have HK:=hD0 key
 have HC:=hD0 hC
 clear h b hC key hi hW hql hbl hX
 obtain⟨V,hV⟩:∃V,hpH (Zb l id)=V:=⟨_,rfl⟩
 change Hid (∀w1,Nw w w1→Calls prog _ #[hpH (Zb l id),_,_] w1 _)at HC
 rw[hV] at HWi HC
 have hVa:∃c,V=.agg c:=⟨_,hV.symm⟩
 clear hV
 obtain⟨cs,rfl⟩:=hVa
 go_enter func35,ntmps35
 go_wp2_with fail
 refine HMd.out.mono ?_
 rintro e w' ⟨rfl,rfl⟩
 go_wp2_with fail
 refine HWi.out.mono ?_
 rintro e w1 ⟨rfl,g1⟩
 go_wp2_with fail
 refine(HC.out _ g1).mono ?_
 rintro e w2 ⟨v2,rfl,g2,rd2,cap2,fr2⟩
 obtain⟨a2,c2,hv2⟩:=rd2.form
 obtain⟨q2l,hq2⟩:∃q2l,X.1.q.length=q2l:=⟨_,rfl⟩
 rw[hq2] at hv2
 subst hv2
 have HG:=hD0 (g1.trans g2)
 have hrd:=rd2
 obtain⟨⟨Xt,Xr,XW,Xq⟩,E⟩:=X
 simp only[Un] at hrd ⊢
 clear g1 g2 rd2 cap2 fr2 hq2
 obtain⟨y1,hy1⟩:∃y1,w2.alloc (.cells #[.int .i64 Xt,.int .i64 Xr,.slice a2 q2l c2,.int .i64 XW] 83)=y1:=⟨_,rfl⟩
 have g3:Nw w2 y1:=by rw[←hy1];exact(Nw.refl w2).alloc _
 have HG1:=hD0 (HG.out.trans g3)
 have hrd1:=hrd.nw g3
 have HY:=hD0 hy1
 clear hy1 g3 hrd
 rcases HK.out with⟨k1,k2⟩ | ⟨k1,k2,k3,k4,k5,k6,k7,k8⟩
 ·simp only at k1 k2
  have hne:(E != 0)=true:=by simpa using k1
  have hne2:(E==0)=false:=by simpa using k1
  have HR:=hD0 (show HnD w o mb po n F l L id a (.returned (.int .i64 E)) y1 from by
   unfold HnD
   obtain⟨q1,q3⟩:=k2
   rw[q1,q3]
   exact⟨rfl,l,rfl,H.out.to HG1.out⟩)
  clear k1 k2 hrd1
  go_wp2
  rw[HY.out]
  exact bodyPost_ret (v:=.int .i64 E) (by simp[results,results35,go_sem, *]) rfl HR.out
 ·simp only at k1 k2 k3 k4 k5 k6 k7 k8
  subst k1
  have HS:=hD0 (Vd (H.out.nw HG1.out) Xt Xr XW (.slice a2 q2l c2) Xq k5 k6 k7 hrd1 k8)
  have HR:=hD0 (fun(y2:World) (l':List Hp) (hl':Z6 l'=Yl (Z6 l) ⟨Xt,Xr,XW,Xq⟩) (hto:V9 y1 o mb po n F l y2 l' L)=>(show HnD w o mb po n F l L id a (.returned (.int .i64 0)) y2 from by
   unfold HnD
   rw[k2,k3]
   exact⟨rfl,l',by rw[hl',k4],hto.pre HG1.out⟩))
  clear k2 k3 k4 k5 k6 k7 k8 hrd1
  go_wp2_with fail
  rw[HY.out]
  refine HS.out.mono ?_
  rintro e y2 ⟨vi,l',rfl,_,hl',hto,_⟩
  have HF:=hD0 (HR.out y2 l' hl' hto)
  clear hl' hto
  go_wp2
  exact bodyPost_ret (v:=.int .i64 0) (by simp[results,results35,go_sem, *]) rfl HF.out
theorem Zbe{q:List Rq}{x:Int}(h:∀j (hj:j<q.length),q[j].txn≠x):q.find? (fun r=>r.txn==x)=none:=by
 refine List.find?_eq_none.2 fun r hr=>?_
 obtain⟨j,hj,rfl⟩:=List.getElem_of_mem hr
 simpa using h j hj
theorem Zgv{q:List Rq}{x:Int}{k:Nat}(hk:k<q.length)(e:q[k].txn=x)(h:∀j (hj:j<q.length),j<k→q[j].txn≠x):q.find? (fun r=>r.txn==x)=some q[k]:=by
 rw[List.find?_eq_some_iff_getElem]
 exact⟨by simpa using e,k,hk,rfl,fun j hj=>by simpa using h j (by omega) hj⟩
theorem Zgw(l:List Hp)(t r txn:Int):Z6c (Z6 l) t r txn=match(atP l (t,r)).h.q.find? (fun x=>x.txn==txn) with
  | none=>(0,false)
  | some x=>(x.id,true):=by unfold Z6c;rw[Zch];cases(hdB (Z6 l) t r).q.find? (fun x=>x.txn==txn)<;>rfl
theorem Zo7(t r W:Int)(a:Option Addr)(n c:Nat)(w:World):Sem.run prog (Instr.field 83 (.agg #[.int .i64 t,.int .i64 r,.slice a n c,.int .i64 W]) 1) w=.ok (.slice a n c) w:=by kernel_rfl
theorem Zo8{w:World}{o mb po n:Nat}{l:List Hp}{L:List Bool}{F:Nat→Prop}(h:Db w o mb po n l L F)(hq:∀x∈l,x.h.q.length≤1000)(t r txn:Int)(wa:wfN (t,r)) :
  Calls prog 39 #[.pointer (some ⟨o,0,none⟩),.agg #[.int .i64 t,.int .i64 r],.int .i64 txn] w fun e w'=>e=.returned (.tuple #[.int .i64 (Z6c (Z6 l) t r txn).1,.bool (Z6c (Z6 l) t r txn).2])∧Nw w w':=by
 obtain⟨X,hX⟩:∃X,Z6c (Z6 l) t r txn=X:=⟨_,rfl⟩
 rw[hX]
 have HX:=hD0 (hX.symm.trans (Zgw l t r txn))
 have hrd:=Zmx h t r
 have hql:(atP l (t,r)).h.q.length≤1000:=by
  unfold atP
  cases e:Uj l (t,r) with
  | none=>exact Nat.zero_le _
  | some x=>exact hq x (Yi e).1
 obtain⟨z,hz⟩:∃z,w.alloc (.cells #[.int .i64 t,.int .i64 r] 33)=z:=⟨_,rfl⟩
 have hb0:=Z2 w (.cells #[.int .i64 t,.int .i64 r] 33)
 have hN:Nw w (w.alloc (.cells #[.int .i64 t,.int .i64 r] 33)):=(Nw.refl w).alloc _
 rw[hz] at hN hb0
 have n0:z.cell? ⟨w.heap.size,0,none⟩=some (.int .i64 t):=Z0 hb0
 have n1:z.cell? ⟨w.heap.size,1,none⟩=some (.int .i64 r):=Z0 hb0
 have HZ:=hD0 hz
 have HMd:=hD0 (Yw o z (hN.kp h.c0))
 have HAt:=hD0 (Zfs (h.nw hN) t r wa)
 have HRd:=hD0 (fun w1 (g:Nw w w1)=>hrd.nw g)
 unfold hpV at HRd
 unfold hpH at HAt
 clear hz hX hrd h hq hb0
 revert HAt HRd HX hql
 generalize atP l (t,r)=x
 obtain⟨⟨xt,xr,xW,q⟩,xp,xa,xc⟩:=x
 simp only
 intro HX hql HAt HRd
 have HN:=hD0 hN
 have hfq:=Zo7
 go_enter func39,ntmps39
 go_wp2_with fail
 rw[HZ.out]
 refine HMd.out.mono ?_
 rintro e w' ⟨rfl,rfl⟩
 go_wp2_with fail
 refine HAt.out.mono ?_
 rintro e w1 ⟨rfl,g1⟩
 have HN1:=hD0 (HN.out.trans g1)
 clear n0 n1 hN g1 HAt HMd HZ
 go_wp2
 go_loopw [18] (fun i wr=>∃j:Nat,j≤q.length∧i=.int .i64 j∧(∀m (hm:m<q.length),m<j→q[m].txn≠txn)∧Nw w wr) (fun i _=>q.length-(intOf i).toNat)
 case atStart=>exact⟨0,Nat.zero_le _,rfl,fun j _ hj=>by omega,HN1.out⟩
 case round =>
  obtain⟨j,hj,rfl,hno,hG⟩:=hrel
  have HG:=hD0 hG
  have HNo:=hD0 hno
  clear hno
  by_cases Z1:j<q.length
  ·have hji:(j:Int)<(q.length:Int):=by omega
   obtain⟨qa',qc',e,⟨e',_⟩ | ⟨qb,qo,e',hc⟩⟩:=HRd.out _ hG
   ·subst e';simp at Z1
   cases e
   subst e'
   have hce:=hc.cell j Z1
   have HA:=hD0 (fun e=>Zgv Z1 e HNo.out)
   have HB:=hD0 (fun(e:q[j].txn≠txn) m (hm:m<q.length) (hmj:m<j+1)=>(Nat.lt_succ_iff_lt_or_eq.1 hmj).elim (HNo.out m hm) (fun q'=>by subst q';exact e))
   generalize q[j]=R at *
   obtain⟨b0,b1,b2,b3,b4⟩:=R
   have d0:=hce 0 _ rfl
   have d1:=hce 1 _ rfl
   have d2:=hce 2 _ rfl
   have d3:=hce 3 _ rfl
   have d4:=hce 4 _ rfl
   simp only[Nat.add_zero] at d0
   clear hce hG hc
   by_cases he:b1=txn
   ·have d:(b1==txn)=true:=by simpa using he
    have HF2:=HA.out he
    rw[HF2] at HX
    clear he HA HB HF2
    go_wp2
    refine bodyPost_ret (v:=.tuple #[.int .i64 b0,.bool true]) (by simp[results,results39,go_sem, *]) rfl ⟨by rw[HX.out],HG.out.alloc _⟩
   ·have d:(b1==txn)=false:=by simpa using he
    have HS2:=hD0 (HB.out he)
    clear he HA HB
    go_wp2
    go_roundw
    case rel=>exact⟨j+1,by omega,by go_num,HS2.out,HG.out.alloc _⟩
    case measure=>simp[intOf];omega
  ·obtain rfl:j=q.length:=by omega
   have HF2:=Zbe (x:=txn) (fun j hj=>HNo.out j hj hj)
   rw[HF2] at HX
   clear hG HF2
   go_wp2
   refine bodyPost_ret (v:=.tuple #[.int .i64 0,.bool false]) (by simp[results,results39,go_sem, *]) rfl ⟨by rw[HX.out],HG.out⟩
section
variable {P:Program} {md:Region.Mode} {ops:Array Oper} {Q:Exit→Act→World→Prop} {S:World→Prop}
def U8(P:Program)(md:Region.Mode)(ops:Array Oper)(Q:Exit→Act→World→Prop)(S:World→Prop)(t:Nat):Nat→Array Bool→Act→World→Prop
 | 0,listed,a,w=>Region.ready md ops listed=[]∧Q .normal a w
 | fuel+1,listed,a,w =>
  (Region.ready md ops listed=[]→Q .normal a w) ∧
  ∀i∈Region.ready md ops listed,wpOp P ops Q i (fun a' w'=>(i=t∨S w')∧U8 P md ops Q S t fuel (listed.setIfInBounds i true) a' w') a w
theorem Z1q{t:Nat}:∀(fuel:Nat) (listed:Array Bool) (a:Act) (w:World),U8 P md ops Q S t fuel listed a w→wpAny P md ops Q fuel listed a w
 | 0,_,_,_,h=>h
 | fuel+1,_,_,_,h=>⟨h.1,fun i hi=>wpOp_mono (fun a' w' h'=>Z1q fuel _ a' w' h'.2) (h.2 i hi)⟩
def Z5x(md:Region.Mode)(ops:Array Oper)(t i:Nat):Bool:=match ops[t]? with
 | some o=>o.after.any fun e=>Region.binds md e&&e.on==i
 | none=>true
theorem Z8i{t i:Nat}{oi:Oper}{v:Value}(hi:ops[i]?=some oi)(ht:Z5x md ops t i=true)(hsel:∀(j:Nat) (o:Oper) cs b,ops[j]?=some o→o.op≠.select cs b)
  (hQ:∀c a w,Q (.panic c) (a.put oi.dst v) w→Q (.panic c) a w) :
  ∀(fuel:Nat) (listed:Array Bool) (a:Act) (w:World),
   (∀j oj,ops[j]?=some oj→j≠i→listed.getD j true=false→(∀e∈oj.after,Region.binds md e=true→e.on≠i)→oi.apart ops oj=true) →
   i∈Region.ready md ops listed→YieldsIf P ops S oi v a→S w →
   U8 P md ops Q S t fuel (listed.setIfInBounds i true) (a.put oi.dst v) w→U8 P md ops Q S t (fuel+1) listed a w:=by
 intro fuel
 induction fuel with
 | zero =>
  intro listed a w _ hr hy hS H
  refine⟨fun h=>(by rw[h] at hr;cases hr),fun j hj=>?_⟩
  by_cases hji:j=i
  ·subst hji;exact hy.wpOp hi hS ⟨.inr hS,H⟩
  ·have:=ready_mono hj hji
   rw[H.1] at this
   cases this
 | succ fuel ih =>
  intro listed a w hfree hr hy hS H
  refine⟨fun h=>(by rw[h] at hr;cases hr),fun j hj=>?_⟩
  by_cases hji:j=i
  ·subst hji;exact hy.wpOp hi hS ⟨.inr hS,H⟩
  ·have h1:=H.2 j (ready_mono hj hji)
   obtain⟨hjun,oj,hoj,hall⟩:=mem_ready.1 hj
   have hnot:∀e∈oj.after,Region.binds md e=true→e.on≠i:=fun e he hb heq=>by
    have h1:=hall e he hb
    have h0:=(mem_ready.1 hr).1
    rw[heq] at h1
    rcases Nat.lt_or_ge i listed.size with h' | h'
    ·simp[h'] at h0 h1;rw[h0] at h1;cases h1
    ·simp[Array.getElem?_eq_none h'] at h1
   have hjt:j≠t:=by
    rintro rfl
    unfold Z5x at ht
    rw[hoj] at ht
    obtain⟨e,he,hb⟩:=Array.any_eq_true'.1 ht
    rw[Bool.and_eq_true,beq_iff_eq] at hb
    exact hnot e he hb.1 hb.2
   have h2:=wpOp_putIf hoj (hfree j oj hoj hji hjun hnot) (fun cs b=>hsel i oi cs b hi) (fun cs b=>hsel j oj cs b hoj) hQ hy h1
   have hfree':∀k ok,ops[k]?=some ok→k≠i→(listed.setIfInBounds j true).getD k true=false →
     (∀e∈ok.after,Region.binds md e=true→e.on≠i)→oi.apart ops ok=true:=fun k ok hk hki hun hno=>by
    refine hfree k ok hk hki ?_ hno
    by_cases hjk:j=k
    ·subst hjk;exact hjun
    ·rw[getD_set_ne true hjk] at hun;exact hun
   refine wpOp_mono (fun a' w' h3=>⟨h3.2.1,ih (listed.setIfInBounds j true) a' w' hfree' (ready_mono hr (Ne.symm hji)) h3.1 (h3.2.1.resolve_left hjt) ?_⟩) h2
   rw[Array.setIfInBounds_comm _ _ hji]
   exact h3.2.2
theorem Zd{t i:Nat}{oi:Oper}{v:Value}{fuel:Nat}{listed:Array Bool}{a:Act}{w:World}(hi:ops[i]?=some oi)(ht:Z5x md ops t i=true)
  (hs:Region.noSelect ops=true) (hf:Region.free md ops listed i=true) (hr:(Region.ready md ops listed).contains i=true)
  (hQ:∀c a w,Q (.panic c) (a.put oi.dst v) w→Q (.panic c) a w) (hy:YieldsIf P ops S oi v a) (hS:S w)
  (h:U8 P md ops Q S t fuel (listed.setIfInBounds i true) (a.put oi.dst v) w):U8 P md ops Q S t (fuel+1) listed a w :=
 Z8i hi ht (Region.noSelect_spec hs) hQ fuel listed a w (Region.free_spec hi hf) (by simpa using hr) hy hS h
theorem Zaq{t:Nat}{listed:Array Bool}{a:Act}{w:World}(hr:Region.ready md ops listed=[])(h:Q .normal a w) :
  ∀fuel,U8 P md ops Q S t fuel listed a w
 | 0=>⟨hr,h⟩
 | _+1=>⟨fun _=>h,by rw[hr];simp⟩
theorem Zlx{t i:Nat}{o:Oper}{fuel:Nat}{listed:Array Bool}{a:Act}{w:World}(hr:Region.ready md ops listed=[i])(ho:ops[i]?=some o)
  (h:∀K':Act→World→Prop,(∀a w,i=t∨S w→U8 P md ops Q S t fuel (listed.setIfInBounds i true) a w→K' a w)→if Region.wanted o (yielded ops a.tmps)=true then Oper.wp P o a w K' Q else K' (a.put o.dst undef) w):U8 P md ops Q S t (fuel+1) listed a w :=
 ⟨fun h0=>absurd (hr▸h0) (by simp),fun j hj=>by
  rw[hr] at hj
  obtain rfl:j=i:=by simpa using hj
  exact opH ho (fun K' hK=>h K' (fun a w q1 q2=>hK a w ⟨q1,q2⟩))⟩
theorem Z62{r n id:Nat}{l:List Oper}{a:Act}{w:World}(t:Nat)(S:World→Prop)(hm:P.follows .mixedOrders=true)(hd:l.all Z03=true)
  (h:U8 P .any l.toArray (NOr Q) S t l.toArray.size (Array.replicate l.toArray.size false) a w.drew):(Code.region id l.toArray true).wpIn (Fence.wide.inRound r) n P Q a w :=
 wpIn_mono (wpIn_region_any hm (Z0w (fun o ho=>List.all_eq_true.1 hd o (by simpa using ho)) _ _ _ _ (Z1q _ _ _ _ h))) NOr.imp
end
theorem Zis{A B:World}{v:Value}{q:List Rq}(h:Zu A v q)(hk:∀a n c j u,v=.slice (some a) n c→q≠[]→A.cell? ⟨a.block,j,none⟩=some u→B.heap[a.block]?=A.heap[a.block]?):Zu B v q:=by
 by_cases hq:q=[]
 ·subst hq
  obtain⟨a,c,e,⟨_,h⟩ | ⟨b,o,e2,hc⟩⟩:=h
  ·exact⟨a,c,e,.inl ⟨rfl,h⟩⟩
  ·subst e2;exact⟨_,c,e,.inl ⟨rfl,fun q=>by cases q⟩⟩
 ·obtain⟨a,c,e,⟨h,_⟩ | ⟨b,o,e2,hc⟩⟩:=h
  ·exact absurd h hq
  ·subst e2
   obtain⟨y,t,hy⟩:=List.exists_cons_of_ne_nil hq
   have h0:0<q.length:=by rw[hy];simp
   have hc0:=hc.cell 0 h0 0 _ rfl
   have hb:B.heap[b]?=A.heap[b]?:=hk _ _ _ _ _ e hq hc0
   exact⟨_,c,e,.inr ⟨b,o,rfl,World.block_lt_of_cell? _ _ ((World.cell?_of_block hb).trans hc0),fun i hi c u hu=>(World.cell?_of_block hb).trans (hc.cell i hi c u hu)⟩⟩
theorem Z2u.blk{A B:World}{o:Nat}{u u':Option Nat}{x:Hm}(h:Z2u A o u x)(hk:∀b j z,x.a=some b→x.h.q≠[]→A.cell? ⟨b.block,j,none⟩=some z→B.heap[b.block]?=A.heap[b.block]?∧u'≠some b.block):Z2u B o u' x:=by
 refine⟨Zis h.rd fun a n c j z e hq hc=>(hk a j z (by unfold hmV at e;injection e) hq hc).1,h.cap,h.len,h.new,fun b e hq=>?_⟩
 obtain⟨a,c,e1,⟨q1,_⟩ | ⟨b',o',e2,hc⟩⟩:=h.rd
 ·exact absurd q1 hq
 ·unfold hmV at e1
  rw[e,e2] at e1
  injection e1 with e1 _ _
  injection e1 with e1
  subst e1
  obtain⟨y,t,hy⟩:=List.exists_cons_of_ne_nil hq
  have h0:0<x.h.q.length:=by rw[hy];simp
  exact(hk _ _ _ e hq (hc.cell 0 h0 0 _ rfl)).2
theorem BxI.push2{α:Type}{P:Program}{ST T sz bytes c:Nat}{row:α→List Value}(E:Z20 P ST T sz bytes row){w:World}{S0 S:Nat→Prop}{v:Value}{pre:List α}{A A1:World}(h:BxI T sz row w c S0 S v pre A)(hw:w.heap.size≤c)(hex:∀k,S k→k<A.heap.size)(g:Nw A A1)(x:α)(b cc:Nat)(hx:∀j u,(row x)[j]?=some u→A1.cell? ⟨b,j,none⟩=some u)(hsm:pre.length<100000)
  {n₀:Nat} (hD:∀k,(k=n₀∨k=n₀+1)→∃o,A.heap[k]?=some o∧o.isCells=false) :
  ∃v' w1,(Builtin.append_ #[ST,ST] ST #[v,.slice (some ⟨b,0,none⟩) 1 cc]).run P A1=.ok v' w1∧(∃g cap,v'=.slice (some ⟨g,0,none⟩) (pre.length+1) cap)∧w1.cell? ⟨c,0,none⟩=some v∧w1.frozen? ⟨c,0,none⟩=false ∧
   BxI T sz row w c S0 S v' (pre++[x]) (w1.setCell ⟨c,0,none⟩ v')∧Vn S A (w1.setCell ⟨c,0,none⟩ v')∧KpD n₀ A (w1.setCell ⟨c,0,none⟩ v') ∧
   (∀k,k<A1.heap.size→v.ownBlock≠some k→w1.heap[k]?=A1.heap[k]?)∧(v'.ownBlock=v.ownBlock∨v'.ownBlock=some A1.heap.size):=by
 have hc:=h.lt
 obtain⟨v',w1,h1,h2,h3,h4,h5⟩:=Up.push E (onw h.own g) x b cc hx hsm (by have:=g.sz;omega)
 have hvc:∀k,v.ownBlock=some k→c<k:=fun k hk=>oge h.own hk
 have c1:w1.cell? ⟨c,0,none⟩=some v:=by
  have e:w1.heap[c]?=A1.heap[c]?:=h3.block c (lL0 hc g.sz) (fun q=>by have:=hvc c q.symm;omega)
  rw[World.cell?_of_block e];exact g.kp h.cell
 have f1:w1.frozen? ⟨c,0,none⟩=false:=by
  have e:w1.heap[c]?=A1.heap[c]?:=h3.block c (lL0 hc g.sz) (fun q=>by have:=hvc c q.symm;omega)
  rw[World.frozen?_of_block e];exact(g.froz hc).trans h.froz
 have hkeep:∀k,k<A.heap.size→v.ownBlock≠some k→k≠c→(w1.setCell ⟨c,0,none⟩ v').heap[k]?=A.heap[k]?:=fun k hk q1 q2=>by
  rw[Below.heap_setCell _ _ _ _ (by simpa using q2),h3.block k (lL0 hk g.sz) (fun q=>q1 q.symm)]
  exact g.block k hk
 refine⟨v',w1,h1,h5,c1,f1,⟨World.cell?_setCell_same _ _ _ c1,by rw[World.frozen?_setCell];exact f1,Z0i h2 (Nat.lt_succ_self c) _,fun k hk=>?_,h.box,h.sub,?_⟩,⟨?_,fun k hk=>?_⟩,fun k hk=>?_,fun k hk q=>h3.block k hk (fun e=>q e.symm),h4⟩
 ·rcases h4 with q | q
  ·exact h.row k (q▸hk)
  ·rw[q] at hk
   have:=Option.some.inj hk
   have:=g.sz
   intro hs
   have:=hex k hs
   omega
 ·refine((h.nw.trans g).gro h3 (fun k hk=>?_)).st (p:=⟨c,0,none⟩) hw v'
  have:=hvc k hk
  omega
 ·have:=h3.size
  have:=g.sz
  have e:(w1.setCell ⟨c,0,none⟩ v').heap.size=w1.heap.size:=by simp
  omega
 ·exact hkeep k (hex k hk) (fun q=>h.row k q hk) (fun q=>h.box (q▸hk))
 ·obtain⟨o,ho,hno⟩:=hD k hk
  refine hkeep k (Z1 ho) (fun q=>?_) (fun q=>?_)
  ·obtain⟨cc,hcc⟩:=Z6r h.own q
   rw[hcc] at ho;cases ho;cases hno
  ·subst q
   obtain⟨o',ho',hc'⟩:=Zb5 h.cell
   rw[show(⟨k,0,none⟩:Addr).block=k from rfl,ho] at ho';cases ho';rw[hno] at hc';cases hc'
structure HdI(w:World)(S0 S:Nat→Prop)(v:Value)(lm:List Hm)(pre:List Hp)(A:World):Prop where
 bx:BxI 83 4 Z3k w w.heap.size S0 S v lm A
 eq:lm.map Hm.h=pre.map Hp.h
 ok:∀x∈lm,Z2u A w.heap.size v.ownBlock x∧∀b,x.a=some b→x.h.q≠[]→¬S b.block
theorem HdI.step{w A B:World}{n₀:Nat}{S0 S S':Nat→Prop}{v:Value}{lm:List Hm}{pre:List Hp}(hn:w.heap.size≤n₀)(h:HdI w S0 S v lm pre A)(k:Vj n₀ (fun k=>S k∧¬S0 k) A B)(h2:∀k,S' k→S k∨A.heap.size≤k):HdI w S0 S' v lm pre B:=by
 refine⟨h.bx.step hn k h2,h.eq,fun x hx=>?_⟩
 obtain⟨h3,h4⟩:=h.ok x hx
 refine⟨h3.blk fun b j z e hq hc=>⟨Zb6 (a:=⟨b.block,j,none⟩) k hc (fun q=>h4 b e hq q.1),h3.off b e hq⟩,fun b e hq q=>?_⟩
 rcases h2 _ q with q | q
 ·exact h4 b e hq q
 ·obtain⟨a,c,e1,⟨q1,_⟩ | ⟨b',o',e2,hc⟩⟩:=h3.rd
  ·exact hq q1
  ·unfold hmV at e1
   rw[e,e2] at e1
   injection e1 with e1 _ _
   injection e1 with e1
   subst e1
   have:=hc.lt
   have e3:(⟨b',o',none⟩:Addr).block=b':=rfl
   omega
def V8(w:World)(o:Nat)(v:Value)(hs:List Hq):Prop:=∃lm:List Hm,Zcc w (o+1) v lm∧lm.map Hm.h=hs∧∀x∈lm,Z2u w o v.ownBlock x
def Z07(w:World)(hs:List Hq)(e:Ending)(W:World):Prop:=∃v,e=.returned v∧V8 W w.heap.size v hs∧Nw w W
def HdS(c xp:Nat)(v:Value)(t r W:Int)(a:Option Addr)(n m:Nat)(y:World):Prop:=y.cell? ⟨c,0,none⟩=some v∧y.cell? ⟨xp,0,none⟩=some (.int .i64 t)∧y.cell? ⟨xp,1,none⟩=some (.int .i64 r)∧y.cell? ⟨xp,2,none⟩=some (.slice a n m)∧y.cell? ⟨xp,3,none⟩=some (.int .i64 W)
theorem HdS.nw{c xp:Nat}{v:Value}{t r W:Int}{a:Option Addr}{n m:Nat}{y y':World}(h:HdS c xp v t r W a n m y)(g:Nw y y'):HdS c xp v t r W a n m y':=⟨g.kp h.1,g.kp h.2.1,g.kp h.2.2.1,g.kp h.2.2.2.1,g.kp h.2.2.2.2⟩
theorem HdI.push{w A z:World}{n₀:Nat}{S0 S:Nat→Prop}{v:Value}{lm:List Hm}{pre:List Hp}(h:HdI w S0 S v lm pre A)(hex:∀k,S k→k<A.heap.size)(g:Nw A z){t r W:Int}{q:List Rq}{x:Hp}(hx:x.h=⟨t,r,W,q⟩)(hq:q.length≤1000){a1:Option Addr}{c1:Nat}(ho:Z7 z A.heap.size (.slice a1 q.length c1) q)(hsm:lm.length<100000)
  (hD:∀k,(k=n₀∨k=n₀+1)→∃o,A.heap[k]?=some o∧o.isCells=false) {xp:Nat} {a:Option Addr} {m:Nat} (hxp:xp<w.heap.size) (hS:HdS w.heap.size xp v t r W a q.length m A) :
  ∃v' w1,(Builtin.append_ #[58,58] 58 #[v,.slice (some ⟨z.heap.size,0,none⟩) 1 1]).run prog (z.alloc (.cells #[.int .i64 t,.int .i64 r,.slice a1 q.length c1,.int .i64 W] 83))=.ok v' w1∧(∃g cap,v'=.slice (some ⟨g,0,none⟩) (lm.length+1) cap)∧w1.cell? ⟨w.heap.size,0,none⟩=some v∧w1.frozen? ⟨w.heap.size,0,none⟩=false ∧
   HdS w.heap.size xp v t r W a q.length m w1 ∧
   (∃lm',HdI w S0 S v' lm' (pre++[x]) (w1.setCell ⟨w.heap.size,0,none⟩ v'))∧Vn S A (w1.setCell ⟨w.heap.size,0,none⟩ v')∧KpD n₀ A (w1.setCell ⟨w.heap.size,0,none⟩ v'):=by
 have hal:=Z2 z (.cells #[.int .i64 t,.int .i64 r,.slice a1 q.length c1,.int .i64 W] 83)
 have g1:Nw z (z.alloc (.cells #[.int .i64 t,.int .i64 r,.slice a1 q.length c1,.int .i64 W] 83)):=(Nw.refl z).alloc _
 have hsz:(z.alloc (.cells #[.int .i64 t,.int .i64 r,.slice a1 q.length c1,.int .i64 W] 83)).heap.size=z.heap.size+1:=by simp
 generalize z.alloc (.cells #[.int .i64 t,.int .i64 r,.slice a1 q.length c1,.int .i64 W] 83)=z1 at *
 obtain⟨v',w1,h1,h2,h3,h4,h5,h6,h7,h8,h9⟩:=h.bx.push2 Z1t (Nat.le_refl _) hex (g.trans g1) (⟨⟨t,r,W,q⟩,a1,c1⟩:Hm) z.heap.size 1 (fun j u hu=>by
  rw[Z0 hal]
  simpa [Z3k] using hu) hsm hD
 have hvl:∀k,v.ownBlock=some k→k<A.heap.size:=fun k e=>olt h.bx.own e
 have hvg:∀k,v.ownBlock=some k→w.heap.size<k:=fun k e=>oge h.bx.own e
 have hwA:=h.bx.nw.sz
 have hAz:=g.sz
 have hcl:=h.bx.lt
 have keep:∀k,k<z1.heap.size→v.ownBlock≠some k→k≠w.heap.size→(w1.setCell ⟨w.heap.size,0,none⟩ v').heap[k]?=z1.heap[k]?:=fun k hk q1 q2=>by
  rw[Below.heap_setCell _ _ _ _ (by simpa using q2)];exact h8 k hk q1
 have sc:∀j u,A.cell? ⟨xp,j,none⟩=some u→w1.cell? ⟨xp,j,none⟩=some u:=fun j u e=>by
  have e1:w1.heap[xp]?=z1.heap[xp]?:=h8 xp (by omega) (fun q=>by have:=hvg _ q;omega)
  rw[World.cell?_of_block e1]
  exact(g.trans g1).kp e
 refine⟨v',w1,h1,h2,h3,h4,⟨h3,sc _ _ hS.2.1,sc _ _ hS.2.2.1,sc _ _ hS.2.2.2.1,sc _ _ hS.2.2.2.2⟩,⟨lm++[⟨⟨t,r,W,q⟩,a1,c1⟩],h5,by rw[List.map_append,List.map_append,h.eq];simp[hx],fun y hy=>?_⟩,h6,h7⟩
 rcases List.mem_append.1 hy with hy | hy
 ·obtain⟨k1,k2⟩:=h.ok y hy
  refine⟨k1.blk fun b j u e hne hc=>?_,k2⟩
  have hbl:b.block<A.heap.size:=World.block_lt_of_cell? _ ⟨b.block,j,none⟩ hc
  have hbn:b.block≠w.heap.size:=by
   have:=k1.new b _ _ (by unfold hmV;rw[e])
   omega
  refine⟨(keep b.block (by omega) (k1.off b e hne) hbn).trans ((g.trans g1).block _ hbl),?_⟩
  rcases h9 with q9 | q9
  ·rw[q9];exact k1.off b e hne
  ·rw[q9];intro e9;have:=Option.some.inj e9;omega
 ·obtain rfl:y=⟨⟨t,r,W,q⟩,a1,c1⟩:=by simpa using hy
  have hbk:∀b,a1=some b→A.heap.size≤b.block∧b.block<z.heap.size:=fun b e=>by
   subst e
   rcases V4 ho with⟨e,_⟩ | ⟨g',cap,e⟩
   ·cases e
   ·cases e
    exact⟨oge ho rfl,olt ho rfl⟩
  refine⟨⟨?_,?_,hq,fun b n c e=>?_,fun b e hne=>?_⟩,fun b e hne hs=>?_⟩
  ·refine Zis (Rd.nw (Z7.rd ho) g1) fun b n c j u e hne hc=>?_
   unfold hmV at e
   simp only[Value.slice.injEq] at e
   have:=hbk b e.1
   exact keep b.block (by omega) (fun q=>by have:=hvl _ q;omega) (by omega)
  ·exact Z7.cap ho
  ·unfold hmV at e
   simp only[Value.slice.injEq] at e
   have:=hbk b e.1
   omega
  ·have:=hbk b e
   rcases h9 with q9 | q9
   ·rw[q9];intro q;have:=hvl _ q;omega
   ·rw[q9];intro e9;have:=Option.some.inj e9;omega
  ·have:=hbk b e
   have:=hex _ hs
   omega
end Go.Proofs.YtfepoibfbmehiaaGreatDoor
