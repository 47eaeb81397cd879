/- Texts merged: BkZMB -/
import Derived.Test.YtpffldfpabglbaaGreatDoorTableScriptB19
set_option linter.unusedVariables false
set_option maxRecDepth 100000
set_option maxHeartbeats 16000000
namespace Go.Proofs.YtpffldfpabglbaaGreatDoor
open Go.RowKit _root_.Go.Proofs.Tryz
theorem Zg0{w:World}{o po n:Nat}{v:Value}{l:List Hm}(h:Rb w o po n v l)(s:Y9 (Z3 l))(hok:∀x∈l,Ok x.h.W x.h.q)(hq:∀x∈l,x.h.q.length<1000){pg:Nat}{L:List Bool}(hp:Rp w po pg L)(hpg:pg<o)(hn64:n≤64)(t r txn m:Int)(he:Zz n (Z3 l) L t r txn m=0)(hae:Z12 (hdB (Z3 l) t r).q (Zo L) txn m=0)(hfl:Zo L<L.length)(hg1:Z0a (Z3 l) (t,r)≠none) :
  Calls prog 103 #[.pointer (some ⟨o,0,none⟩),.agg #[.int .i64 t,.int .i64 r],.int .i64 txn,.int .i64 m] w (Z5p w o po pg n v l L t r txn m):=by
 obtain⟨hm0,hk,hfi,hlv,hnn⟩:=Zc3 he
 obtain⟨a,c,rfl,hf⟩:=h.form
 have HF:=hD0 hf
 have H:=hD0 h
 have HS:=hD0 s
 have HO:=hD0 hok
 have HQ:=hD0 hq
 have HPl:=hD0 hp
 have hol:=h.ol
 have hpl:=h.pl
 have hcap0:l.length≤c:=by
  rcases hf with⟨_,e,e2⟩ | ⟨g,e,_⟩
  ·rw[e,e2];exact Nat.le_refl _
  ·subst e;exact Ur h.own
 have hN:Nw w (w.alloc (.cells #[.int .i64 t,.int .i64 r] 34)):=(Nw.refl w).alloc _
 have hb0:=Z1 w (.cells #[.int .i64 t,.int .i64 r] 34)
 have HKn:=hD0 (Z0z m)
 rw[hk] at HKn
 have d:(m==0)=false:=by simpa using hm0
 have HG1:=hD0 hg1
 clear hg1
 clear h hf s hok hq hp hm0
 obtain⟨z,hz⟩:∃z,w.alloc (.cells #[.int .i64 t,.int .i64 r] 34)=z:=⟨_,rfl⟩
 rw[hz] at hN hb0
 have n0:z.cell? ⟨w.heap.size,0,none⟩=some (.int .i64 t):=Z0 hb0
 have n1:z.cell? ⟨w.heap.size,1,none⟩=some (.int .i64 r):=Z0 hb0
 have HFi:=hD0 (Z6s (H.out.nw hN) HS.out t r txn)
 rw[Z7h,hfi] at HFi
 generalize (Uf (Z3 l) t r txn).1=fid at HFi
 have HE:=hD0 (aI0 he (aI0 hae (aI0 hfl hnn)))
 clear he hae hfl hnn hfi hk
 go_enter func103,ntmps103
 go_wp2_with (go_at_call 87;refine(HKn.out _).mono ?_;rintro e w' ⟨rfl,rfl⟩)
 refine HFi.out.mono ?_
 rintro e w1 ⟨rfl,g1⟩
 have HN1:=hD0 (hN.trans g1)
 have hb1:=g1.at' hb0
 have m0:w1.cell? ⟨w.heap.size,0,none⟩=some (.int .i64 t):=Z0 hb1
 have m1:w1.cell? ⟨w.heap.size,1,none⟩=some (.int .i64 r):=Z0 hb1
 have HPc:=hD0 (Z4m (H.out.nw HN1.out) t r)
 clear hz n0 n1 hb0 g1 hN HFi HKn
 go_wp2_with fail
 refine HPc.out.mono ?_
 rintro e w2 ⟨k,b,rfl,hpi,g2⟩
 have hb2:=g2.at' hb1
 have HN2:=hD0 (HN1.out.trans g2)
 have c0:=(H.out.nw HN2.out).c0
 have c1:=(H.out.nw HN2.out).c1
 have c2:=(H.out.nw HN2.out).c2
 have HLv:=hD0 (fun x (g:Nw w2 x)=>Z4r (HPl.out.nw (HN2.out.trans g)))
 have HMs:=hD0 (fun x (g:Nw w2 x)=>(Z81 (HPl.out.nw (HN2.out.trans g))).mono (fun e w' h=>(⟨h.1,by rw[h.2];exact Nw.refl _⟩:e=.returned (.int .i64 L.length)∧Nw x w')))
 have hls:(Z3 l).length=l.length:=List.length_map _
 have hll:=H.out.len
 have hLs:=HPl.out.sz
 have HPi:=hD0 hpi
 have HB2:=hD0 hb2
 have hne:Nonempty (Wd (fun y=>Nw w2 y)):=⟨⟨_,Nw.refl w2⟩⟩
 have j3:decide (L.length≤liv L)=false:=by simp;omega
 have j4:decide ((L.length:Int)≤(liv L:Int))=false:=by simp;omega
 have i2:¬((L.length:Int)≤(liv L:Int)):=by omega
 clear hb1 hb2 hpi g2 m0 m1 HPc
 go_wp2_with fail
 have d0:∀d:Wd (fun y=>Nw w2 y),d.w.cell? _=_:=fun d=>d.h.kp c0
 have d1:∀d:Wd (fun y=>Nw w2 y),d.w.cell? _=_:=fun d=>d.h.kp c1
 have d2:∀d:Wd (fun y=>Nw w2 y),d.w.cell? _=_:=fun d=>d.h.kp c2
 rcases HPi.out.get HS.out with⟨rfl,hgn,-⟩ | ⟨rfl,hkl,hnk,hgn⟩
 ·exact absurd hgn HG1.out
 ·skip
  refine Zf (fun y=>Nw w2 y) (by kernel_rfl) (by kernel_rfl) (Nw.refl _).dr ?_
  repeat (first | go_big_quiet_step (first | exact Zd (fun a b h g=>h.trans g) (HLv.out _ (Wd.h _)) | exact Zd (fun a b h g=>h.trans g) (HMs.out _ (Wd.h _))) | quiet_step (first | exact Zd (fun a b h g=>h.trans g) (HLv.out _ (Wd.h _)) | exact Zd (fun a b h g=>h.trans g) (HMs.out _ (Wd.h _))))
  refine wpQuiet_nil ?_
  intro d
  have HN3:=hD0 (HN2.out.trans d.h)
  have hb3:=d.h.at' HB2.out
  clear d0 d1 d2 hne c0 c1 c2 HLv HMs
  revert HN3 hb3
  generalize d.w=w3
  intro HN3 hb3
  have s0:w3.cell? ⟨w.heap.size,0,none⟩=some (.int .i64 t):=Z0 hb3
  have s1:w3.cell? ⟨w.heap.size,1,none⟩=some (.int .i64 r):=Z0 hb3
  have s9:=hlt hb3
  clear hb3
  obtain⟨pb,hpb⟩:∃pb,w3.heap.size=pb:=⟨_,rfl⟩
  have hpw:w.heap.size≤pb:=by rw[←hpb];exact HN3.out.sz
  have HPb:=hD0 hpb
  clear hpb
  have hx:=(H.out.nw HN3.out).ok _ (gM0 hkl)
  have hokx:=HO.out _ (gM0 hkl)
  have hqx:=HQ.out _ (gM0 hkl)
  have hnw0:∀b,l[k].a=some b→¬b.block=pg:=fun b e=>by have:=hx.new b l[k].h.q.length l[k].c (by unfold hmV;rw[e]);omega
  have hrdT:∀(S:Nat→Prop) w',Z4 S w3 w'→(∀b,l[k].a=some b→l[k].h.q≠[]→¬S b.block)→Zl w' (.slice l[k].a l[k].h.q.length l[k].c) l[k].h.q:=fun S w' t hS=>(hx.tchS t hS).rd
  rcases HF.out with⟨_,e,_⟩ | ⟨g,rfl,hog,hgl⟩
  ·subst e;simp at hkl
  have hRb:=H.out.nw (HN3.out.alloc (.cells #[.int .i64 t,.int .i64 r,.slice none 0 0,.int .i64 0] 63))
  obtain⟨f0,f1,f2,f3⟩:=hRb.at_ k hkl
  have hki:(k:Int)<(l.length:Int):=by omega
  have c2:=hRb.c2
  obtain⟨hhd,ht',hr'⟩:=Zvp hkl hnk hgn
  rw[ht'] at f0
  rw[hr'] at f1
  clear hnk hgn ht' hr' hx hRb
  have HRT:=hD0 hrdT
  have HHd:=hD0 hhd
  have HLw:=hD0 (aI0 hnw0 (aI0 hnw0 (aI0 hokx hqx)))
  clear hrdT hnw0 hhd hokx hqx
  generalize l[k].a=qa at *
  generalize l[k].c=qc at *
  generalize l[k].h.W=hW at *
  generalize l[k].h.q=Q at *
  obtain⟨ql,hql⟩:∃ql,Q.length=ql:=⟨_,rfl⟩
  rw[hql] at f2 HRT
  have HQl:=hD0 hql
  clear hql
  have hol1:o<w3.heap.size+1:=by have:=(H.out.nw HN3.out).ol;omega
  have hgy:g<w3.heap.size+1:=by have:=HN3.out.sz;omega
  have hgp:¬(g=w3.heap.size):=by have:=HN3.out.sz;omega
  have hop:¬(o=w3.heap.size):=by have:=(H.out.nw HN3.out).ol;omega
  have hlc:l.length≤c:=hcap0
  have hkp:k≤l.length:=HPi.out.1
  obtain⟨nx,hnx⟩:∃nx:Nat,k+1=nx:=⟨_,rfl⟩
  have hi1:k≤l.length:=by omega
  have hi3:nx≤l.length:=by omega
  have hi4:k+1+(l.length-nx)≤64:=by omega
  have hk7:k≤c:=by omega
  have hkc:(k:Int)≤(c:Int):=by omega
  have hk5:(l.length:Int)≤(c:Int):=by omega
  have hk3:nx≤c:=by omega
  have hk4:(nx:Int)≤(l.length:Int):=by omega
  have hk6:((l.length:Int)-(nx:Int)).toNat=l.length-nx:=by omega
  have hk1:(k:Int)+1=(nx:Int):=by omega
  have hkn:IntKind.i64.wrap ((k:Int)+1)=(nx:Int):=by rw[IntKind.wrap_i64]<;>omega
  have hkn2:IntKind.i64.wrap (nx:Int)=(nx:Int):=by rw[IntKind.wrap_i64]<;>omega
  have hkw:wrap64 ((k:Int)+1)=(nx:Int):=by unfold wrap64;omega
  have HNx:=hD0 (show nx=if true=true then k+1 else k by rw[if_pos rfl];exact hnx.symm)
  clear hnx
  obtain⟨⟨AW,AQ,AG⟩,hA⟩:∃X,Yv hW Q (Zo L) txn m=X:=⟨_,rfl⟩
  have hae:=HE.out.2.1
  rw[HHd.out] at hae
  have HRr:=hD0 (show Z03 ⟨t,r,hW,Q⟩ (Zo L) txn m=(⟨t,r,AW,AQ⟩,AG,0)by unfold Z03;rw[if_pos hae,hA])
  have HAl:Hid (AQ.length≤1000):=by
   have h1:=Zgt hA
   have:=HLw.out.2.2.2
   exact Nat.le_trans (Nat.le_of_eq h1) (by omega)
  have HAq:=hD0 hA
  clear hA hae
  have HPw:=hD0 hpw
  have HTk0:=hD0 (show tkR L=((Zo L:Int),0)by unfold tkR;rw[if_pos HE.out.2.2.1])
  have hNu:Nw w (w3.alloc (.cells #[.int .i64 t,.int .i64 r,.slice qa ql qc,.int .i64 hW] 63)):=HN3.out.alloc _
  have g1u:Nw w3 (w3.alloc (.cells #[.int .i64 t,.int .i64 r,.slice qa ql qc,.int .i64 hW] 63)):=(Nw.refl w3).alloc _
  have c1:=(H.out.nw hNu).c1
  have hal:=Z1 w3 (.cells #[.int .i64 t,.int .i64 r,.slice qa ql qc,.int .i64 hW] 63)
  rw[HPb.out] at hal
  have HTk:=hD0 (Zdx (HPl.out.nw hNu))
  have HNu:=hD0 (aI0 hNu g1u)
  have HBx:=hD0 hal
  clear hal hNu g1u
  go_wp2_with fail
  rw[HPb.out]
  generalize w3.alloc (.cells #[.int .i64 t,.int .i64 r,.slice qa ql qc,.int .i64 hW] 63)=u1 at *
  clear c1 f0 f1 f2 f3 c2 hol1 hgy hgp hop s0 s1 s9
  refine HTk.out.mono ?_
  rintro e u2 ⟨rfl,hRp,hT2⟩
  obtain⟨hb4,hR2⟩:=Zll H.out HNu.out.1 HPw.out hpg HBx.out hT2
  have p0:u2.cell? ⟨pb,0,none⟩=some (.int .i64 t):=Z0 hb4
  have p1:u2.cell? ⟨pb,1,none⟩=some (.int .i64 r):=Z0 hb4
  have p2:u2.cell? ⟨pb,2,none⟩=some (.slice qa ql qc):=Z0 hb4
  have p3:u2.cell? ⟨pb,3,none⟩=some (.int .i64 hW):=Z0 hb4
  have hpbl:=hlt hb4
  have hrd2:Zl u2 (.slice qa ql qc) Q:=HRT.out (fun b=>b=pg) u2 ((Z4.nw HNu.out.2).trans hT2) (fun b e hne q=>HLw.out.1 b e q)
  have hA9:=Zp4 t r hW (Zo L) txn m (.slice qa ql qc) Q u2 (Nat.le_of_lt HLw.out.2.2.2) HLw.out.2.2.1 hrd2
  clear hrd2
  rw[HRr.out] at hA9
  unfold Yf at hA9
  have HA9:=hD0 hA9
  have HTt:=hD0 (aI0 hT2 (aI0 hRp (aI0 hR2 hb4)))
  rw[HTk0.out]
  clear hA9 hT2 hRp hR2 hb4 HTk
  go_wp2_with fail
  refine HA9.out.mono ?_
  rintro e u3 ⟨v3,rfl,g3,hrd3,hcap3,hnew3⟩
  obtain⟨a3,n3,hv3⟩:=hrd3.form
  obtain⟨al,hal3⟩:∃al,AQ.length=al:=⟨_,rfl⟩
  simp only at hv3 hrd3
  rw[hal3] at hv3
  subst hv3
  obtain⟨hb5,hR3,hb6,hR4,hX,hXn,hw4,hT4,hRp4⟩:=Zlm (t:=t) (r:=r) (AW:=AW) H.out HNu.out.1 HPw.out hpg HTt.out.2.2.2 HTt.out.1 HTt.out.2.2.1 HTt.out.2.1 g3 hal3 HAl.out hrd3 hcap3 hnew3
  clear p0 p1 p2 p3 hpbl
  have p0:u3.cell? ⟨pb,0,none⟩=some (.int .i64 t):=Z0 hb5
  have p1:u3.cell? ⟨pb,1,none⟩=some (.int .i64 r):=Z0 hb5
  have p2:u3.cell? ⟨pb,2,none⟩=some (.slice qa ql qc):=Z0 hb5
  have p3:u3.cell? ⟨pb,3,none⟩=some (.int .i64 hW):=Z0 hb5
  have pz:=fun j=>hfz (j:=j) hb5
  have hp3:=hlt hb5
  simp only[Yf]
  have HG:=hD0 (aI0 hb6 (aI0 hR4 (aI0 hX (aI0 hXn (aI0 hw4 (aI0 hT4 (aI0 hRp4 hal3)))))))
  clear hb5 hR3 hb6 hR4 hX hXn hw4 hT4 hRp4 hal3 hrd3 hcap3 hnew3 g3 HTt
  go_upto_region 14 with fail
  generalize ((((u3.setCell ⟨pb,0,none⟩ (.int .i64 t)).setCell ⟨pb,1,none⟩ (.int .i64 r)).setCell ⟨pb,2,none⟩ (.slice a3 al n3)).setCell ⟨pb,3,none⟩ (.int .i64 AW))=u4 at *
  clear p0 p1 p2 p3 pz hp3
  have q0:u4.cell? ⟨pb,0,none⟩=some (.int .i64 t):=Z0 HG.out.1
  have q1:u4.cell? ⟨pb,1,none⟩=some (.int .i64 r):=Z0 HG.out.1
  have q2:u4.cell? ⟨pb,2,none⟩=some (.slice a3 AQ.length n3):=Z0 HG.out.1
  have q3:u4.cell? ⟨pb,3,none⟩=some (.int .i64 AW):=Z0 HG.out.1
  rw[HG.out.2.2.2.2.2.2.2] at q2
  have hl4:=hlt HG.out.1
  have c2:=HG.out.2.1.c2
  have hol4:=HG.out.2.1.ol
  have hfz4:=fun j=>HG.out.2.1.fz j
  have HO4:=hD0 HG.out.2.1.own
  by_cases hcn:c=nx
  ·skip
   obtain⟨v4,w4,a5,n5,c5,w5,a6,n6,c6,w6,hr4,hN4,hr5,hN5,hr6,hN6,hE6⟩:=Z72 H.out HS.out hpg HE.out.1 HPi.out HHd.out HAq.out HG.out.2.2.2.2.2.2.2 HG.out.1 HG.out.2.1 HG.out.2.2.1 HG.out.2.2.2.1 HG.out.2.2.2.2.1 HG.out.2.2.2.2.2.1 HG.out.2.2.2.2.2.2.1 (nx:=nx) HNx.out hi3 hi4 (v1:=.slice (some ⟨g,0,none⟩) k c) (v2:=.slice (some ⟨g,0,none⟩) (l.length-nx) (c-nx)) (fun z q=>Z33 HO4.out hi1 q) (fun z q=>Zg3 (Nat.le_trans hlc (Nat.le_of_eq hcn)))
   have HFin:=hD0 hE6
   have HR4':=hD0 hr4
   have HR5':=hD0 hr5
   have HR6':=hD0 hr6
   have c24:=hN4.kp c2
   have c25:=hN5.kp c2
   have c26:=hN6.kp c2
   have z0:=hN4.kp q0
   have z1:=hN4.kp q1
   have z2:=hN4.kp q2
   have z3:=hN4.kp q3
   have hz6:=fun j=>(hN6.froz hol4).trans (hfz4 j)
   have ho4:o<w4.heap.size:=lL0 hol4 hN4.sz
   have ho5:o<w5.heap.size:=lL0 hol4 hN5.sz
   have ho6:o<w6.heap.size:=lL0 hol4 hN6.sz
   have hp4:pb<w4.heap.size:=lL0 hl4 hN4.sz
   clear hr4 hr5 hr6 hE6 hN4 hN5 hN6 HG
   go_wp2_with (at_builtin;first | (refine Z5 (by rfl) (.tmp 96) (.tmp 102) 40 rfl _ _ _ _ rfl (by first | rfl | simp[Act.eval, *]) HR4'.out ?_) | (refine Z5 (by rfl) (.tmp 104) (.tmp 106) 40 rfl _ _ _ _ (by first | rfl | simp[Act.eval, *]) (by first | rfl | simp[Act.eval, *]) HR5'.out ?_) | (refine Z5 (by rfl) (.tmp 112) (.tmp 118) 40 rfl _ _ _ _ (by first | rfl | simp[Act.eval, *]) (by first | rfl | simp[Act.eval, *]) HR6'.out ?_))
   exact bodyPost_ret (v:=.tuple #[.int .i64 (Zo L),.bool AG,.int .i64 0]) (by simp[results,results103,go_sem, *]) rfl HFin.out
  ·skip
   obtain⟨v4,w4,a5,n5,c5,w5,a6,n6,c6,w6,hr4,hN4,hr5,hN5,hr6,hN6,hE6⟩:=Z72 H.out HS.out hpg HE.out.1 HPi.out HHd.out HAq.out HG.out.2.2.2.2.2.2.2 HG.out.1 HG.out.2.1 HG.out.2.2.1 HG.out.2.2.2.1 HG.out.2.2.2.2.1 HG.out.2.2.2.2.2.1 HG.out.2.2.2.2.2.2.1 (nx:=nx) HNx.out hi3 hi4 (v1:=.slice (some ⟨g,0,none⟩) k c) (v2:=.slice (some ⟨g,nx*4,none⟩) (l.length-nx) (c-nx)) (fun z q=>Z33 HO4.out hi1 q) (fun z q=>Z6t HO4.out hi3 q)
   have HFin:=hD0 hE6
   have HR4':=hD0 hr4
   have HR5':=hD0 hr5
   have HR6':=hD0 hr6
   have c24:=hN4.kp c2
   have c25:=hN5.kp c2
   have c26:=hN6.kp c2
   have z0:=hN4.kp q0
   have z1:=hN4.kp q1
   have z2:=hN4.kp q2
   have z3:=hN4.kp q3
   have hz6:=fun j=>(hN6.froz hol4).trans (hfz4 j)
   have ho4:o<w4.heap.size:=lL0 hol4 hN4.sz
   have ho5:o<w5.heap.size:=lL0 hol4 hN5.sz
   have ho6:o<w6.heap.size:=lL0 hol4 hN6.sz
   have hp4:pb<w4.heap.size:=lL0 hl4 hN4.sz
   clear hr4 hr5 hr6 hE6 hN4 hN5 hN6 HG
   go_wp2_with (at_builtin;first | (refine Z5 (by rfl) (.tmp 96) (.tmp 102) 40 rfl _ _ _ _ rfl (by first | rfl | simp[Act.eval, *]) HR4'.out ?_) | (refine Z5 (by rfl) (.tmp 104) (.tmp 106) 40 rfl _ _ _ _ (by first | rfl | simp[Act.eval, *]) (by first | rfl | simp[Act.eval, *]) HR5'.out ?_) | (refine Z5 (by rfl) (.tmp 112) (.tmp 118) 40 rfl _ _ _ _ (by first | rfl | simp[Act.eval, *]) (by first | rfl | simp[Act.eval, *]) HR6'.out ?_))
   exact bodyPost_ret (v:=.tuple #[.int .i64 (Zo L),.bool AG,.int .i64 0]) (by simp[results,results103,go_sem, *]) rfl HFin.out
end Go.Proofs.YtpffldfpabglbaaGreatDoor
