/- Texts merged: TbQ, TbH, TbR, TbS, BkZM, BkZMA -/
import Derived.Test.YtpffldfpabglbaaGreatDoorTableScriptB18
import Derived.Deep.CutRange
set_option linter.unusedVariables false
set_option maxRecDepth 100000
set_option maxHeartbeats 16000000
namespace Go.Proofs.YtpffldfpabglbaaGreatDoor
open Go.RowKit _root_.Go.Proofs.Tryz
open Go.Shelf
section
variable {W W1 W2 W':World} {o S n N k:Nat} {C:Ud} {bb cp hb po:Nat} {ds ds':List DB} {hv hv':List (Int × Nat)} {L L':List Bool} {F F':Nat→Prop}
theorem Z6v(hm1:TbM W1 o n C bb cp hb po ds' hv L' F')(hsub:∀b,TbJ o bb hb ds' F' b→TbJ o bb hb ds F b∨W.heap.size≤b)(ht:Z4 (TbJ o bb hb ds F) W W1)(p:hv.Perm (hvT ds')){hss:List (List Hq)}(e:Ze ds'=hss)(ok:Y1 S n N k hss L'):Z2f W o S n N k C hss L' (TbJ o bb hb ds F) W1 :=
 ⟨_,⟨bb,cp,hb,po,ds',hv,F',hm1,p,e,rfl,ok⟩,hsub,ht⟩
theorem Zea(hm1:TbM W1 o n C bb cp hb po ds' hv L' F')(hsub:∀b,TbJ o bb hb ds' F' b→TbJ o bb hb ds F b∨W.heap.size≤b)(ht:Z4 (TbJ o bb hb ds F) W W1)(m:Yu W2 hb hv')(g:W1.mapTurned W2 hb)(p:hv'.Perm (hvT ds')){hss:List (List Hq)}(e:Ze ds'=hss)(ok:Y1 S n N k hss L'):Z2f W o S n N k C hss L' (TbJ o bb hb ds F) W2:=by
 obtain⟨h2,t2⟩:=hm1.turn m g
 exact⟨_,⟨bb,cp,hb,po,ds',hv',F',h2,p,e,rfl,ok⟩,hsub,ht.trans' t2 fun b hb e=>(hsub b e).elim id (fun q=>by omega)⟩
theorem Z0j(ok:Y1 S n N k (Ze ds) L){i:Nat}(hi:i<ds.length):Zs n k (Zb ds[i].l) (Z68 (Ze ds) i) L:=DtB.inv ok.inv hi
theorem Z0n{i:Nat}(hi:i<ds.length):V6 (Ze ds) i=Zb ds[i].l:=by
 have hi':i<(Ze ds).length:=by rw[Ys];exact hi
 rw[Ve hi',Zas hi hi']
theorem Zbc{i:Nat}(hi:i<ds.length){l':List Hp}{k':Nat}(ok:Y1 S n N k' ((Ze ds).set i (Zb l')) L'):Zs n k' (Zb l') (Z68 (Ze ds) i) L':=by
 have hi':i<((Ze ds).set i (Zb l')).length:=by rw[List.length_set,Ys];exact hi
 have b:=ok.inv.get hi'
 rw[List.getElem_set_self,Ze8] at b
 exact b
theorem Ze9(hm:TbM W o n C bb cp hb po ds hv L F)(p:hv.Perm (hvT ds))(ok:Y1 S n N k (Ze ds) L){i:Nat}(hi:i<ds.length){l':List Hp}(d:Uh W ds[i].o ds[i].mb po n F ds[i].l W' l' L){k':Nat}(ok':Y1 S n N k' ((Ze ds).set i (Zb l')) L):Z2f W o S n N k' C ((Ze ds).set i (Zb l')) L (TbJ o bb hb ds F) W':=by
 obtain⟨F',h1,h2,h3⟩:=hm.call hi d
 exact Z6v h1 h2 h3 (p.trans (Z6g hi (Z7o (Z0j ok hi) (Zbc hi ok'))).symm) (Z7n ds i _) ok'
end
theorem Zrn{L:List Bool}(h:L.length≤128):Fit (Zo L:Int):=by
 have:=Z59 L
 unfold Fit
 omega
theorem Zwi{S n N k:Nat}{ds:List DB}{hv:List (Int × Nat)}{L:List Bool}(p:hv.Perm (hvT ds))(ok:Y1 S n N k (Ze ds) L):∀x∈hv,x.1≠(Zo L:Int):=fun x hx e=>by
 have h1:x.1∈Z1n (Ze ds):=by
  rw[←Znk]
  exact List.mem_map.2 ⟨x,p.mem_iff.1 hx,rfl⟩
 have h2:=ok.inv.mem.1 h1
 rw[e,Zhh] at h2
 cases h2
theorem Zyy{S n N k:Nat}{ds:List DB}{hv:List (Int × Nat)}{L:List Bool}(p:hv.Perm (hvT ds))(ok:Y1 S n N k (Ze ds) L)(h:L.length≤128):hv.length<1000:=by
 rw[p.length_eq,Zwj,ok.inv.ids.length_eq]
 have:(Zg (lnt L)).length=liv L:=by simp[Zg,Z6k]
 rw[this]
 have:liv L≤L.length:=List.countP_le_length
 omega
theorem Zof{t r:Int}(h:Uk t r≠-1):wfN (t,r):=by
 have:-1≤t∧t≤99∧-1≤r∧r≤99:=by
  unfold Uk at h
  split at h
  ·omega
  ·split at h<;>first | omega | (exact absurd rfl h)
 exact⟨WalkArith.wf_i64 (by omega),WalkArith.wf_i64 (by omega)⟩
theorem Zi1{t r n:Int}(h:ofS t r n≠-1):Uk t r≠-1:=fun e=>h (Zb4 t r n e)
def Zel(o bb cp nn s B pb:Nat)(t r:Int)(y:World):Prop:=y.cell? ⟨o,6,none⟩=some (.slice (some ⟨bb,0,none⟩) nn cp)∧y.cell? ⟨bb,s,none⟩=some (ptN B)∧y.cell? ⟨pb,0,none⟩=some (.int .i64 t)∧y.cell? ⟨pb,1,none⟩=some (.int .i64 r)
theorem Zuk{W:World}{o S n N k:Nat}{C:Ud}{hss:List (List Hq)}{L:List Bool}{J:Nat→Prop}(h:Tab W o S n N k C hss L J)(hk:k≤800)(hn:n≤64)(hS:S≤16)(t r txn m:Int) :
  Calls prog 34 #[.pointer (some ⟨o,0,none⟩),.agg #[.int .i64 t,.int .i64 r],.int .i64 txn,.int .i64 m] W fun e W'=>e=.returned (.tuple #[.int .i64 (Z0v n hss L t r txn m).1,.bool (Z0v n hss L t r txn m).2.1,.int .i64 (Z0v n hss L t r txn m).2.2])∧Z2f W o S n N (k+1) C (U0 n hss L t r txn m).1 (U0 n hss L t r txn m).2 J W':=by
 have hTo:=fun(W':World) (g:Nw W W')=>h.to g (k+1) (Nat.le_succ k)
 obtain⟨bb,cp,hb,po,ds,hv,F,hm,hp,rfl,rfl,ok⟩:=h
 have okA:=ok.ask hS (by omega) t r txn m
 obtain⟨z,hz⟩:∃z,W.alloc (.cells #[.int .i64 t,.int .i64 r] 34)=z:=⟨_,rfl⟩
 have g1:Nw W z:=by rw[←hz];exact(Nw.refl W).alloc _
 have hal:=Z1 W (.cells #[.int .i64 t,.int .i64 r] 34)
 rw[hz] at hal
 have HZ:=hD0 hz
 have HMd:=hD0 (Z0f o z (g1.kp hm.c0))
 have HSt:=hD0 (Z8d (hm.nw g1).st t r)
 have hal0:=hal
 obtain⟨pb,hpb⟩:∃pb,W.heap.size=pb:=⟨_,rfl⟩
 rw[hpb] at hal
 have c0:=Z0 (j:=0) hal
 have c1:=Z0 (j:=1) hal
 have cl:=hlt hal
 have HPb:=hD0 hpb
 have hSl:(Ze ds).length=ds.length:=Ys ds
 unfold Z0v U0 at *
 rw[hSl] at okA ⊢
 have hrg:=Z1k t r ds.length
 by_cases hbad:ofS t r ds.length = -1
 ·rw[hbad] at HSt
  simp only[hbad,if_true] at okA ⊢
  have HT:=hD0 hTo
  have HG:=hD0 g1
  clear hz g1 hal hal0 hrg okA hTo hm hp ok hpb
  go_enter func34,ntmps34
  go_wp2_with fail
  rw[HZ.out,HPb.out]
  refine HMd.out.mono ?_
  rintro e z' ⟨rfl,rfl⟩
  go_wp2_with fail
  refine HSt.out.mono ?_
  rintro e z2 ⟨rfl,g2⟩
  have HT2:=hD0 (HT.out z2 (HG.out.trans g2))
  clear g2 HT HG
  go_wp2
  exact bodyPost_ret (v:=.tuple #[.int .i64 0,.bool false,.int .i64 2]) (by simp[results,results34,go_sem, *]) rfl ⟨rfl,HT2.out⟩
 ·simp only[hbad,if_false] at okA ⊢
  have hlv:=Zof (Zi1 hbad)
  obtain⟨s,hs⟩:∃s:Nat,ofS t r ds.length=s:=⟨(ofS t r ds.length).toNat,by omega⟩
  have hi:s<ds.length:=by omega
  rw[hs] at HSt
  simp only[hs,Int.toNat_natCast,Z0n hi] at okA ⊢
  have d1:((s:Int)==-1)=false:=by rw[beq_eq_false_iff_ne];omega
  have d2:(s:Int)<(ds.length:Int):=by omega
  have HM:=hD0 (aI0 hm (aI0 hp (aI0 ok (aI0 hi (aI0 hlv okA)))))
  have HG:=hD0 (aI0 g1 hal0)
  clear hz g1 hal hal0 hrg okA hTo hm hp ok hpb hbad hs hlv
  go_enter func34,ntmps34
  go_wp2_with fail
  rw[HZ.out,HPb.out]
  refine HMd.out.mono ?_
  rintro e z' ⟨rfl,rfl⟩
  go_wp2_with fail
  refine HSt.out.mono ?_
  rintro e z2 ⟨rfl,g2⟩
  have HG2:=hD0 (HG.out.1.trans g2)
  have hb2:=g2.at' HG.out.2
  rw[HPb.out] at hb2
  have c0:=Z0 (j:=0) hb2
  have c1:=Z0 (j:=1) hb2
  have cl:=hlt hb2
  have c6:=HG2.out.kp HM.out.1.c6
  have cr:=HG2.out.kp (HM.out.1.row s HM.out.2.2.2.1)
  have HA:=hD0 (Zyg ((HM.out.1.nw HG2.out.dr).db.db _ (gM0 HM.out.2.2.2.1)) (Z0j HM.out.2.2.1 HM.out.2.2.2.1) hk hn t r txn m HM.out.2.2.2.2.1)
  have c7:=HG2.out.kp HM.out.1.c7
  clear g2 HG HSt HMd
  go_wp2_with fail
  obtain⟨B,hB⟩:∃B,ds[s].o=B:=⟨_,rfl⟩
  rw[hB] at cr HA
  have hS0:Zel o bb cp ds.length s B pb t r z2.drew:=⟨c6,cr,c0,c1⟩
  have q1:∀x,Zel o bb cp ds.length s B pb t r x→x.cell? ⟨o,6,none⟩=some (.slice (some ⟨bb,0,none⟩) ds.length cp):=fun x h=>h.1
  have q2:∀x,Zel o bb cp ds.length s B pb t r x→x.cell? ⟨bb,s,none⟩=some (ptN B):=fun x h=>h.2.1
  have q3:∀x,Zel o bb cp ds.length s B pb t r x→x.cell? ⟨pb,0,none⟩=some (.int .i64 t):=fun x h=>h.2.2.1
  have q4:∀x,Zel o bb cp ds.length s B pb t r x→x.cell? ⟨pb,1,none⟩=some (.int .i64 r):=fun x h=>h.2.2.2
  have HBx:=hD0 (aI0 hB hb2)
  clear c0 c1 c6 cr c7 cl hB hb2
  refine Z8 [some true,some true,some true,some true,some true,some true,some true,some true,some true,some true,some false,none,some true,some true,some true,some true,some true,some true,some true] (Zel o bb cp ds.length s B pb t r) (by kernel_rfl) (by kernel_rfl) (by kernel_rfl) hS0 ?_
  clear hS0
  iterate 10 (refine HW.take' ?_;(apply Exists.intro;refine⟨Or.inl ⟨by rfl,?_⟩,?_⟩;(intro x hx;go_simp;first | done | with_reducible rfl));(try simp only[Act.put,List.setIfInBounds_toArray,List.set_cons_zero,List.set_cons_succ]))
  refine HW.off ?_
  refine HW.go (fun K hK=>?_)
  go_simp
  go_at_call 89
  refine HA.out.mono ?_
  rintro e w3 ⟨rfl,l',hl',d⟩
  rw[←HBx.out.1] at d
  have hz2:W.heap.size≤z2.drew.heap.size:=HG2.out.dr.sz
  obtain⟨F',hm1,hs1,ht1⟩:=(HM.out.1.nw HG2.out.dr).call hi d
  have hpn:¬TbJ o bb hb ds F pb:=fun e=>by have:=HM.out.1.lt _ e;have:=HPb.out;omega
  have hb3:=(ht1.block pb (hlt HBx.out.2) hpn).trans HBx.out.2
  have hS3:Zel o bb cp ds.length s B pb t r w3:=by
   have e1:=hm1.c6
   have e2:=hm1.row s (by rw[List.length_set];exact hi)
   rw[List.length_set] at e1
   rw[List.getElem_set_self] at e2
   simp only[HBx.out.1] at e2
   exact⟨e1,e2,Z0 (j:=0) hb3,Z0 (j:=1) hb3⟩
  have HX:=hD0 (show(∀b,TbJ o bb hb (ds.set s ⟨ds[s].o,ds[s].mb,l'⟩) F' b→TbJ o bb hb ds F b∨W.heap.size≤b)∧Z4 (TbJ o bb hb ds F) W w3 from⟨fun b e=>(hs1 b e).imp id (fun q=>Nat.le_trans hz2 q),(Z4.nw HG2.out.dr).trans ht1⟩)
  have HM1:=hD0 hm1
  have HBx2:Hid (ds[s].o=B):=HBx.out.1
  refine hK.out _ _ hS3 ?_
  intro _
  clear hK K d hm1 hs1 ht1 hpn hb3 HA HBx hz2 q1 q2 q3 q4
  (try simp only[Act.put,List.setIfInBounds_toArray,List.set_cons_zero,List.set_cons_succ])
  have okA:=HM.out.2.2.2.2.2
  have he3:Ze (ds.set s ⟨ds[s].o,ds[s].mb,l'⟩)=(Ze ds).set s (Zb l'):=Z7n ds s _
  by_cases he:Zz n (Zb ds[s].l) L t r txn m=0
  ·obtain⟨_,hfl,_⟩:=Z3y (Z0j HM.out.2.2.1 hi) he
   have eS:(V9 n (Zb ds[s].l) L t r txn m).2=tkL L:=by unfold V9;rw[if_pos he]
   have eR:Uu n (Zb ds[s].l) L t r txn m=((Zo L:Int),(Yv (hdB (Zb ds[s].l) t r).W (hdB (Zb ds[s].l) t r).q (Zo L) txn m).2.2,0):=by unfold Uu;rw[if_pos he]
   have HeR:=hD0 eR
   rw[eR]
   revert HeR
   generalize (Yv (hdB (Zb ds[s].l) t r).W (hdB (Zb ds[s].l) t r).q (Zo L) txn m).2.2=G
   intro HeR
   have hpt:(Za (Zb l')).Perm ((Zo L:Int)::Za (Zb ds[s].l)):=by
    have q:=Zbc (ds:=ds) (l':=l') hi (by rw[hl'];exact okA)
    rw[eS] at q
    exact Znp (Z0j HM.out.2.2.1 hi) hfl q
   have hls:L.length≤128:=HM.out.1.db.pol.sz
   have HTk:=hD0 (aI0 hpt (aI0 (Zwi HM.out.2.1 HM.out.2.2.1) (aI0 (Zyy HM.out.2.1 HM.out.2.2.1 hls) (Zrn hls))))
   generalize (Zo L:Int)=fi at *
   clear eR hfl hpt hls
   simp only
   iterate 7 (refine HW.take' ?_;(apply Exists.intro;refine⟨Or.inl ⟨by rfl,?_⟩,?_⟩;(intro x hx;go_simp;first | done | with_reducible rfl));(try simp only[Act.put,List.setIfInBounds_toArray,List.set_cons_zero,List.set_cons_succ]))
   refine HW.end_ ?_
   refine NoPanic.normal ?_
   have c7:=(HM1.out.nw (Nw.refl _).dr).c7
   have c6:=(HM1.out.nw (Nw.refl _).dr).c6
   have cr:=hS3.2.1
   obtain⟨w4,hrun,hm4,htn⟩:=(HM1.out.nw (Nw.refl _).dr).map.put HTk.out.2.2.1 HTk.out.2.2.2 B HTk.out.2.1
   rw[List.length_set] at c6
   have HU:=hD0 hrun
   have HR:=hD0 (Zea (HM1.out.nw (Nw.refl _).dr) HX.out.1 (HX.out.2.trans (Z4.nw (Nw.refl _).dr)) hm4 htn (((HM.out.2.1.cons _).trans (by rw[←HBx2.out];exact(Zs4 hi HTk.out.1).symm))) (he3.trans (by rw[hl'])) okA)
   clear hS3 HM1 HX hm4 htn hrun HTk okA he3 hl'
   go_wp2_with fail
   refine wp_region_still_tail 12 (by kernel_rfl) (by kernel_rfl) ?_
   simp only[List.take_succ_cons,List.take_zero,List.drop_succ_cons,List.drop_zero]
   iterate 12 still_step
   try refine wpStill_nil ?_
   change wpList _ _ _ _ _ w3.drew
   go_wp2_with (refine Z7w rfl (.tmp 40) (.tmp 41) (.tmp 48) 86 rfl _ _ _ _ rfl rfl rfl HU.out ?_)
   exact bodyPost_ret (v:=.tuple #[.int .i64 fi,.bool G,.int .i64 0]) (by simp[results,results34,go_sem, *]) rfl ⟨by rw[HeR.out],HR.out⟩
  ·obtain⟨eS,eR,_⟩:=Z6b he
   have HR:=hD0 (show Z2f W o S n N (k+1) C ((Ze ds).set s (V9 n (Zb ds[s].l) L t r txn m).1) (V9 n (Zb ds[s].l) L t r txn m).2 (TbJ o bb hb ds F) w3 from
    Z6v HM1.out HX.out.1 HX.out.2 (HM.out.2.1.trans (Z6g hi (by
     have q:=Zbc (ds:=ds) (l':=l') hi (by rw[hl'];exact okA)
     rw[eS] at q
     exact Z7o (Z0j HM.out.2.2.1 hi) q)).symm) (he3.trans (by rw[hl'])) okA)
   obtain⟨E,hE⟩:∃E,Zz n (Zb ds[s].l) L t r txn m=E:=⟨_,rfl⟩
   rw[hE] at he eR
   have HeR:=hD0 eR
   rw[eR]
   have dE:(E==0)=false:=by simpa using he
   clear hS3 HM1 HX okA he3 hl' eR hE he eS
   simp only
   iterate 7 (refine HW.take' ?_;(apply Exists.intro;refine⟨Or.inl ⟨by rfl,?_⟩,?_⟩;(intro x hx;go_simp;first | done | with_reducible rfl));(try simp only[Act.put,List.setIfInBounds_toArray,List.set_cons_zero,List.set_cons_succ]))
   refine HW.end_ ?_
   refine NoPanic.normal ?_
   go_wp2
   exact bodyPost_ret (v:=.tuple #[.int .i64 0,.bool false,.int .i64 E]) (by simp[results,results34,go_sem, *]) rfl ⟨by rw[HeR.out],HR.out⟩
theorem Zyx{L:List Bool}{i:Nat}(hi:i<L.length)(e:L[i]=true):hsL (gvL L (i:Int)) (i:Int)=false:=by
 rw[Z48 L i (by rw[Ye hi];exact e)]
 simp[hsL,hi]
theorem Zmg:∀args w,(callFunc 91 args).run prog w=.ok (.enter 91 args) w:=enters_of func91 (by kernel_rfl) rfl
theorem Zf3:∀args w,(callFunc 99 args).run prog w=.ok (.enter 99 args) w:=enters_of func99 (by kernel_rfl) rfl
def Zbv(W:World)(o S n N k:Nat)(C:Ud)(R:List Int × Int)(X:List (List Hq) × List Bool)(J:Nat→Prop)(e:Ending)(W':World):Prop :=
 ∃vi,e=.returned (.tuple #[vi,.int .i64 R.2])∧IS W' vi R.1∧Z2f W o S n N k C X.1 X.2 J W'∧∀b,vi.ownBlock=some b→W.heap.size≤b
def Za0(hs hs':List Hq)(L L':List Bool)(id E:Int):Prop:=((E≠0∨hsL L' id=true)→(Za hs').Perm (Za hs))∧(E=0→hsL L' id=false→(Za hs).Perm (id::Za hs')∧Fit id)
theorem Za0.same{hs hs':List Hq}{L L':List Bool}{id E:Int}(p:(Za hs').Perm (Za hs))(h:E=0→hsL L' id=true):Za0 hs hs' L L' id E:=⟨fun _=>p,fun e q=>by rw[h e] at q;cases q⟩
section
variable {most k k':Nat} {hs hs':List Hq} {X:List Int} {L L':List Bool}
theorem Zmt{L:List Bool}{id:Int}(hl:L.length≤128)(h:hsL L id=true):Fit id:=by
 obtain⟨i,rfl,hi,_⟩:=Z3l h
 unfold Fit
 omega
theorem Zcx(b:Zs most k hs X L){id:Int}(h:hsL L id=true)(b':Zs most k' hs' X (gvL L id)):(Za hs).Perm (id::Za hs'):=by
 obtain⟨i,rfl,hi,e⟩:=Z3l h
 exact Znm b hi e b'
theorem Zhp{id:Int}(h:hsL L id=true):hsL (gvL L id) id=false:=by
 obtain⟨i,rfl,hi,e⟩:=Z3l h
 exact Zyx hi e
theorem Zwx(b:Zs most k hs X L)(hl:L.length≤128)(id:Int):Za0 hs (Vy hs L id).1 L (Vy hs L id).2 id (Z1w hs id).2:=by
 have b':=Za6 b id
 cases e:Zt hs id with
 | none =>
  have e1:Vy hs L id=(hs,L):=by unfold Vy;rw[e]
  have e2:Z1w hs id=([],5):=by unfold Z1w;rw[e]
  rw[e1,e2]
  exact Za0.same (.refl _) (fun q=>absurd q (show ¬(5:Int)=0 by decide))
 | some h =>
  have hm:id∈Za hs:=Zi3.1 (by rw[e];rfl)
  have hL:=b.mem hm
  have e1:(Vy hs L id).2=gvL L id:=by unfold Vy;rw[e]
  rw[e1] at b' ⊢
  exact⟨(fun q=>by
   rcases q with q | q
   ·exact absurd (by unfold Z1w;rw[e]) q
   ·rw[Zhp hL] at q;cases q),fun _ _=>⟨Zcx b hL b',Zmt hl hL⟩⟩
theorem Zvj(b:Zs most k hs X L)(hl:L.length≤128)(id:Int):Za0 hs (Vb hs L id).1 L (Vb hs L id).2 id (Z1a hs id).2:=by
 have b':=Za5 b id
 cases e:Zt hs id with
 | none =>
  have e1:Vb hs L id=(hs,L):=by unfold Vb;rw[e]
  have e2:Z1a hs id=([],5):=by unfold Z1a;rw[e]
  rw[e1,e2]
  exact Za0.same (.refl _) (fun q=>absurd q (show ¬(5:Int)=0 by decide))
 | some h =>
  have hm:id∈Za hs:=Zi3.1 (by rw[e];rfl)
  have hL:=b.mem hm
  by_cases h1:0<(rqB h id).sn
  ·by_cases h2:(rqB h id).md=0
   ·have e1:(Vb hs L id).2=gvL L id:=by unfold Vb;rw[e];simp[h1,h2]
    rw[e1] at b' ⊢
    exact⟨(fun q=>by
     rcases q with q | q
     ·exact absurd (by unfold Z1a;rw[e];simp[h1]) q
     ·rw[Zhp hL] at q;cases q),fun _ _=>⟨Zcx b hL b',Zmt hl hL⟩⟩
   ·have e1:(Vb hs L id).2=L:=by unfold Vb;rw[e];simp[h1,h2]
    rw[e1] at b' ⊢
    exact Za0.same (Z7o b b') (fun _=>hL)
  ·have e1:Vb hs L id=(hs,L):=by unfold Vb;rw[e];simp[h1]
   rw[e1]
   exact Za0.same (.refl _) (fun _=>hL)
end
theorem Zs2{ds:List DB}{i:Nat}(hi:i<ds.length){l':List Hp}{mb:Nat}{id:Int}{hv:List (Int × Nat)}(p:hv.Perm (hvT ds))(hne:hv.Pairwise fun x y=>x.1≠y.1)(q:(Za (Zb ds[i].l)).Perm (id::Za (Zb l'))):(hv.filter fun x=>!decide (x.1=id)).Perm (hvT (ds.set i ⟨ds[i].o,mb,l'⟩)):=by
 have h1:hv.Perm ((id,ds[i].o)::hvT (ds.set i ⟨ds[i].o,mb,l'⟩)):=by
  refine p.trans ((Zau hi).trans ?_)
  refine(((q.map _).append_right _)).trans ?_
  rw[List.map_cons,List.cons_append]
  exact(Zat hi ⟨ds[i].o,mb,l'⟩).symm.cons _
 have h2:((id,ds[i].o)::hvT (ds.set i ⟨ds[i].o,mb,l'⟩)).Pairwise fun x y=>x.1≠y.1:=(h1.pairwise_iff (fun {a b} (e:a.1≠b.1)=>e.symm)).1 hne
 obtain⟨h3,_⟩:=List.pairwise_cons.1 h2
 refine(h1.filter _).trans ?_
 rw[List.filter_cons,if_neg (by simp),Zce (fun x hx=>(h3 x hx).symm)]
theorem Zml{W:World}{o S n N k:Nat}{C:Ud}{bb cp hb po:Nat}{ds:List DB}{hv:List (Int × Nat)}{L:List Bool}{F:Nat→Prop}(hm:TbM W o n C bb cp hb po ds hv L F)(hp:hv.Perm (hvT ds))(ok:Y1 S n N k (Ze ds) L)(id:Int)(hf:Fit id){i:Nat}(hi:i<ds.length)(hw:V3 (Ze ds) id=i)
  (g:Nat) (eg:∀args w,(callFunc g args).run prog w=.ok (.enter g args) w) (R:List Int × Int) (X:List Hq × List Bool)
  (hC:Calls prog g #[ptN ds[i].o,.int .i64 id] W (Zeq W ds[i].o ds[i].mb po n F ds[i].l R X)) (hI:Za0 (Zb ds[i].l) X.1 L X.2 id R.2) (okX:Y1 S n N (k+1) ((Ze ds).set i X.1) X.2) :
  Calls prog 90 #[.pointer (some ⟨o,0,none⟩),.int .i64 id,.func (.func g) #[] #[]] W (Zbv W o S n N (k+1) C R ((Ze ds).set i X.1,X.2) (TbJ o bb hb ds F)):=by
 have HWi:=hD0 (Z6w hm hp id hf hi hw)
 have HC:=hD0 hC
 have HM:=hD0 (aI0 hm (aI0 hp (aI0 ok (aI0 hi (aI0 hI okX)))))
 clear hm hp ok hf hw hC hI okX
 go_enter func90,ntmps90
 go_wp2_with fail
 refine HWi.out.mono ?_
 rintro e w' ⟨rfl,rfl⟩
 go_wp2_with fail
 refine HC.out.mono ?_
 rintro e w1 ⟨vi,l',rfl,his,hl',d,hnew⟩
 obtain⟨RI,E⟩:=R
 obtain⟨hs',L'⟩:=X
 simp only at his hl' d ⊢
 obtain⟨F',hm1,hs1,ht1⟩:=HM.out.1.call hi d
 have hw1:W.heap.size≤w1.heap.size:=ht1.size
 have he1:Ze (ds.set i ⟨ds[i].o,ds[i].mb,l'⟩)=(Ze ds).set i hs':=by rw[Z7n,hl']
 have HI:=HM.out.2.2.2.2.1
 have hk1:=HM.out.2.2.2.2.2
 simp only at HI hk1
 by_cases hE:E=0
 ·subst hE
  obtain⟨g',v',l1,hpo,hFp⟩:=hm1.db.pol
  have HHas:=hD0 (Zfd hpo id)
  have c5:=hm1.c5
  obtain⟨b,hb'⟩:∃b,hsL L' id=b:=⟨_,rfl⟩
  rw[hb'] at HHas
  cases b
  ·obtain⟨hperm,hfit⟩:=HI.2 rfl hb'
   rw[←hl'] at hperm
   obtain⟨w2,hrun,hm2,htn⟩:=hm1.map.del hfit (0:TypeId)
   have c7:=hm1.c7
   have HR:=hD0 (show Zbv W o S n N (k+1) C (RI,0) ((Ze ds).set i hs',L') (TbJ o bb hb ds F) (.returned (.tuple #[vi,.int .i64 0])) w2 from
    ⟨vi,rfl,Z6j his (Up htn) (fun q hq e=>by have:=hnew q hq;have:=HM.out.1.map.lt;omega),Zea hm1 hs1 ht1 hm2 htn (Zs2 hi HM.out.2.1 hm1.map.ne hperm) he1 hk1,hnew⟩)
   have HU:=hD0 hrun
   clear hm1 hs1 ht1 hpo hFp hperm hfit hrun hm2 htn his d hl' hnew he1 HI hk1 hb' HC
   go_wp2_with (first | (go_at_call 130;refine HHas.out.mono ?_;rintro e w' ⟨rfl,rfl⟩) | (refine Z7v rfl (.tmp 33) (.tmp 34) 86 3 rfl _ _ _ rfl rfl HU.out ?_))
   exact bodyPost_ret (v:=.tuple #[vi,.int .i64 0]) (by simp[results,results90,go_sem, *]) rfl HR.out
  ·have hperm:=HI.1 (.inr hb')
   rw[←hl'] at hperm
   have HR:=hD0 (show Zbv W o S n N (k+1) C (RI,0) ((Ze ds).set i hs',L') (TbJ o bb hb ds F) (.returned (.tuple #[vi,.int .i64 0])) w1 from
    ⟨vi,rfl,his,Z6v hm1 hs1 ht1 (HM.out.2.1.trans (Z6g hi hperm).symm) he1 hk1,hnew⟩)
   clear hm1 hs1 ht1 hpo hFp hperm his d hl' hnew he1 HI hk1 hb' HC
   go_wp2_with (go_at_call 130;refine HHas.out.mono ?_;rintro e w' ⟨rfl,rfl⟩)
   exact bodyPost_ret (v:=.tuple #[vi,.int .i64 0]) (by simp[results,results90,go_sem, *]) rfl HR.out
 ·have hperm:=HI.1 (.inl hE)
  rw[←hl'] at hperm
  have dE:(E==0)=false:=by simpa using hE
  have HR:=hD0 (show Zbv W o S n N (k+1) C (RI,E) ((Ze ds).set i hs',L') (TbJ o bb hb ds F) (.returned (.tuple #[vi,.int .i64 E])) w1 from
   ⟨vi,rfl,his,Z6v hm1 hs1 ht1 (HM.out.2.1.trans (Z6g hi hperm).symm) he1 hk1,hnew⟩)
  clear hm1 hs1 ht1 hperm his d hl' hnew he1 HI hk1 HC hE
  go_wp2
  exact bodyPost_ret (v:=.tuple #[vi,.int .i64 E]) (by simp[results,results90,go_sem, *]) rfl HR.out
section
variable {W:World} {o S n N k:Nat} {C:Ud} {hss:List (List Hq)} {L:List Bool} {J:Nat→Prop}
theorem Zsh(h:Tab W o S n N k C hss L J)(hk:k≤800)(hn:n≤64)(hS:0<S)(id:Int)(hf:Fit id) :
  Calls prog 35 #[.pointer (some ⟨o,0,none⟩),.int .i64 id] W (Zbv W o S n N (k+1) C (Z4e hss id) (Z2c hss L id) J):=by
 obtain⟨bb,cp,hb,po,ds,hv,F,hm,hp,rfl,rfl,ok⟩:=h
 have hi0:=Z24 (by rw[ok.sl];exact hS) id
 have hi:V3 (Ze ds) id<ds.length:=by rw[←Ys];exact hi0
 have okX:=ok.lv hS id
 unfold Z4e Z2c at *
 rw[Z0n hi] at okX ⊢
 have hls:=hm.db.pol.sz
 have HE:=hD0 (Zml hm hp ok id hf hi rfl _ Zmg _ _ (Zsf (hm.db.db _ (gM0 hi)) (Z0j ok hi) hk hn id) (Zwx (Z0j ok hi) hls id) okX)
 obtain⟨R,hR⟩:∃R,Z1w (Zb ds[V3 (Ze ds) id].l) id=R:=⟨_,rfl⟩
 rw[hR] at HE ⊢
 obtain⟨RI,E⟩:=R
 clear hm hp ok hi0 okX hR hls
 go_enter func35,ntmps35
 go_wp2_with fail
 refine HE.out.mono ?_
 rintro e w1 ⟨vi,rfl,h1,h2,h3⟩
 have HR:=hD0 (show Zbv W o S n N (k+1) C (RI,E) ((Ze ds).set (V3 (Ze ds) id) (Vy (Zb ds[V3 (Ze ds) id].l) L id).1,(Vy (Zb ds[V3 (Ze ds) id].l) L id).2) (TbJ o bb hb ds F) (.returned (.tuple #[vi,.int .i64 E])) w1 from⟨vi,rfl,h1,h2,h3⟩)
 clear h1 h2 h3 HE
 simp only
 go_wp2
 exact bodyPost_ret (v:=.tuple #[vi,.int .i64 E]) (by simp[results,results35,go_sem, *]) rfl HR.out
theorem Zj7(h:Tab W o S n N k C hss L J)(hk:k≤800)(hn:n≤64)(hS:0<S)(id:Int)(hf:Fit id) :
  Calls prog 52 #[.pointer (some ⟨o,0,none⟩),.int .i64 id] W (Zbv W o S n N (k+1) C (Z3w hss id) (Z2a hss L id) J):=by
 obtain⟨bb,cp,hb,po,ds,hv,F,hm,hp,rfl,rfl,ok⟩:=h
 have hi0:=Z24 (by rw[ok.sl];exact hS) id
 have hi:V3 (Ze ds) id<ds.length:=by rw[←Ys];exact hi0
 have okX:=ok.ab hS id
 unfold Z3w Z2a at *
 rw[Z0n hi] at okX ⊢
 have hls:=hm.db.pol.sz
 have HE:=hD0 (Zml hm hp ok id hf hi rfl _ Zf3 _ _ (Zj5 (hm.db.db _ (gM0 hi)) (Z0j ok hi) hk hn id) (Zvj (Z0j ok hi) hls id) okX)
 obtain⟨R,hR⟩:∃R,Z1a (Zb ds[V3 (Ze ds) id].l) id=R:=⟨_,rfl⟩
 rw[hR] at HE ⊢
 obtain⟨RI,E⟩:=R
 clear hm hp ok hi0 okX hR hls
 go_enter func52,ntmps52
 go_wp2_with fail
 refine HE.out.mono ?_
 rintro e w1 ⟨vi,rfl,h1,h2,h3⟩
 have HR:=hD0 (show Zbv W o S n N (k+1) C (RI,E) ((Ze ds).set (V3 (Ze ds) id) (Vb (Zb ds[V3 (Ze ds) id].l) L id).1,(Vb (Zb ds[V3 (Ze ds) id].l) L id).2) (TbJ o bb hb ds F) (.returned (.tuple #[vi,.int .i64 E])) w1 from⟨vi,rfl,h1,h2,h3⟩)
 clear h1 h2 h3 HE
 simp only
 go_wp2
 exact bodyPost_ret (v:=.tuple #[vi,.int .i64 E]) (by simp[results,results52,go_sem, *]) rfl HR.out
theorem Zl9(h:Tab W o S n N k C hss L J)(hk:k≤800)(hn:n≤64)(hS:0<S)(id a:Int)(hf:Fit id) :
  Calls prog 48 #[.pointer (some ⟨o,0,none⟩),.int .i64 id,.int .i64 a] W fun e W'=>e=.returned (.tuple #[.bool (Zbp hss id a),.int .i64 (Z3t hss id a)])∧Z2f W o S n N (k+1) C (Z5o hss id a) L J W':=by
 obtain⟨bb,cp,hb,po,ds,hv,F,hm,hp,rfl,rfl,ok⟩:=h
 have hi0:=Z24 (by rw[ok.sl];exact hS) id
 have hi:V3 (Ze ds) id<ds.length:=by rw[←Ys];exact hi0
 have okX:=ok.up hS (by omega) id a
 unfold Zbp Z3t Z5o at *
 rw[Z0n hi] at okX ⊢
 have HW:=hD0 (Z6w hm hp id hf hi rfl)
 have HU:=hD0 (Zl7 (hm.db.db _ (gM0 hi)) (Z0j ok hi) hk hn id a)
 have HM:=hD0 (aI0 hm (aI0 hp (aI0 ok okX)))
 clear hm hp ok hi0 okX
 go_enter func48,ntmps48
 go_wp2_with fail
 refine HW.out.mono ?_
 rintro e w' ⟨rfl,rfl⟩
 go_wp2_with fail
 refine HU.out.mono ?_
 rintro e w1 ⟨rfl,l',h1,d⟩
 have okX:=HM.out.2.2.2
 rw[←h1] at okX
 have hR:=Ze9 HM.out.1 HM.out.2.1 HM.out.2.2.1 hi d okX
 rw[h1] at hR
 have HR:=hD0 hR
 clear d h1 okX hR HM HU HW
 go_wp2
 exact bodyPost_ret (v:=.tuple #[.bool (Z3c (Zb ds[V3 (Ze ds) id].l) id a),.int .i64 (Z0u (Zb ds[V3 (Ze ds) id].l) id a)]) (by simp[results,results48,go_sem, *]) rfl ⟨rfl,HR.out⟩
theorem Zwd(h:Tab W o S n N k C hss L J)(hk:k≤800)(hn:n≤64)(hS:0<S)(id a:Int)(hf:Fit id) :
  Calls prog 54 #[.pointer (some ⟨o,0,none⟩),.int .i64 id,.int .i64 a] W fun e W'=>e=.returned (.int .i64 (Zaq hss id a))∧Z2f W o S n N (k+1) C (Z5b hss id a) L J W':=by
 obtain⟨bb,cp,hb,po,ds,hv,F,hm,hp,rfl,rfl,ok⟩:=h
 have hi0:=Z24 (by rw[ok.sl];exact hS) id
 have hi:V3 (Ze ds) id<ds.length:=by rw[←Ys];exact hi0
 have okX:=ok.hn hS id a
 unfold Zaq Z5b at *
 rw[Z0n hi] at okX ⊢
 have HW:=hD0 (Z6w hm hp id hf hi rfl)
 have HU:=hD0 (Zwb (hm.db.db _ (gM0 hi)) (Z0j ok hi) hk hn id a)
 have HM:=hD0 (aI0 hm (aI0 hp (aI0 ok okX)))
 clear hm hp ok hi0 okX
 go_enter func54,ntmps54
 go_wp2_with fail
 refine HW.out.mono ?_
 rintro e w' ⟨rfl,rfl⟩
 go_wp2_with fail
 refine HU.out.mono ?_
 rintro e w1 ⟨rfl,l',h1,d⟩
 have okX:=HM.out.2.2.2
 rw[←h1] at okX
 have hR:=Ze9 HM.out.1 HM.out.2.1 HM.out.2.2.1 hi d okX
 rw[h1] at hR
 have HR:=hD0 hR
 clear d h1 okX hR HM HU HW
 go_wp2
 go_ret
 exact⟨rfl,HR.out⟩
end
def Z5w(hss:List (List Hq))(id:Int):Int × Int × Rq × Bool:=Z46 (V6 hss (V3 hss id)) id
def Z7i(hss:List (List Hq))(t r txn:Int):Int × Bool:=if ofS t r hss.length = -1 then(0,false)else Uf (V6 hss (ofS t r hss.length).toNat) t r txn
def Z15(hss:List (List Hq)):Nat:=(hss.map List.length).sum
section
variable {W:World} {o S n N k:Nat} {C:Ud} {hss:List (List Hq)} {L:List Bool} {J:Nat→Prop}
theorem Zpr(h:Tab W o S n N k C hss L J)(t r:Int):Calls prog 20 #[.pointer (some ⟨o,0,none⟩),.agg #[.int .i64 t,.int .i64 r]] W fun e W'=>e=.returned (.int .i64 (ofS t r S))∧Nw W W':=by
 obtain⟨bb,cp,hb,po,ds,hv,F,hm,hp,rfl,rfl,ok⟩:=h
 have:=Z8d hm.st t r
 rw[show ds.length=S by rw[←Ys];exact ok.sl] at this
 exact this
theorem Zys(h:Tab W o S n N k C hss L J)(hS:0<S)(id:Int)(hf:Fit id)(t r b0 b1 b2 b3 b4:Int)(y:Bool)(hR:Z5w hss id=(t,r,⟨b0,b1,b2,b3,b4⟩,y)) :
  Calls prog 22 #[.pointer (some ⟨o,0,none⟩),.int .i64 id] W fun e W'=>e=.returned (.tuple #[.agg #[.int .i64 t,.int .i64 r],.agg #[.int .i64 b0,.int .i64 b1,.int .i64 b2,.int .i64 b3,.int .i64 b4],.bool y])∧Nw W W':=by
 obtain⟨bb,cp,hb,po,ds,hv,F,hm,hp,rfl,rfl,ok⟩:=h
 have hi0:=Z24 (by rw[ok.sl];exact hS) id
 have hi:V3 (Ze ds) id<ds.length:=by rw[←Ys];exact hi0
 unfold Z5w at hR
 rw[Z0n hi] at hR
 have hN:Nw W ((W.alloc (.cells #[.int .i64 0,.int .i64 0] 34)).alloc (.cells #[.int .i64 0,.int .i64 0,.int .i64 0,.int .i64 0,.int .i64 0] 50)):=((Nw.refl W).alloc _).alloc _
 have hA:=((Nw.refl (W.alloc (.cells #[.int .i64 0,.int .i64 0] 34))).alloc (.cells #[.int .i64 0,.int .i64 0,.int .i64 0,.int .i64 0,.int .i64 0] 50)).at' (Z1 W (.cells #[.int .i64 0,.int .i64 0] 34))
 have hB:=Z1 (W.alloc (.cells #[.int .i64 0,.int .i64 0] 34)) (.cells #[.int .i64 0,.int .i64 0,.int .i64 0,.int .i64 0,.int .i64 0] 50)
 rw[World.size_alloc] at hB
 obtain⟨z,hz⟩:∃z,(W.alloc (.cells #[.int .i64 0,.int .i64 0] 34)).alloc (.cells #[.int .i64 0,.int .i64 0,.int .i64 0,.int .i64 0,.int .i64 0] 50)=z:=⟨_,rfl⟩
 rw[hz] at hN hA hB
 have HZ:=hD0 hz
 have hmz:=hm.nw hN
 have HW:=hD0 (Z6w hmz hp id hf hi rfl)
 have hgd:=Zyq (hmz.db.db _ (gM0 hi)) (fun x hx=>((hmz.db.db _ (gM0 hi)).ok x hx).len) id
 rw[hR] at hgd
 have HGt:=hD0 hgd
 have HN:=hD0 (aI0 hN (aI0 hA hB))
 clear hgd hmz hm hp ok hi0 hR hz hN hA hB hf
 generalize ds[V3 (Ze ds) id].o=B at *
 go_enter func22,ntmps22
 go_wp2_with fail
 rw[HZ.out]
 refine HW.out.mono ?_
 rintro e w' ⟨rfl,rfl⟩
 go_wp2_with fail
 refine HGt.out.mono ?_
 rintro e w1 ⟨rfl,g1⟩
 unfold rqV
 have hA:=g1.at' HN.out.2.1
 have hB:=g1.at' HN.out.2.2
 have m0:=Z0 (j:=0) hA
 have m1:=Z0 (j:=1) hA
 have mz:=fun j=>hfz (j:=j) hA
 have ml:=hlt hA
 have n0:=Z0 (j:=0) hB
 have n1:=Z0 (j:=1) hB
 have n2:=Z0 (j:=2) hB
 have n3:=Z0 (j:=3) hB
 have n4:=Z0 (j:=4) hB
 have nz:=fun j=>hfz (j:=j) hB
 have nl:=hlt hB
 have ng5:¬(W.heap.size+1=W.heap.size):=by omega
 have HE:=hD0 (HN.out.1.trans g1)
 clear hA hB g1 HGt HW HN
 simp only
 go_wp2
 have HR:=hD0 (((((((HE.out.st (p:=⟨W.heap.size,0,none⟩) (Nat.le_refl _) (.int .i64 t)).st (p:=⟨W.heap.size,1,none⟩) (Nat.le_refl _) (.int .i64 r)).st (p:=⟨W.heap.size+1,0,none⟩) (Nat.le_succ _) (.int .i64 b0)).st (p:=⟨W.heap.size+1,1,none⟩) (Nat.le_succ _) (.int .i64 b1)).st (p:=⟨W.heap.size+1,2,none⟩) (Nat.le_succ _) (.int .i64 b2)).st (p:=⟨W.heap.size+1,3,none⟩) (Nat.le_succ _) (.int .i64 b3)).st (p:=⟨W.heap.size+1,4,none⟩) (Nat.le_succ _) (.int .i64 b4))
 exact bodyPost_ret (v:=.tuple #[.agg #[.int .i64 t,.int .i64 r],.agg #[.int .i64 b0,.int .i64 b1,.int .i64 b2,.int .i64 b3,.int .i64 b4],.bool y]) (by simp[results,results22,go_sem, *]) rfl ⟨rfl,HR.out⟩
theorem Zw8(h:Tab W o S n N k C hss L J)(t r txn i:Int)(y:Bool)(hR:Z7i hss t r txn=(i,y)) :
  Calls prog 24 #[.pointer (some ⟨o,0,none⟩),.agg #[.int .i64 t,.int .i64 r],.int .i64 txn] W fun e W'=>e=.returned (.tuple #[.int .i64 i,.bool y])∧Nw W W':=by
 obtain⟨bb,cp,hb,po,ds,hv,F,hm,hp,rfl,rfl,ok⟩:=h
 obtain⟨z,hz⟩:∃z,W.alloc (.cells #[.int .i64 t,.int .i64 r] 34)=z:=⟨_,rfl⟩
 have g1:Nw W z:=by rw[←hz];exact(Nw.refl W).alloc _
 have hal:=Z1 W (.cells #[.int .i64 t,.int .i64 r] 34)
 rw[hz] at hal
 have HZ:=hD0 hz
 have HSt:=hD0 (Z8d (hm.nw g1).st t r)
 have c0:=Z0 (j:=0) hal
 have c1:=Z0 (j:=1) hal
 have cl:=hlt hal
 have HG:=hD0 (aI0 g1 hal)
 unfold Z7i at hR
 rw[Ys] at hR
 have hrg:=Z1k t r ds.length
 by_cases hbad:ofS t r ds.length = -1
 ·rw[hbad] at HSt
  rw[if_pos hbad] at hR
  obtain⟨rfl,rfl⟩:=Prod.mk.inj hR
  clear hz g1 hal hrg hm hp ok hR hbad
  go_enter func24,ntmps24
  go_wp2_with fail
  rw[HZ.out]
  refine HSt.out.mono ?_
  rintro e z2 ⟨rfl,g2⟩
  have HE:=hD0 (HG.out.1.trans g2)
  clear g2 HG
  go_wp2
  exact bodyPost_ret (v:=.tuple #[.int .i64 0,.bool false]) (by simp[results,results24,go_sem, *]) rfl ⟨rfl,HE.out⟩
 ·rw[if_neg hbad] at hR
  have hlv:=Zof (Zi1 hbad)
  obtain⟨s,hs⟩:∃s:Nat,ofS t r ds.length=s:=⟨(ofS t r ds.length).toNat,by omega⟩
  have hi:s<ds.length:=by omega
  rw[hs] at HSt hR
  rw[Int.toNat_natCast,Z0n hi] at hR
  have d1:((s:Int)==-1)=false:=by rw[beq_eq_false_iff_ne];omega
  have d2:(s:Int)<(ds.length:Int):=by omega
  have HM:=hD0 hm
  have HR:=hD0 (aI0 hR hlv)
  clear hz g1 hal hrg hm hp ok hR hbad hs hlv
  go_enter func24,ntmps24
  go_wp2_with fail
  rw[HZ.out]
  generalize W.heap.size=pb at *
  refine HSt.out.mono ?_
  rintro e z2 ⟨rfl,g2⟩
  have HG2:=hD0 (aI0 (HG.out.1.trans g2) (g2.at' HG.out.2))
  clear g2 c0 c1 cl HG HSt
  obtain⟨B,hB⟩:∃B,ds[s].o=B:=⟨_,rfl⟩
  have hFd:∀y2,Nw z2 y2→Calls prog 74 #[.pointer (some ⟨B,0,none⟩),.agg #[.int .i64 t,.int .i64 r],.int .i64 txn] y2 fun e W'=>e=.returned (.tuple #[.int .i64 i,.bool y])∧Nw y2 W':=fun y2 g=>by
   have hd:=(HM.out.nw (HG2.out.1.trans g)).db.db _ (gM0 hi)
   have:=Zw6 hd (fun x hx=>(hd.ok x hx).len) t r txn HR.out.2
   rw[HR.out.1,hB] at this
   exact this
  have HFd:=hD0 hFd
  have hc6:=fun y2 (g:Nw z2 y2)=>(HM.out.nw (HG2.out.1.trans g)).c6
  have hcr:=fun y2 (g:Nw z2 y2)=>(HM.out.nw (HG2.out.1.trans g)).row s hi
  rw[hB] at hcr
  clear hFd hB
  go_upto_region 4 with fail
  have hne:Nonempty (Wd (fun y=>Nw z2 y)):=⟨⟨_,Nw.refl _⟩⟩
  have C1:=fun(d:Wd (fun y=>Nw z2 y))=>hc6 _ d.h
  have C2:=fun(d:Wd (fun y=>Nw z2 y))=>hcr _ d.h
  have C3:=fun(d:Wd (fun y=>Nw z2 y))=>(Z0 (j:=0) (d.h.at' HG2.out.2)).trans rfl
  have C4:=fun(d:Wd (fun y=>Nw z2 y))=>(Z0 (j:=1) (d.h.at' HG2.out.2)).trans rfl
  clear hc6 hcr
  go_wp2_with fail
  refine Zf (fun y=>Nw z2 y) (by kernel_rfl) (by kernel_rfl) (Nw.refl z2).dr ?_
  repeat (first | go_big_quiet_step ((exact Zd (fun a b h g=>h.trans g) (HFd.out _ (Wd.h _)))) | quiet_step ((exact Zd (fun a b h g=>h.trans g) (HFd.out _ (Wd.h _)))))
  refine wpQuiet_nil ?_
  intro d
  have HD:=hD0 (HG2.out.1.trans d.h)
  clear C1 C2 C3 C4 hne HFd HM HR
  revert HD
  generalize d.w=z3
  intro HD
  go_wp2
  exact bodyPost_ret (v:=.tuple #[.int .i64 i,.bool y]) (by simp[results,results24,go_sem, *]) rfl ⟨rfl,HD.out⟩
theorem Zvr(h:Tab W o S n N k C hss L J):Calls prog 28 #[.pointer (some ⟨o,0,none⟩)] W fun e W'=>e=.returned (Zev C)∧Nw W W':=by
 obtain⟨bb,cp,hb,po,ds,hv,F,hm,hp,rfl,rfl,ok⟩:=h
 obtain⟨z,hz⟩:∃z,W.alloc (.cells #[.int .i64 0,.int .i64 0,.int .i64 0,.int .i64 0] 23)=z:=⟨_,rfl⟩
 have g1:Nw W z:=by rw[←hz];exact(Nw.refl W).alloc _
 have hal:=Z1 W (.cells #[.int .i64 0,.int .i64 0,.int .i64 0,.int .i64 0] 23)
 rw[hz] at hal
 have HZ:=hD0 hz
 have hmz:=hm.nw g1
 have HMd:=hD0 (Z0f o z hmz.c0)
 have c1:=hmz.c1
 have c2:=hmz.c2
 have c3:=hmz.c3
 have c4:=hmz.c4
 have m0:=Z0 (j:=0) hal
 have m1:=Z0 (j:=1) hal
 have m2:=Z0 (j:=2) hal
 have m3:=Z0 (j:=3) hal
 have mz:=fun j=>hfz (j:=j) hal
 have ml:=hlt hal
 have hol:=hmz.ol
 have hne:¬(W.heap.size=o):=by have:=hm.ol;omega
 have HE:=hD0 g1
 obtain⟨cs,ch,cr,cp'⟩:=C
 simp only at c1 c2 c3 c4 ⊢
 clear hz g1 hal hmz hm hp ok
 go_enter func28,ntmps28
 go_wp2_with fail
 rw[HZ.out]
 refine HMd.out.mono ?_
 rintro e w' ⟨rfl,rfl⟩
 go_wp2
 have HR:=hD0 ((((HE.out.st (p:=⟨W.heap.size,0,none⟩) (Nat.le_refl _) (.int .i64 cs)).st (p:=⟨W.heap.size,1,none⟩) (Nat.le_refl _) (.int .i64 ch)).st (p:=⟨W.heap.size,2,none⟩) (Nat.le_refl _) (.int .i64 cr)).st (p:=⟨W.heap.size,3,none⟩) (Nat.le_refl _) (.int .i64 cp'))
 exact bodyPost_ret (v:=.agg #[.int .i64 cs,.int .i64 ch,.int .i64 cr,.int .i64 cp']) (by simp[results,results28,go_sem, *]) rfl ⟨rfl,HR.out⟩
theorem Zm2{hss:List (List Hq)}{j:Nat}(hj:j<hss.length):Z15 (hss.take (j+1))=Z15 (hss.take j)+hss[j].length:=by
 unfold Z15
 rw[List.take_succ_eq_append_getElem hj,List.map_append,List.sum_append]
 simp
theorem Zc6(hss:List (List Hq)):Z15 hss=hss.flatten.length:=by
 unfold Z15
 rw[List.length_flatten]
theorem Zm4(h:Tab W o S n N k C hss L J)(hS:S≤16)(hn:n≤64):Calls prog 26 #[.pointer (some ⟨o,0,none⟩)] W fun e W'=>e=.returned (.tuple #[.int .i64 (Z15 hss),.int .i64 (liv L)])∧Nw W W':=by
 obtain⟨bb,cp,hb,po,ds,hv,F,hm,hp,rfl,rfl,ok⟩:=h
 have hSl:ds.length=S:=by rw[←Ys];exact ok.sl
 have h64:∀l∈Ze ds,l.length≤64:=fun l hl=>Nat.le_trans (ok.inv.part l hl).len hn
 have HK:=hD0 (aI0 h64 (show(Ze ds).length≤16 by rw[ok.sl];exact hS))
 have HMd:=hD0 (Z0f o W hm.c0)
 have HM:=hD0 hm
 have c6:=hm.c6
 have c5:=hm.c5
 obtain⟨g',v',l1,hpo,hFp⟩:=hm.db.pol
 have HLv:=hD0 (Zsn hpo)
 have hnn:ds.length≤16:=by omega
 clear hm hp ok hSl h64 hpo hFp
 obtain⟨nn,hnl⟩:∃nn,ds.length=nn:=⟨_,rfl⟩
 rw[hnl] at c6 hnn
 have HN:=hD0 hnl
 clear hnl
 go_enter func26,ntmps26
 go_wp2_with fail
 refine HMd.out.mono ?_
 rintro e w' ⟨rfl,rfl⟩
 go_wp2_with fail
 go_loopw [2,5,14] (fun vi bi i wr=>∃(j:Nat),vi=.int .i64 (Z15 ((Ze ds).take j))∧i=.int .i64 j∧j≤nn∧Hid (W=wr)) (fun _ _ i _=>nn-(intOf i).toNat)
 case atStart=>exact⟨0,rfl,rfl,Nat.zero_le _,rfl⟩
 case round =>
  obtain⟨j,rfl,rfl,hj,HI⟩:=hrel
  have hWr:=HI.out
  subst hWr
  by_cases hjl:j<nn
  ·have hjd:j<ds.length:=by rw[HN.out];exact hjl
   have hjh:j<(Ze ds).length:=by rw[Ys];exact hjd
   have cr:=HM.out.row j hjd
   have hbl:=HM.out.bl
   have HH:=hD0 (Zz3 (HM.out.db.db _ (gM0 hjd)))
   have hji:(j:Int)<(nn:Int):=by omega
   have hwj:wrap64 ((j:Int)+1)=(j:Int)+1:=by unfold wrap64;omega
   have e2:=Zm2 hjh
   rw[Zas hjd hjh] at e2
   have hl1:=Ui HK.out.1 HK.out.2 (j+1)
   rw[←Zc6,e2] at hl1
   have e3:(Zb ds[j].l).length=ds[j].l.length:=by unfold Zb;rw[List.length_map]
   rw[e3] at e2 hl1
   obtain⟨B,hB⟩:∃B,ds[j].o=B:=⟨_,rfl⟩
   rw[hB] at cr HH
   obtain⟨M,hM⟩:∃M,ds[j].l.length=M:=⟨_,rfl⟩
   rw[hM] at HH e2 hl1
   obtain⟨A,hA⟩:∃A,Z15 ((Ze ds).take j)=A:=⟨_,rfl⟩
   rw[hA] at e2 hl1 ⊢
   have hwa:wrap64 ((A:Int)+(M:Int))=(A:Int)+(M:Int):=by unfold wrap64;omega
   have HE2:=hD0 e2
   clear e2 hl1 e3 hB hM hA HI
   go_wp2_with fail
   refine HH.out.mono ?_
   rintro e w2 ⟨rfl,rfl⟩
   clear HH cr hbl
   go_wp2_with fail
   go_roundw
   case rel=>exact⟨j+1,congrArg (Value.int .i64) (by rw[HE2.out];first | rfl | exact hwa),congrArg (Value.int .i64) (by first | exact nxU j | exact hwj.trans (nxU j)),hjl,(by first | exact hD0 trivial | exact rfl)⟩
   case measure=>first | exact Y0 nn j hjl | (rw[hwj];exact Y0 nn j hjl)
  ·obtain rfl:j=nn:=by omega
   have e:(Ze ds).take j=Ze ds:=by rw[←HN.out,←Ys,List.take_length]
   rw[e]
   obtain⟨A,hA⟩:∃A,Z15 (Ze ds)=A:=⟨_,rfl⟩
   rw[hA]
   have HA:=hD0 hA
   clear hA
   clear HI HMd e HK HM
   go_wp2_with fail
   refine HLv.out.mono ?_
   rintro e w2 ⟨rfl,g2⟩
   have HE:=hD0 g2
   clear g2
   go_wp2
   exact bodyPost_ret (v:=.tuple #[.int .i64 A,.int .i64 (liv L)]) (by simp[results,results26,go_sem, *]) rfl ⟨by rw[HA.out],HE.out⟩
end
theorem Zc3{n:Nat}{hs:List Hq}{L:List Bool}{t r txn m:Int}(he:Zz n hs L t r txn m=0):m≠0∧Zr m=true∧twB hs t r txn=false∧liv L<L.length∧(Z0a hs (t,r)=none→hs.length<n):=by
 unfold Zz at he
 by_cases h1:Z07 m
 ·rw[if_pos h1] at he;cases he
 ·rw[if_neg h1] at he
  by_cases h2:twB hs t r txn=true
  ·rw[if_pos h2] at he;cases he
  ·rw[if_neg h2] at he
   by_cases h3:Z1c n hs L t r
   ·rw[if_pos h3] at he;cases he
   ·unfold Z1c at h3
    refine⟨fun e=>h1 (.inl e),?_,by simpa using h2,Nat.lt_of_not_le fun q=>h3 (.inr q),fun e=>Nat.lt_of_not_le fun q=>h3 (.inl ⟨e,q⟩)⟩
    cases e:Zr m with
    | true=>rfl
    | false=>exact absurd (.inr e) h1
theorem Zgu{l:List Hm}(s:Y9 (Z3 l)){t r:Int}{k:Nat}{b:Bool}(p:Zj1 l (t,r) k b){x:Hm}(hx:Z9 x.h=(t,r)):Yh (Z3 l) x.h=Z3 (l.take k++x::l.drop (if b=true then k+1 else k)):=by
 have hk:=p.1
 rcases p.get s with⟨rfl,h1,h2⟩ | ⟨rfl,hkl,h1,h2⟩
 ·have e0:Z3 l=Z3 (l.take k)++Z3 (l.drop k):=by
   unfold Z3
   rw[←List.map_append,List.take_append_drop]
  have hb:∀y∈Z3 (l.take k),Vq (Z9 y) (Z9 x.h):=by
   intro y hy
   rw[hx]
   obtain⟨z,hz,rfl⟩:=List.mem_map.1 hy
   obtain⟨j,hj,rfl⟩:=List.getElem_of_mem hz
   simp only[List.length_take] at hj
   rw[List.getElem_take]
   exact p.2.1 j (by omega) (by omega)
  have ha:∀y∈Z3 (l.drop k),Vq (Z9 x.h) (Z9 y):=by
   intro y hy
   rw[hx]
   obtain⟨z,hz,rfl⟩:=List.mem_map.1 hy
   obtain⟨j,hj,rfl⟩:=List.getElem_of_mem hz
   simp only[List.length_drop] at hj
   rw[List.getElem_drop]
   exact h2 (k+j) (by omega) (by omega)
  rw[e0,Z31 hb,Zid ha]
  simp[Z3]
 ·rw[Z6q s hkl (x:=x) (hx.trans h1.symm),List.set_eq_take_append_cons_drop,if_pos hkl]
  rfl
theorem Z33{w z:World}{g0:Nat}{g c k:Nat}{l:List Hm}(h:U7 w g0 (.slice (some ⟨g,0,none⟩) l.length c) l)(hk:k≤l.length)(q:Nw w z):Rd 4 Zm z (.slice (some ⟨g,0,none⟩) k c) (l.take k):=(Yz.rd Y6.len (Zcv h rfl hk)).nw q
theorem Z6t{w z:World}{g0:Nat}{g c k:Nat}{l:List Hm}(h:U7 w g0 (.slice (some ⟨g,0,none⟩) l.length c) l)(hk:k≤l.length)(q:Nw w z):Rd 4 Zm z (.slice (some ⟨g,k*4,none⟩) (l.length-k) (c-k)) (l.drop k):=by
 have hp:=((Z7m h).nw q).part k (l.length-k)
 rw[Nat.zero_add,List.take_of_length_le (by rw[List.length_drop];omega)] at hp
 exact⟨_,c-k,by rw[List.length_drop],.inr ⟨g,k*4,rfl,hp⟩⟩
theorem Zg3{z:World}{g c k:Nat}{l:List Hm}(hk:l.length≤k):Rd 4 Zm z (.slice (some ⟨g,0,none⟩) (l.length-k) c) (l.drop k) :=
 ⟨_,c,by rw[List.length_drop],.inl ⟨List.drop_eq_nil_of_le hk,fun q=>by cases q⟩⟩
theorem Zll{w u1 u2:World}{o po n pg pb:Nat}{v:Value}{l:List Hm}{x:Obj}(h:Rb w o po n v l)(gu:Nw w u1)(hpw:w.heap.size≤pb)(hpg:pg<o)(hbx:u1.heap[pb]?=some x)(hT2:Z4 (fun k=>k=pg) u1 u2) :
  u2.heap[pb]?=some x∧Rb u2 o po n v l:=by
 have hol:=h.ol
 exact⟨(hT2.block pb (hlt hbx) (fun e=>by omega)).trans hbx,(h.nw gu).low hT2 (fun b e=>by omega)⟩
theorem Zlm{w u1 u2 u3:World}{o po n pg pb:Nat}{v:Value}{l:List Hm}{T:TypeId}{c0 c1 c2 c3:Value}(h:Rb w o po n v l)(gu:Nw w u1)(hpw:w.heap.size≤pb)(hpg:pg<o)(hbx:u2.heap[pb]?=some (.cells #[c0,c1,c2,c3] T))(hT2:Z4 (fun k=>k=pg) u1 u2)(hR2:Rb u2 o po n v l){L:List Bool}(hRp:Rp u2 po pg L)
  (g3:Nw u2 u3) {t r AW:Int} {AQ:List Rq} {a3:Option Addr} {al n3:Nat} (hAl:AQ.length=al) (hA:AQ.length≤1000) (hrd3:Zl u3 (.slice a3 al n3) AQ) (hcap3:al≤n3) (hnew3:newV u2.heap.size (.slice a3 al n3)) :
  u3.heap[pb]?=some (.cells #[c0,c1,c2,c3] T)∧Rb u3 o po n v l∧((((u3.setCell ⟨pb,0,none⟩ (.int .i64 t)).setCell ⟨pb,1,none⟩ (.int .i64 r)).setCell ⟨pb,2,none⟩ (.slice a3 al n3)).setCell ⟨pb,3,none⟩ (.int .i64 AW)).heap[pb]?=some (.cells #[.int .i64 t,.int .i64 r,.slice a3 AQ.length n3,.int .i64 AW] T) ∧
   Rb ((((u3.setCell ⟨pb,0,none⟩ (.int .i64 t)).setCell ⟨pb,1,none⟩ (.int .i64 r)).setCell ⟨pb,2,none⟩ (.slice a3 al n3)).setCell ⟨pb,3,none⟩ (.int .i64 AW)) o po n v l ∧
   Vh ((((u3.setCell ⟨pb,0,none⟩ (.int .i64 t)).setCell ⟨pb,1,none⟩ (.int .i64 r)).setCell ⟨pb,2,none⟩ (.slice a3 al n3)).setCell ⟨pb,3,none⟩ (.int .i64 AW)) o none ⟨⟨t,r,AW,AQ⟩,a3,n3⟩∧newV w.heap.size (hmV ⟨⟨t,r,AW,AQ⟩,a3,n3⟩)∧w.heap.size≤((((u3.setCell ⟨pb,0,none⟩ (.int .i64 t)).setCell ⟨pb,1,none⟩ (.int .i64 r)).setCell ⟨pb,2,none⟩ (.slice a3 al n3)).setCell ⟨pb,3,none⟩ (.int .i64 AW)).heap.size ∧
   Z4 (fun b=>b=o∨v.ownBlock=some b∨b=pg) w ((((u3.setCell ⟨pb,0,none⟩ (.int .i64 t)).setCell ⟨pb,1,none⟩ (.int .i64 r)).setCell ⟨pb,2,none⟩ (.slice a3 al n3)).setCell ⟨pb,3,none⟩ (.int .i64 AW))∧Rp ((((u3.setCell ⟨pb,0,none⟩ (.int .i64 t)).setCell ⟨pb,1,none⟩ (.int .i64 r)).setCell ⟨pb,2,none⟩ (.slice a3 al n3)).setCell ⟨pb,3,none⟩ (.int .i64 AW)) po pg L:=by
 have hol:=h.ol
 have hpl:=h.pl
 have hb5:=g3.at' hbx
 have hb6:=Zh0 hb5 (.int .i64 t) (.int .i64 r) (.slice a3 al n3) (.int .i64 AW)
 have ht6:=Zh1 u3 pb (.int .i64 t) (.int .i64 r) (.slice a3 al n3) (.int .i64 AW)
 have hwu:w.heap.size≤u2.heap.size:=Nat.le_trans gu.sz hT2.size
 have hpu:pb<u2.heap.size:=hlt hbx
 have hR3:=hR2.nw g3
 have hs3:=g3.sz
 generalize ((((u3.setCell ⟨pb,0,none⟩ (.int .i64 t)).setCell ⟨pb,1,none⟩ (.int .i64 r)).setCell ⟨pb,2,none⟩ (.slice a3 al n3)).setCell ⟨pb,3,none⟩ (.int .i64 AW))=u4 at *
 have hs4:=ht6.size
 subst hAl
 refine⟨hb5,hR3,hb6,hR3.tchS ht6 (fun e=>by omega) (fun b e q=>by have:=olt h.own e;omega) (fun x hx b e hne q=>by have:=Z2t (h.ok x hx).rd e hne;omega),⟨Zpg hrd3 ht6 (fun a i j e q=>by have:=hnew3 a i j e;omega),hcap3,hA,fun b i j e=>?_,fun b e hne q=>by cases q⟩,fun b i j e=>?_,by omega,
  (((Z4.nw gu).trans' hT2 (fun i _ e=>.inr (.inr e))).trans (Z4.nw g3)).trans' ht6 (fun i hi e=>by omega),(hRp.nw g3).tch ht6 (fun e=>by omega) (fun e=>by omega)⟩
 ·have:=hnew3 b i j e
  omega
 ·have:=hnew3 b i j e
  omega
theorem Z72{w u4:World}{o po n pg pb:Nat}{v:Value}{l:List Hm}{T:TypeId}{L:List Bool}{t r txn m:Int}(h:Rb w o po n v l)(s:Y9 (Z3 l))(hpg:pg<o)(he:Zz n (Z3 l) L t r txn m=0){k:Nat}{b:Bool}(p:Zj1 l (t,r) k b){W:Int}{Q:List Rq}(hhd:hdB (Z3 l) t r=⟨t,r,W,Q⟩){AW:Int}{AQ:List Rq}{AG:Bool}(hA:Yv W Q (Zo L) txn m=(AW,AQ,AG))
  {a3:Option Addr} {al n3:Nat} (hAl:AQ.length=al) (hb:u4.heap[pb]?=some (.cells #[.int .i64 t,.int .i64 r,.slice a3 AQ.length n3,.int .i64 AW] T)) (hR4:Rb u4 o po n v l) (hX:Vh u4 o none ⟨⟨t,r,AW,AQ⟩,a3,n3⟩) (hXn:newV w.heap.size (hmV ⟨⟨t,r,AW,AQ⟩,a3,n3⟩)) (hw4:w.heap.size≤u4.heap.size) (hT:Z4 (fun b=>b=o∨v.ownBlock=some b∨b=pg) w u4) (hRp:Rp u4 po pg (tkL L))
  {nx:Nat} (hnx:nx=if b=true then k+1 else k) (hkn:nx≤l.length) (hl:k+1+(l.length-nx)≤64) {v1 v2:Value} (h1:∀z,Nw u4 z→Rd 4 Zm z v1 (l.take k)) (h2:∀z,Nw u4 z→Rd 4 Zm z v2 (l.drop nx)) :
  ∃v4 w4 a5 n5 c5 w5 a6 n6 c6 w6,(Builtin.append_ #[40,40] 40 #[.slice (some ⟨u4.heap.size,0,none⟩) 0 0,v1]).run prog (u4.alloc (.cells #[] 63))=.ok v4 w4∧Nw u4 w4 ∧
   (Builtin.append_ #[40,40] 40 #[v4,.slice (some ⟨w4.heap.size,0,none⟩) 1 1]).run prog (w4.alloc (.cells #[.int .i64 t,.int .i64 r,.slice a3 al n3,.int .i64 AW] 63))=.ok (.slice a5 n5 c5) w5∧Nw u4 w5 ∧
   (Builtin.append_ #[40,40] 40 #[.slice a5 n5 c5,v2]).run prog w5=.ok (.slice a6 n6 c6) w6∧Nw u4 w6 ∧
   Z5p w o po pg n v l L t r txn m (.returned (.tuple #[.int .i64 (Zo L),.bool AG,.int .i64 0])) (w6.setCell ⟨o,2,none⟩ (.slice a6 n6 c6)):=by
 have hpl:=h.pl
 have hkn2:k≤nx:=by rw[hnx];split<;>omega
 obtain⟨v4,w4,a5,n5,c5,w5,a6,n6,c6,w6,hr4,hN4,hr5,hN5,hr6,hN6,hE6⟩:=Zxk hR4 k nx p.1 hkn2 hkn hl hw4 ⟨⟨t,r,AW,AQ⟩,a3,n3⟩ hb hX hXn h1 h2
 subst hAl
 refine⟨v4,w4,a5,n5,c5,w5,a6,n6,c6,w6,hr4,hN4,hr5,hN5,hr6,hN6,?_⟩
 unfold Z5p Uu V9
 rw[if_pos he,if_pos he,hhd,hA]
 refine⟨rfl,hRp.tch hE6.2.1 (fun e=>by omega) (fun e=>by omega),_,_,?_,hE6.1,hT.trans' hE6.2.1 (fun i _ e=>.inl e),hE6.2.2⟩
 unfold Z8o
 rw[hhd,hA]
 subst hnx
 exact(Zgu s p (x:=⟨⟨t,r,AW,AQ⟩,a3,n3⟩) rfl).symm
theorem Zvp{l:List Hm}{t r:Int}{k:Nat}(hkl:k<l.length)(hnk:Z9 l[k].h=(t,r))(hgn:Z0a (Z3 l) (t,r)=some l[k].h):hdB (Z3 l) t r=⟨t,r,l[k].h.W,l[k].h.q⟩∧l[k].h.t=t∧l[k].h.r=r:=by
 unfold Z9 at hnk
 injection hnk with e1 e2
 refine⟨?_,e1,e2⟩
 unfold hdB
 rw[hgn]
 show l[k].h=_
 rw[←e1,←e2]
theorem Zgt{W:Int}{Q:List Rq}{id txn m:Int}{AW:Int}{AQ:List Rq}{AG:Bool}(hA:Yv W Q id txn m=(AW,AQ,AG)):AQ.length=Q.length+1:=by
 have h1:=congrArg (fun X=>X.2.1.length) hA
 have h2:(Yv W Q id txn m).2.1.length=Q.length+1:=by unfold Yv;split<;>simp
 simp only at h1
 omega
theorem Zfz{w:World}{o po n:Nat}{v:Value}{l:List Hm}(h:Rb w o po n v l)(s:Y9 (Z3 l))(hok:∀x∈l,Ok x.h.W x.h.q)(hq:∀x∈l,x.h.q.length<1000){pg:Nat}{L:List Bool}(hp:Rp w po pg L)(hpg:pg<o)(hn64:n≤64)(t r txn m:Int)(he:Zz n (Z3 l) L t r txn m=0)(hae:Z12 (hdB (Z3 l) t r).q (Zo L) txn m=0)(hfl:Zo L<L.length)(hg1:Z0a (Z3 l) (t,r)=none) :
  Calls prog 103 #[.pointer (some ⟨o,0,none⟩),.agg #[.int .i64 t,.int .i64 r],.int .i64 txn,.int .i64 m] w (Z5p w o po pg n v l L t r txn m):=by
 obtain⟨hm0,hk,hfi,hlv,hnn⟩:=Zc3 he
 obtain⟨a,c,rfl,hf⟩:=h.form
 have HF:=hD0 hf
 have H:=hD0 h
 have HS:=hD0 s
 have HO:=hD0 hok
 have HQ:=hD0 hq
 have HPl:=hD0 hp
 have hol:=h.ol
 have hpl:=h.pl
 have hcap0:l.length≤c:=by
  rcases hf with⟨_,e,e2⟩ | ⟨g,e,_⟩
  ·rw[e,e2];exact Nat.le_refl _
  ·subst e;exact Ur h.own
 have hN:Nw w (w.alloc (.cells #[.int .i64 t,.int .i64 r] 34)):=(Nw.refl w).alloc _
 have hb0:=Z1 w (.cells #[.int .i64 t,.int .i64 r] 34)
 have HKn:=hD0 (Z0z m)
 rw[hk] at HKn
 have d:(m==0)=false:=by simpa using hm0
 have HG1:=hD0 hg1
 clear hg1
 clear h hf s hok hq hp hm0
 obtain⟨z,hz⟩:∃z,w.alloc (.cells #[.int .i64 t,.int .i64 r] 34)=z:=⟨_,rfl⟩
 rw[hz] at hN hb0
 have n0:z.cell? ⟨w.heap.size,0,none⟩=some (.int .i64 t):=Z0 hb0
 have n1:z.cell? ⟨w.heap.size,1,none⟩=some (.int .i64 r):=Z0 hb0
 have HFi:=hD0 (Z6s (H.out.nw hN) HS.out t r txn)
 rw[Z7h,hfi] at HFi
 generalize (Uf (Z3 l) t r txn).1=fid at HFi
 have HE:=hD0 (aI0 he (aI0 hae (aI0 hfl hnn)))
 clear he hae hfl hnn hfi hk
 go_enter func103,ntmps103
 go_wp2_with (go_at_call 87;refine(HKn.out _).mono ?_;rintro e w' ⟨rfl,rfl⟩)
 refine HFi.out.mono ?_
 rintro e w1 ⟨rfl,g1⟩
 have HN1:=hD0 (hN.trans g1)
 have hb1:=g1.at' hb0
 have m0:w1.cell? ⟨w.heap.size,0,none⟩=some (.int .i64 t):=Z0 hb1
 have m1:w1.cell? ⟨w.heap.size,1,none⟩=some (.int .i64 r):=Z0 hb1
 have HPc:=hD0 (Z4m (H.out.nw HN1.out) t r)
 clear hz n0 n1 hb0 g1 hN HFi HKn
 go_wp2_with fail
 refine HPc.out.mono ?_
 rintro e w2 ⟨k,b,rfl,hpi,g2⟩
 have hb2:=g2.at' hb1
 have HN2:=hD0 (HN1.out.trans g2)
 have c0:=(H.out.nw HN2.out).c0
 have c1:=(H.out.nw HN2.out).c1
 have c2:=(H.out.nw HN2.out).c2
 have HLv:=hD0 (fun x (g:Nw w2 x)=>Z4r (HPl.out.nw (HN2.out.trans g)))
 have HMs:=hD0 (fun x (g:Nw w2 x)=>(Z81 (HPl.out.nw (HN2.out.trans g))).mono (fun e w' h=>(⟨h.1,by rw[h.2];exact Nw.refl _⟩:e=.returned (.int .i64 L.length)∧Nw x w')))
 have hls:(Z3 l).length=l.length:=List.length_map _
 have hll:=H.out.len
 have hLs:=HPl.out.sz
 have HPi:=hD0 hpi
 have HB2:=hD0 hb2
 have hne:Nonempty (Wd (fun y=>Nw w2 y)):=⟨⟨_,Nw.refl w2⟩⟩
 have j3:decide (L.length≤liv L)=false:=by simp;omega
 have j4:decide ((L.length:Int)≤(liv L:Int))=false:=by simp;omega
 have i2:¬((L.length:Int)≤(liv L:Int)):=by omega
 clear hb1 hb2 hpi g2 m0 m1 HPc
 go_wp2_with fail
 have d0:∀d:Wd (fun y=>Nw w2 y),d.w.cell? _=_:=fun d=>d.h.kp c0
 have d1:∀d:Wd (fun y=>Nw w2 y),d.w.cell? _=_:=fun d=>d.h.kp c1
 have d2:∀d:Wd (fun y=>Nw w2 y),d.w.cell? _=_:=fun d=>d.h.kp c2
 rcases HPi.out.get HS.out with⟨rfl,hgn,-⟩ | ⟨rfl,hkl,hnk,hgn⟩
 ·skip
  have hn1:=HE.out.2.2.2 hgn
  rw[hls] at hn1
  have i1:¬((n:Int)≤(l.length:Int)):=by omega
  have j1:decide ((n:Int)≤(l.length:Int))=false:=by simpa using i1
  have j2:decide (n≤l.length)=false:=by simp;omega
  refine Zf (fun y=>Nw w2 y) (by kernel_rfl) (by kernel_rfl) (Nw.refl _).dr ?_
  repeat (first | go_big_quiet_step (first | exact Zd (fun a b h g=>h.trans g) (HLv.out _ (Wd.h _)) | exact Zd (fun a b h g=>h.trans g) (HMs.out _ (Wd.h _))) | quiet_step (first | exact Zd (fun a b h g=>h.trans g) (HLv.out _ (Wd.h _)) | exact Zd (fun a b h g=>h.trans g) (HMs.out _ (Wd.h _))))
  refine wpQuiet_nil ?_
  intro d
  have HN3:=hD0 (HN2.out.trans d.h)
  have hb3:=d.h.at' HB2.out
  clear d0 d1 d2 hne c0 c1 c2 HLv HMs
  revert HN3 hb3
  generalize d.w=w3
  intro HN3 hb3
  have s0:w3.cell? ⟨w.heap.size,0,none⟩=some (.int .i64 t):=Z0 hb3
  have s1:w3.cell? ⟨w.heap.size,1,none⟩=some (.int .i64 r):=Z0 hb3
  have s9:=hlt hb3
  clear hb3
  obtain⟨pb,hpb⟩:∃pb,w3.heap.size=pb:=⟨_,rfl⟩
  have hpw:w.heap.size≤pb:=by rw[←hpb];exact HN3.out.sz
  have HPb:=hD0 hpb
  clear hpb
  have hhd:hdB (Z3 l) t r=⟨t,r,0,[]⟩:=by unfold hdB;rw[hgn];rfl
  have HHd:=hD0 hhd
  clear hhd hgn
  have hlc:l.length≤c:=hcap0
  have hkp:k≤l.length:=HPi.out.1
  have hi1:k≤l.length:=by omega
  have hi3:k≤l.length:=by omega
  have hi4:k+1+(l.length-k)≤64:=by omega
  have hk7:k≤c:=by omega
  have hkc:(k:Int)≤(c:Int):=by omega
  have hk5:(l.length:Int)≤(c:Int):=by omega
  have hk4:(k:Int)≤(l.length:Int):=by omega
  have hk6:((l.length:Int)-(k:Int)).toNat=l.length-k:=by omega
  obtain⟨⟨AW,AQ,AG⟩,hA⟩:∃X,Yv 0 [] (Zo L) txn m=X:=⟨_,rfl⟩
  have hae:=HE.out.2.1
  rw[HHd.out] at hae
  have HRr:=hD0 (show Z03 ⟨t,r,0,[]⟩ (Zo L) txn m=(⟨t,r,AW,AQ⟩,AG,0)by unfold Z03;rw[if_pos hae,hA])
  have HAl:Hid (AQ.length≤1000):=by
   have h1:=Zgt hA
   rw[List.length_nil] at h1
   exact Nat.le_trans (Nat.le_of_eq h1) (by omega)
  have HAq:=hD0 hA
  clear hA hae
  have HPw:=hD0 hpw
  have HTk0:=hD0 (show tkR L=((Zo L:Int),0)by unfold tkR;rw[if_pos HE.out.2.2.1])
  have hNu:Nw w (w3.alloc (.cells #[.int .i64 t,.int .i64 r,.slice none 0 0,.int .i64 0] 63)):=HN3.out.alloc _
  have g1u:Nw w3 (w3.alloc (.cells #[.int .i64 t,.int .i64 r,.slice none 0 0,.int .i64 0] 63)):=(Nw.refl w3).alloc _
  have c1:=(H.out.nw hNu).c1
  have hal:=Z1 w3 (.cells #[.int .i64 t,.int .i64 r,.slice none 0 0,.int .i64 0] 63)
  rw[HPb.out] at hal
  have HTk:=hD0 (Zdx (HPl.out.nw hNu))
  have HNu:=hD0 (aI0 hNu g1u)
  have HBx:=hD0 hal
  clear hal hNu g1u
  go_wp2_with fail
  rw[HPb.out]
  generalize w3.alloc (.cells #[.int .i64 t,.int .i64 r,.slice none 0 0,.int .i64 0] 63)=u1 at *
  clear c1 s0 s1 s9
  refine HTk.out.mono ?_
  rintro e u2 ⟨rfl,hRp,hT2⟩
  obtain⟨hb4,hR2⟩:=Zll H.out HNu.out.1 HPw.out hpg HBx.out hT2
  have p0:u2.cell? ⟨pb,0,none⟩=some (.int .i64 t):=Z0 hb4
  have p1:u2.cell? ⟨pb,1,none⟩=some (.int .i64 r):=Z0 hb4
  have p2:u2.cell? ⟨pb,2,none⟩=some (.slice none 0 0):=Z0 hb4
  have p3:u2.cell? ⟨pb,3,none⟩=some (.int .i64 0):=Z0 hb4
  have hpbl:=hlt hb4
  have hA9:=Zp4 t r 0 (Zo L) txn m (.slice none 0 0) [] u2 (Nat.zero_le _) (Zay 0 0).ok (Rd.nil u2)
  rw[HRr.out] at hA9
  unfold Yf at hA9
  have HA9:=hD0 hA9
  have HTt:=hD0 (aI0 hT2 (aI0 hRp (aI0 hR2 hb4)))
  rw[HTk0.out]
  clear hA9 hT2 hRp hR2 hb4 HTk
  go_wp2_with fail
  refine HA9.out.mono ?_
  rintro e u3 ⟨v3,rfl,g3,hrd3,hcap3,hnew3⟩
  obtain⟨a3,n3,hv3⟩:=hrd3.form
  obtain⟨al,hal3⟩:∃al,AQ.length=al:=⟨_,rfl⟩
  simp only at hv3 hrd3
  rw[hal3] at hv3
  subst hv3
  obtain⟨hb5,hR3,hb6,hR4,hX,hXn,hw4,hT4,hRp4⟩:=Zlm (t:=t) (r:=r) (AW:=AW) H.out HNu.out.1 HPw.out hpg HTt.out.2.2.2 HTt.out.1 HTt.out.2.2.1 HTt.out.2.1 g3 hal3 HAl.out hrd3 hcap3 hnew3
  clear p0 p1 p2 p3 hpbl
  have p0:u3.cell? ⟨pb,0,none⟩=some (.int .i64 t):=Z0 hb5
  have p1:u3.cell? ⟨pb,1,none⟩=some (.int .i64 r):=Z0 hb5
  have p2:u3.cell? ⟨pb,2,none⟩=some (.slice none 0 0):=Z0 hb5
  have p3:u3.cell? ⟨pb,3,none⟩=some (.int .i64 0):=Z0 hb5
  have pz:=fun j=>hfz (j:=j) hb5
  have hp3:=hlt hb5
  simp only[Yf]
  have HG:=hD0 (aI0 hb6 (aI0 hR4 (aI0 hX (aI0 hXn (aI0 hw4 (aI0 hT4 (aI0 hRp4 hal3)))))))
  clear hb5 hR3 hb6 hR4 hX hXn hw4 hT4 hRp4 hal3 hrd3 hcap3 hnew3 g3 HTt
  go_upto_region 14 with fail
  generalize ((((u3.setCell ⟨pb,0,none⟩ (.int .i64 t)).setCell ⟨pb,1,none⟩ (.int .i64 r)).setCell ⟨pb,2,none⟩ (.slice a3 al n3)).setCell ⟨pb,3,none⟩ (.int .i64 AW))=u4 at *
  clear p0 p1 p2 p3 pz hp3
  have q0:u4.cell? ⟨pb,0,none⟩=some (.int .i64 t):=Z0 HG.out.1
  have q1:u4.cell? ⟨pb,1,none⟩=some (.int .i64 r):=Z0 HG.out.1
  have q2:u4.cell? ⟨pb,2,none⟩=some (.slice a3 AQ.length n3):=Z0 HG.out.1
  have q3:u4.cell? ⟨pb,3,none⟩=some (.int .i64 AW):=Z0 HG.out.1
  rw[HG.out.2.2.2.2.2.2.2] at q2
  have hl4:=hlt HG.out.1
  have c2:=HG.out.2.1.c2
  have hol4:=HG.out.2.1.ol
  have hfz4:=fun j=>HG.out.2.1.fz j
  rcases HF.out with⟨rfl,rfl,rfl⟩ | ⟨g,rfl,hog,hgl⟩
  ·obtain rfl:k=0:=Nat.le_zero.1 HPi.out.1
   obtain⟨v4,w4,a5,n5,c5,w5,a6,n6,c6,w6,hr4,hN4,hr5,hN5,hr6,hN6,hE6⟩:=Z72 H.out HS.out hpg HE.out.1 HPi.out HHd.out HAq.out HG.out.2.2.2.2.2.2.2 HG.out.1 HG.out.2.1 HG.out.2.2.1 HG.out.2.2.2.1 HG.out.2.2.2.2.1 HG.out.2.2.2.2.2.1 HG.out.2.2.2.2.2.2.1 (nx:=0) rfl hi3 hi4 (v1:=.slice none 0 0) (v2:=.slice none 0 0) (fun z _=>Rd.nil z) (fun z _=>Rd.nil z)
   have HFin:=hD0 hE6
   have HR4':=hD0 hr4
   have HR5':=hD0 hr5
   have HR6':=hD0 hr6
   have c24:=hN4.kp c2
   have c25:=hN5.kp c2
   have c26:=hN6.kp c2
   have z0:=hN4.kp q0
   have z1:=hN4.kp q1
   have z2:=hN4.kp q2
   have z3:=hN4.kp q3
   have hz6:=fun j=>(hN6.froz hol4).trans (hfz4 j)
   have ho4:o<w4.heap.size:=lL0 hol4 hN4.sz
   have ho5:o<w5.heap.size:=lL0 hol4 hN5.sz
   have ho6:o<w6.heap.size:=lL0 hol4 hN6.sz
   have hp4:pb<w4.heap.size:=lL0 hl4 hN4.sz
   clear hr4 hr5 hr6 hE6 hN4 hN5 hN6 HG
   go_wp2_with (at_builtin;first | (refine Z5 (by rfl) (.tmp 96) (.tmp 102) 40 rfl _ _ _ _ rfl (by first | rfl | simp[Act.eval, *]) HR4'.out ?_) | (refine Z5 (by rfl) (.tmp 104) (.tmp 106) 40 rfl _ _ _ _ (by first | rfl | simp[Act.eval, *]) (by first | rfl | simp[Act.eval, *]) HR5'.out ?_) | (refine Z5 (by rfl) (.tmp 112) (.tmp 118) 40 rfl _ _ _ _ (by first | rfl | simp[Act.eval, *]) (by first | rfl | simp[Act.eval, *]) HR6'.out ?_))
   exact bodyPost_ret (v:=.tuple #[.int .i64 (Zo L),.bool AG,.int .i64 0]) (by simp[results,results103,go_sem, *]) rfl HFin.out
  ·have hk7:=hk7
   have HO4:=hD0 HG.out.2.1.own
   by_cases hcn:c=k
   ·skip
    obtain⟨v4,w4,a5,n5,c5,w5,a6,n6,c6,w6,hr4,hN4,hr5,hN5,hr6,hN6,hE6⟩:=Z72 H.out HS.out hpg HE.out.1 HPi.out HHd.out HAq.out HG.out.2.2.2.2.2.2.2 HG.out.1 HG.out.2.1 HG.out.2.2.1 HG.out.2.2.2.1 HG.out.2.2.2.2.1 HG.out.2.2.2.2.2.1 HG.out.2.2.2.2.2.2.1 (nx:=k) rfl hi3 hi4 (v1:=.slice (some ⟨g,0,none⟩) k c) (v2:=.slice (some ⟨g,0,none⟩) (l.length-k) (c-k)) (fun z q=>Z33 HO4.out hi1 q) (fun z q=>Zg3 (Nat.le_trans hlc (Nat.le_of_eq hcn)))
    have HFin:=hD0 hE6
    have HR4':=hD0 hr4
    have HR5':=hD0 hr5
    have HR6':=hD0 hr6
    have c24:=hN4.kp c2
    have c25:=hN5.kp c2
    have c26:=hN6.kp c2
    have z0:=hN4.kp q0
    have z1:=hN4.kp q1
    have z2:=hN4.kp q2
    have z3:=hN4.kp q3
    have hz6:=fun j=>(hN6.froz hol4).trans (hfz4 j)
    have ho4:o<w4.heap.size:=lL0 hol4 hN4.sz
    have ho5:o<w5.heap.size:=lL0 hol4 hN5.sz
    have ho6:o<w6.heap.size:=lL0 hol4 hN6.sz
    have hp4:pb<w4.heap.size:=lL0 hl4 hN4.sz
    clear hr4 hr5 hr6 hE6 hN4 hN5 hN6 HG
    go_wp2_with (at_builtin;first | (refine Z5 (by rfl) (.tmp 96) (.tmp 102) 40 rfl _ _ _ _ rfl (by first | rfl | simp[Act.eval, *]) HR4'.out ?_) | (refine Z5 (by rfl) (.tmp 104) (.tmp 106) 40 rfl _ _ _ _ (by first | rfl | simp[Act.eval, *]) (by first | rfl | simp[Act.eval, *]) HR5'.out ?_) | (refine Z5 (by rfl) (.tmp 112) (.tmp 118) 40 rfl _ _ _ _ (by first | rfl | simp[Act.eval, *]) (by first | rfl | simp[Act.eval, *]) HR6'.out ?_))
    exact bodyPost_ret (v:=.tuple #[.int .i64 (Zo L),.bool AG,.int .i64 0]) (by simp[results,results103,go_sem, *]) rfl HFin.out
   ·skip
    obtain⟨v4,w4,a5,n5,c5,w5,a6,n6,c6,w6,hr4,hN4,hr5,hN5,hr6,hN6,hE6⟩:=Z72 H.out HS.out hpg HE.out.1 HPi.out HHd.out HAq.out HG.out.2.2.2.2.2.2.2 HG.out.1 HG.out.2.1 HG.out.2.2.1 HG.out.2.2.2.1 HG.out.2.2.2.2.1 HG.out.2.2.2.2.2.1 HG.out.2.2.2.2.2.2.1 (nx:=k) rfl hi3 hi4 (v1:=.slice (some ⟨g,0,none⟩) k c) (v2:=.slice (some ⟨g,k*4,none⟩) (l.length-k) (c-k)) (fun z q=>Z33 HO4.out hi1 q) (fun z q=>Z6t HO4.out hi3 q)
    have HFin:=hD0 hE6
    have HR4':=hD0 hr4
    have HR5':=hD0 hr5
    have HR6':=hD0 hr6
    have c24:=hN4.kp c2
    have c25:=hN5.kp c2
    have c26:=hN6.kp c2
    have z0:=hN4.kp q0
    have z1:=hN4.kp q1
    have z2:=hN4.kp q2
    have z3:=hN4.kp q3
    have hz6:=fun j=>(hN6.froz hol4).trans (hfz4 j)
    have ho4:o<w4.heap.size:=lL0 hol4 hN4.sz
    have ho5:o<w5.heap.size:=lL0 hol4 hN5.sz
    have ho6:o<w6.heap.size:=lL0 hol4 hN6.sz
    have hp4:pb<w4.heap.size:=lL0 hl4 hN4.sz
    clear hr4 hr5 hr6 hE6 hN4 hN5 hN6 HG
    go_wp2_with (at_builtin;first | (refine Z5 (by rfl) (.tmp 96) (.tmp 102) 40 rfl _ _ _ _ rfl (by first | rfl | simp[Act.eval, *]) HR4'.out ?_) | (refine Z5 (by rfl) (.tmp 104) (.tmp 106) 40 rfl _ _ _ _ (by first | rfl | simp[Act.eval, *]) (by first | rfl | simp[Act.eval, *]) HR5'.out ?_) | (refine Z5 (by rfl) (.tmp 112) (.tmp 118) 40 rfl _ _ _ _ (by first | rfl | simp[Act.eval, *]) (by first | rfl | simp[Act.eval, *]) HR6'.out ?_))
    exact bodyPost_ret (v:=.tuple #[.int .i64 (Zo L),.bool AG,.int .i64 0]) (by simp[results,results103,go_sem, *]) rfl HFin.out
 ·exact absurd HG1.out (by rw[hgn];simp)
end Go.Proofs.YtpffldfpabglbaaGreatDoor
