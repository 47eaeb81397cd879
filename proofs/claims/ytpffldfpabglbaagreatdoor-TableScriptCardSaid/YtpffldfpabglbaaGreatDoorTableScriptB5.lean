/- Texts merged: QuU, BkY, PhA, PhE -/
import Derived.Test.YtpffldfpabglbaaGreatDoorTableScriptB4
import Derived.Shelf.Abstract
set_option linter.unusedVariables false
set_option maxRecDepth 100000
set_option maxHeartbeats 16000000
namespace Go.Proofs.YtpffldfpabglbaaGreatDoor
open Go.RowKit _root_.Go.Proofs.Tryz
def Zsi:Value→Nat
 | .slice _ n _=>n
 | _=>0
theorem Zwt{w:World}{v:Value}{l:List Int}(h:IS w v l):Zsi v=l.length:=by
 rcases h.form with⟨rfl,rfl⟩ | ⟨g,cap,rfl⟩<;>rfl
structure ScI(w:World)(t r W:Int)(a1:Option Addr)(n1 k1:Nat)(g0 pb rb:Nat)(q:List Rq)(u:Value)(ids:List Int)(q':List Rq)(x:World):Prop where
 isr:IS x u ids
 new:∀g,u.ownBlock=some g→w.heap.size≤g
 own:Z2 x g0 (.slice a1 n1 k1) q'
 len:q'.length=n1
 st:Steps q ids q'
 pb:x.heap[pb]?=some (.cells #[.int .i64 t,.int .i64 r,.slice a1 n1 k1,.int .i64 W] 63 (0,0))
 rb:x.heap[rb]?=some (.cells #[.int .i64 0,.int .i64 0,.slice none 0 0,.int .i64 0] 63 (0,0))
 nw:Nw w x
theorem ScI.nx{w:World}{t r W:Int}{a1:Option Addr}{n1 k1 g0 pb rb:Nat}{q:List Rq}{u:Value}{ids:List Int}{q':List Rq}{x y:World}(h:ScI w t r W a1 n1 k1 g0 pb rb q u ids q' x)(g:Nw x y):ScI w t r W a1 n1 k1 g0 pb rb q u ids q' y :=
 ⟨h.isr.nw g,h.new,onw h.own g,h.len,h.st,g.at' h.pb,g.at' h.rb,h.nw.trans g⟩
theorem Zi0{q:List Rq}{m:Int}{W:Int}(h:Ok W q){k:Nat}(hk:k<q.length)(hf:¬Z67 q m (k:Int)):∃o∈q,o.id≠q[k].id∧o.md≠0∧U2 o.md m=false:=by
 refine Classical.byContradiction fun hn=>hf fun j hj ne hm=>?_
 cases e:U2 q[j].md m with
 | true=>rfl
 | false=>exact absurd ⟨q[j],gM0 hj,Z96 h hj hk (by omega),hm,e⟩ hn
theorem Zny{q:List Rq}{m:Int}{k:Nat}(hk:k<q.length)(hf:Z67 q m (k:Int)):∀o∈q,o.id≠q[k].id→o.md≠0→U2 o.md m=true:=by
 intro o ho ne hm
 obtain⟨j,hj,rfl⟩:=List.getElem_of_mem ho
 exact hf j hj (fun e=>ne (by
  have:j=k:=by omega
  subst this;rfl)) hm
theorem Z6f{w:World}{B:Nat}{o:Option Obj}{p:Addr}(h:w.heap[B]?=o)(hp:p.block≠B)(u:Value):(w.setCell p u).heap[B]?=o:=by
 rw[←h]
 exact Below.heap_setCell _ _ _ _ (by first | exact hp | exact hp.symm)
theorem Z2z{w:World}{g0 e size n:Nat}{v:Value}{xs:List Value}{p:Addr}(h:w.ownsRow g0 e size v n xs)(hp:∀g,v.ownBlock=some g→g≠p.block)(u:Value):(w.setCell p u).ownsRow g0 e size v n xs :=
 Ug h (Yg w p u) (fun g hg q=>hp g hg (Option.some.inj q).symm)
theorem Z7t{w:World}{u:Value}{l:List Int}{B:Nat}{c:Array Value}{T:TypeId}{fr:Nat × Nat}(h:IS w u l)(hb:w.heap[B]?=some (.cells c T fr))(hT:T≠3):∀g,u.ownBlock=some g→g≠B:=by
 rintro g hg rfl
 obtain⟨c',hc⟩:=Z4h h hg
 rw[hb] at hc
 injection hc with hc
 injection hc with _ e _
 exact hT e
theorem ScI.grt{w:World}{t r W:Int}{g n1 k1 g0 pb rb i j:Nat}{q:List Rq}{u a b:Value}{ids:List Int}{q':List Rq}{x:World}(h:ScI w t r W (some ⟨g,0,none⟩) n1 k1 g0 pb rb q u ids q' x)(hu:∀g',u.ownBlock=some g'→g'≠g)(hp:g≠pb)(hr:g≠rb)(hw:w.heap.size≤g) :
  IS ((x.drew.setCell ⟨g,i,none⟩ a).setCell ⟨g,j,none⟩ b) u ids∧((x.drew.setCell ⟨g,i,none⟩ a).setCell ⟨g,j,none⟩ b).heap[pb]?=some (.cells #[.int .i64 t,.int .i64 r,.slice (some ⟨g,0,none⟩) n1 k1,.int .i64 W] 63 (0,0)) ∧
   ((x.drew.setCell ⟨g,i,none⟩ a).setCell ⟨g,j,none⟩ b).heap[rb]?=some (.cells #[.int .i64 0,.int .i64 0,.slice none 0 0,.int .i64 0] 63 (0,0))∧Nw w ((x.drew.setCell ⟨g,i,none⟩ a).setCell ⟨g,j,none⟩ b) :=
 ⟨Z2z (Z2z (h.isr.nw (Nw.refl _).dr) (p:=⟨g,i,none⟩) hu a) (p:=⟨g,j,none⟩) hu b,Z6f (Z6f (w:=x.drew) h.pb (p:=⟨g,i,none⟩) hp a) (p:=⟨g,j,none⟩) hp b,Z6f (Z6f (w:=x.drew) h.rb (p:=⟨g,i,none⟩) hr a) (p:=⟨g,j,none⟩) hr b,
  (h.nw.dr.st (p:=⟨g,i,none⟩) hw a).st (p:=⟨g,j,none⟩) hw b⟩
theorem Zt1{w w':World}{g0 e size n:Nat}{u v:Value}{xs:List Value}(ho:w.ownsRow g0 e size v n xs)(hg:Z4 (fun k=>u.ownBlock=some k) w w')(hne:∀g,v.ownBlock=some g→u.ownBlock≠some g):w'.ownsRow g0 e size v n xs :=
 Ug ho (row:=u.ownBlock) ⟨hg.os,hg.tape,hg.output,hg.size,fun k hk hn=>hg.block k hk (fun e=>hn e.symm)⟩ hne
theorem ScI.push{w:World}{t r W:Int}{g n1 k1 g0 pb rb:Nat}{q:List Rq}{u u':Value}{ids:List Int}{c:Int}{q':List Rq}{y y1:World}(hi:IS y u ids)(hn:∀g,u.ownBlock=some g→w.heap.size≤g)(ho:Z2 y g0 (.slice (some ⟨g,0,none⟩) n1 k1) q')(hl:q'.length=n1)(st:Steps q (ids++[c]) q')
  (hp:y.heap[pb]?=some (.cells #[.int .i64 t,.int .i64 r,.slice (some ⟨g,0,none⟩) n1 k1,.int .i64 W] 63 (0,0))) (hr:y.heap[rb]?=some (.cells #[.int .i64 0,.int .i64 0,.slice none 0 0,.int .i64 0] 63 (0,0))) (nw:Nw w y)
  (i1:IS y1 u' (ids++[c])) (tch:Z4 (fun k=>u.ownBlock=some k) y y1) (hb:∀k,u'.ownBlock=some k→u.ownBlock=some k∨y.heap.size≤k) (hug:∀g',u.ownBlock=some g'→g'≠g):ScI w t r W (some ⟨g,0,none⟩) n1 k1 g0 pb rb q u' (ids++[c]) q' y1 :=
 ⟨i1,fun k e=>(hb k e).elim (hn k) (fun q=>Nat.le_trans nw.sz q),Zt1 ho tch (fun g2 e e2=>hug g2 e2 (Option.some.inj e).symm),hl,st,(tch.block pb (hlt hp) (fun e=>Z7t hi hp (by decide) pb e rfl)).trans hp,(tch.block rb (hlt hr) (fun e=>Z7t hi hr (by decide) rb e rfl)).trans hr,Yq nw tch hn⟩
theorem Zah{a:World}{rb:Nat}{v:Value}{l:List Int}(h:IS a v l)(hb:∀g,v.ownBlock=some g→g≠rb)(u0 u1 u2 u3:Value):IS ((((a.setCell ⟨rb,0,none⟩ u0).setCell ⟨rb,1,none⟩ u1).setCell ⟨rb,2,none⟩ u2).setCell ⟨rb,3,none⟩ u3) v l :=
 Z2z (Z2z (Z2z (Z2z h (p:=⟨rb,0,none⟩) hb u0) (p:=⟨rb,1,none⟩) hb u1) (p:=⟨rb,2,none⟩) hb u2) (p:=⟨rb,3,none⟩) hb u3
theorem Zta(t r W:Int)(v:Value)(q:List Rq)(w:World)(hl:q.length≤1000)(hok:Ok W q)(h:Zl w v q) :
  Calls prog 30 #[Yf t r v W] w fun e w'=>∃v' vi,e=.returned (.tuple #[Yf t r v' W,vi])∧Nw w w'∧Zl w' v' (Zc q).2∧(Z06 v'∧newV w.heap.size v')∧IS w' vi (Zc q).1∧∀g,vi.ownBlock=some g→w.heap.size≤g:=by
 have HOk:=hD0 hok
 clear hok
 have HCp:=hD0 (fun(w1:World) (g:Nw w w1)=>Z0o t r W v q w1 hl (h.nw g))
 unfold Yf at HCp
 unfold Yf
 obtain⟨a,c,rfl,h⟩:=h
 clear h
 have HX:=hD0 (Zx w (.cells #[.int .i64 t,.int .i64 r,.slice a q.length c,.int .i64 W] 63) (.cells #[.int .i64 0,.int .i64 0,.slice none 0 0,.int .i64 0] 63))
 go_enter func30,ntmps30
 go_wp2_with fail
 refine(HCp.out _ HX.out.2.2.1).mono ?_
 rintro e w1 ⟨v1,rfl,g1,hO⟩
 rw[HX.out.2.2.2] at hO
 obtain⟨a1,k1,hv1⟩:=(Z2.rd hO).form
 subst hv1
 have hq1:=g1.at' HX.out.2.1
 have hN1:=HX.out.2.2.1.trans g1
 have hal:=Z1 w1 (.cells #[.int .i64 t,.int .i64 r,.slice a1 q.length k1,.int .i64 W] 63)
 have hNa:Nw w1 (w1.alloc (.cells #[.int .i64 t,.int .i64 r,.slice a1 q.length k1,.int .i64 W] 63)):=(Nw.refl w1).alloc _
 have hs1:=g1.sz
 rw[HX.out.2.2.2] at hs1
 obtain⟨pb,hpb⟩:∃pb,w1.heap.size=pb:=⟨_,rfl⟩
 rw[hpb] at hal
 have hne:∀g,(Value.slice a1 q.length k1).ownBlock=some g→g≠pb:=fun g hg e=>by have:=olt hO hg;omega
 have hI:ScI w t r W a1 q.length k1 (w.heap.size+1+1) pb (w.heap.size+1) q (.slice none 0 0) [] q (w1.alloc (.cells #[.int .i64 t,.int .i64 r,.slice a1 q.length k1,.int .i64 W] 63)):=⟨IS.nil _,fun g hg=>by simp[Value.ownBlock] at hg,onw hO hNa,rfl,.refl,hal,hNa.at' hq1,hN1.trans hNa⟩
 have HPn:=hD0 (aI0 hne (show w.heap.size+1+1≤pb by omega))
 have HPb:=hD0 hpb
 clear hne hpb hs1 g1 hq1 hN1 hal hNa hO HX HCp
 go_wp2
 rw[HPb.out]
 clear HPb
 generalize w1.alloc (.cells #[.int .i64 t,.int .i64 r,.slice a1 q.length k1,.int .i64 W] 63)=z at *
 clear w1
 go_loopw [5] (fun u wr=>∃ids q',ScI w t r W a1 q.length k1 (w.heap.size+1+1) pb (w.heap.size+1) q u ids q' wr) (fun u _=>wtg q-Zsi u)
 case atStart=>exact⟨[],q,hI⟩
 case round =>
  clear hI
  obtain⟨ids,q2,hS⟩:=hrel
  have hok2:=hS.st.ok HOk.out
  have hl2:q2.length≤1000:=by rw[hS.len];exact hl
  have hal:=hS.pb
  have p0:=Z0 (j:=0) hal
  have p1:=Z0 (j:=1) hal
  have p2:=Z0 (j:=2) hal
  have p3:=Z0 (j:=3) hal
  have hpl:=hlt hal
  have HU:=hD0 (Z2r t r W (.slice a1 q.length k1) q2 wr hl2 hS.own.rd)
  have HWa:=hD0 (fun(w1:World) (g:Nw wr w1)=>Z9l t r W (.slice a1 q.length k1) q2 w1 hl2 (hS.own.rd.nw g))
  have HF:=hD0 (fun(mm but:Int) (w1:World) (g:Nw wr w1)=>Zfx t r W mm but (.slice a1 q.length k1) q2 w1 hl2 (hS.own.rd.nw g))
  unfold Yf at HU HWa HF
  have HS:=hD0 hS
  have HO2:=hD0 hok2
  have hul:=Zwt hS.isr
  have hwt:=hS.st.wtg HOk.out
  have HM:=hD0 (aI0 hul hwt)
  clear hS hok2 hal hul hwt
  go_wp2_with fail
  refine HU.out.mono ?_
  rintro e w5 ⟨j,rfl,g5,hj⟩
  have HG5:=hD0 g5
  have hal5:=g5.at' HS.out.pb
  clear p0 p1 p2 p3 hpl g5
  have p0:=Z0 (j:=0) hal5
  have p1:=Z0 (j:=1) hal5
  have p2:=Z0 (j:=2) hal5
  have p3:=Z0 (j:=3) hal5
  have hpl:=hlt hal5
  clear hal5
  rcases hj with⟨rfl,hno⟩ | ⟨k,rfl,_,hk,hu,hmin⟩
  rotate_left
  ·skip
   have hmin2:=fun a ha u=>hmin a (by rw[List.take_length];exact ha) u
   have HYes:=hD0 (fun hf=>Zh2 HO2.out (gM0 hk) hu hmin2 hf)
   have HNo:=hD0 (fun hf=>Zhc HO2.out (gM0 hk) hu hmin2 hf)
   clear hmin hmin2 hu HU HWa
   have hSz:=HS.out.nx HG5.out
   rcases Y7 hSz.own with⟨e,_⟩ | ⟨g,cap,e⟩
   ·exfalso;have:=hSz.len;simp only[Value.slice.injEq] at e;omega
   simp only[Value.slice.injEq] at e
   obtain⟨rfl,e2,rfl⟩:=e
   clear e2
   have hnl:=hSz.len
   have hki:(k:Int)<(q.length:Int):=by omega
   have hk0:decide ((k:Int)<0)=false:=by simp
   have HCl:=hD0 (fun(x:World) (gx:Nw w5 x)=>Y5 (onw hSz.own gx) hnl.symm k hk)
   have HFi:=hD0 (fun(f:¬Z67 q2 q2[k].wt (k:Int))=>Zi0 HO2.out hk f)
   have HFy:=hD0 (fun(f:Z67 q2 q2[k].wt (k:Int))=>Zny hk f)
   have HSz:=hD0 hSz
   have HUp:=hD0 (fun(x:World) (h:Z2 x (w.heap.size+1+1) (.slice (some ⟨g,0,none⟩) q.length k1) q2)=>Zy (Zy h hnl.symm k hk 2 (by decide) (.int .i64 q2[k].wt) ⟨q2[k].id,q2[k].txn,q2[k].wt,q2[k].wt,q2[k].sn⟩ rfl) (by rw[List.length_set];exact hnl.symm) k (by rw[List.length_set];exact hk) 4 (by decide) (.int .i64 0) (Z00 q2[k]) (by rw[List.getElem_set_self];rfl))
   simp only[List.set_set] at HUp
   have HSt:=hD0 (fun hc=>HS.out.st.snoc (gM0 hk) hc)
   have HCh:=hD0 (Z1q HO2.out Z00 k hk)
   have HHk:=hD0 hk
   generalize q2[k]=R at *
   obtain⟨b0,b1,b2,b3,b4⟩:=R
   have hal:=hSz.pb
   clear hSz hk p0 p1 p2 p3 hpl
   go_wp2_with fail
   obtain⟨S,hSe⟩:∃S,S=Nw w5:=⟨_,rfl⟩
   have hS0:Hs S w5.drew:=by subst hSe;exact(Nw.refl _).dr
   have t0:∀x,Hs S x→x.cell? ⟨pb,0,none⟩=some (.int .i64 t):=fun x h=>by subst hSe;exact Nw.kp h (Z0 hal)
   have t1:∀x,Hs S x→x.cell? ⟨pb,1,none⟩=some (.int .i64 r):=fun x h=>by subst hSe;exact Nw.kp h (Z0 hal)
   have t2:∀x,Hs S x→x.cell? ⟨pb,2,none⟩=some (.slice (some ⟨g,0,none⟩) q.length k1):=fun x h=>by subst hSe;exact Nw.kp h (Z0 hal)
   have t3:∀x,Hs S x→x.cell? ⟨pb,3,none⟩=some (.int .i64 W):=fun x h=>by subst hSe;exact Nw.kp h (Z0 hal)
   have t4:∀x,Hs S x→x.cell? ⟨g,k*5+3,none⟩=some (.int .i64 b3):=fun x h=>by subst hSe;exact HCl.out x h 3 _ rfl
   have HN:=hD0 (show ∀a b,Hs S a→Nw a b→Hs S b from fun a b h g=>by subst hSe;exact Nw.trans h g)
   have HV:=hD0 (show ∀a,Hs S a→Nw w5 a from fun a h=>by subst hSe;exact h)
   clear hSe hal
   refine Zp (.take (.take (.take (.take (.take (.take (.take (.take (.take (.take (.take (.off (.go1 (.take (.take .fin))))))))))))))) (Hs S) (by kernel_rfl) (by kernel_rfl) (by kernel_rfl) hS0 ?_
   iterate 11 (refine HP.take' ?_;(first | (refine⟨undef,Or.inr ⟨by rfl,rfl⟩,?_⟩) | (apply Exists.intro;refine⟨Or.inl ⟨by rfl,?_⟩,?_⟩;(intro x hx';go_simp;first | done | with_reducible rfl)));(try simp only[Act.put,List.setIfInBounds_toArray,List.set_cons_zero,List.set_cons_succ]))
   refine HP.off ?_
   refine HP.go1 (fun KK hKK=>?_)
   go_simp
   refine(HF.out b3 (k:Int) _ ((HG5.out).trans (HV.out _ hS0))).mono ?_
   rintro e y1 ⟨f,rfl,gf,hff⟩
   have hS1:=HN.out _ _ hS0 gf
   refine hKK.out _ _ hS1 ?_
   intro _
   clear hKK KK
   (try simp only[Act.put,List.setIfInBounds_toArray,List.set_cons_zero,List.set_cons_succ])
   cases f
   ·iterate 2 (refine HP.take' ?_;(first | (refine⟨undef,Or.inr ⟨by rfl,rfl⟩,?_⟩) | (apply Exists.intro;refine⟨Or.inl ⟨by rfl,?_⟩,?_⟩;(intro x hx';go_simp;first | done | with_reducible rfl)));(try simp only[Act.put,List.setIfInBounds_toArray,List.set_cons_zero,List.set_cons_succ]))
    refine HP.end_ ?_
    refine NoPanic.normal ?_
    have HD:=hD0 (HNo.out (HFi.out (fun e=>by have:=hff.2 e;cases this)))
    have HY1:=hD0 ((HG5.out).trans (HV.out _ hS1))
    clear hff hS0 hS1 t0 t1 t2 t3 t4 HN HV gf HSt HCh HUp HCl HFi HFy HSz
    have hsc:=(HS.out.st.scan HOk.out HD.out)
    have hSn:=HS.out.nx HY1.out
    have hq:=hSn.rb
    have hal:=hSn.pb
    have p0:=Z0 (j:=0) hal
    have p1:=Z0 (j:=1) hal
    have p2:=Z0 (j:=2) hal
    have p3:=Z0 (j:=3) hal
    have d0:=Z0 (j:=0) hq
    have d1:=Z0 (j:=1) hq
    have d2:=Z0 (j:=2) hq
    have d3:=Z0 (j:=3) hq
    have fz:=fun k=>hfz (j:=k) hq
    have hpl:=hlt hal
    have HSn:=hD0 hSn
    have HSc:=hD0 hsc
    have HNe:=hD0 (Z7t hSn.isr hq (by decide))
    obtain⟨ua,uc,hu5,_⟩:=hSn.isr.box
    obtain⟨ul,hul⟩:∃n,ids.length=n:=⟨_,rfl⟩
    rw[hul] at hu5
    subst hu5
    clear hsc hSn hq hal hul HD HYes HNo HF HM HO2
    go_wp2
    refine bodyPost_ret (v:=.tuple #[.agg #[.int .i64 t,.int .i64 r,.slice (some ⟨g,0,none⟩) q.length k1,.int .i64 W],.slice ua ul uc]) (by simp[results,results30,go_sem, *]) rfl ⟨_,_,rfl,Z7 HSn.out.nw (Nat.le_succ _) _ _ _ _,?_,?_,?_⟩
    ·rw[HSc.out];exact Z2.rd (Y4 HSn.out.own (by omega) _ _ _ _)
    ·exact⟨Z2.cap HSn.out.own,Z2.newV HSn.out.own (by omega)⟩
    ·rw[HSc.out];exact⟨Zah HSn.out.isr HNe.out _ _ _ _,HSn.out.new⟩
   ·iterate 2 (refine HP.take' ?_;(first | (refine⟨undef,Or.inr ⟨by rfl,rfl⟩,?_⟩) | (apply Exists.intro;refine⟨Or.inl ⟨by rfl,?_⟩,?_⟩;(intro x hx';go_simp;first | done | with_reducible rfl)));(try simp only[Act.put,List.setIfInBounds_toArray,List.set_cons_zero,List.set_cons_succ]))
    refine HP.end_ ?_
    refine NoPanic.normal ?_
    have HD:=hD0 (HYes.out (HFy.out (hff.1 rfl)))
    have HY1:=hD0 (HV.out _ hS1)
    clear hff hS0 hS1 t0 t1 t2 t3 t4 HN HV gf HFi HFy HYes HNo HF
    have hy:=HSz.out.nx HY1.out
    have hg1:=Vr hy.own (g:=g) rfl
    obtain⟨cr,hcr⟩:=Z4h hy.own (g:=g) rfl
    have HIg:=hD0 (Z7t hy.isr hcr (by decide))
    clear hcr
    have hpg:g≠pb:=HPn.out.1 g rfl
    have hpc:∀j,y1.cell? ⟨pb,j,none⟩=_:=fun j=>Z0 (j:=j) hy.pb
    have p2:=hpc 2
    have r2:=HCl.out _ HY1.out 2 _ rfl
    have r3:=HCl.out _ HY1.out 3 _ rfl
    have r4:=HCl.out _ HY1.out 4 _ rfl
    have rz:=V2 hy.own (by exact hy.len.symm)
    have HU:=hD0 (HUp.out _ (onw hy.own (Nw.refl _).dr))
    have HY:=hD0 hy
    have HG:=hD0 (aI0 hg1 hpg)
    have n3:¬(pb=g):=fun e=>hpg e.symm
    have n4:¬(g=pb):=hpg
    clear hpc hy HCl HUp HSz hg1 hpg
    go_wp2_with fail
    obtain⟨y0,hy0⟩:∃y0,y1.drew=y0:=⟨_,rfl⟩
    obtain⟨S,hSe⟩:∃S:World→Prop,S=fun x=>x=y0∨x=y0.setCell ⟨g,k*5+2,none⟩ (.int .i64 b3)∨x=(y0.setCell ⟨g,k*5+2,none⟩ (.int .i64 b3)).setCell ⟨g,k*5+4,none⟩ (.int .i64 0):=⟨_,rfl⟩
    have s2:y0.cell? ⟨pb,2,none⟩=some (.slice (some ⟨g,0,none⟩) q.length k1):=by subst hy0;exact p2
    have s4:y0.cell? ⟨g,k*5+2,none⟩=some (.int .i64 b2):=by subst hy0;exact r2
    have s5:y0.cell? ⟨g,k*5+3,none⟩=some (.int .i64 b3):=by subst hy0;exact r3
    have s6:y0.cell? ⟨g,k*5+4,none⟩=some (.int .i64 b4):=by subst hy0;exact r4
    have s7:∀j,y0.frozen? ⟨g,j,none⟩=false:=by subst hy0;exact rz
    have t2:∀x,Hs S x→x.cell? ⟨pb,2,none⟩=some (.slice (some ⟨g,0,none⟩) q.length k1):=fun x h=>by subst hSe;rcases h with rfl | rfl | rfl<;>simp[go_sem,s2]
    have t4:∀x,Hs S x→x.cell? ⟨g,k*5+3,none⟩=some (.int .i64 b3):=fun x h=>by subst hSe;rcases h with rfl | rfl | rfl<;>simp[go_sem,s5]
    have hS0:Hs S y1.drew:=by rw[hy0,hSe];exact .inl rfl
    have hS1:Hs S (y0.setCell ⟨g,k*5+2,none⟩ (.int .i64 b3)):=by rw[hSe];exact .inr (.inl rfl)
    have hS2:Hs S ((y0.setCell ⟨g,k*5+2,none⟩ (.int .i64 b3)).setCell ⟨g,k*5+4,none⟩ (.int .i64 0)):=by rw[hSe];exact .inr (.inr rfl)
    clear hSe
    refine Zp (.take (.take (.take (.take (.take (.take (.take (.take (.take (.take (.take (.take (.take (.take (.off (.go1 (.take (.take (.off (.go1 .fin)))))))))))))))))))) (Hs S) (by kernel_rfl) (by kernel_rfl) (by kernel_rfl) hS0 ?_
    rw[hy0]
    iterate 14 (refine HP.take' ?_;(first | (refine⟨undef,Or.inr ⟨by rfl,rfl⟩,?_⟩) | (apply Exists.intro;refine⟨Or.inl ⟨by rfl,?_⟩,?_⟩;(intro x hx';go_simp;first | done | with_reducible rfl)));(try simp only[Act.put,List.setIfInBounds_toArray,List.set_cons_zero,List.set_cons_succ]))
    refine HP.off ?_
    refine HP.go1 (fun KK hKK=>?_)
    go_simp
    refine hKK.out _ _ hS1 ?_
    intro _
    clear hKK KK
    (try simp only[Act.put,List.setIfInBounds_toArray,List.set_cons_zero,List.set_cons_succ])
    iterate 2 (refine HP.take' ?_;(first | (refine⟨undef,Or.inr ⟨by rfl,rfl⟩,?_⟩) | (apply Exists.intro;refine⟨Or.inl ⟨by rfl,?_⟩,?_⟩;(intro x hx';go_simp;first | done | with_reducible rfl)));(try simp only[Act.put,List.setIfInBounds_toArray,List.set_cons_zero,List.set_cons_succ]))
    refine HP.off ?_
    refine HP.go1 (fun KK hKK=>?_)
    go_simp
    refine hKK.out _ _ hS2 ?_
    intro _
    clear hKK KK
    (try simp only[Act.put,List.setIfInBounds_toArray,List.set_cons_zero,List.set_cons_succ])
    refine HP.end_ ?_
    refine NoPanic.normal ?_
    subst hy0
    clear hS0 hS1 hS2 t2 t4 s2 s4 s5 s6 s7 p2 r2 r3 r4 rz n3 n4
    have hgg:=HG.out.1
    have hgr:=HY.out.grt (i:=k*5+2) (j:=k*5+4) (a:=.int .i64 b3) (b:=.int .i64 0) HIg.out HG.out.2 (by omega) (by omega)
    have hcl:=Y5 HU.out (by rw[List.length_set];exact hnl.symm) k (by rw[List.length_set];exact HHk.out) 0 (.int .i64 b0) (by rw[List.getElem_set_self];rfl)
    simp only[Nat.add_zero] at hcl
    generalize (y1.drew.setCell ⟨g,k*5+2,none⟩ (.int .i64 b3)).setCell ⟨g,k*5+4,none⟩ (.int .i64 0)=y at *
    have p2:y.cell? ⟨pb,2,none⟩=some (.slice (some ⟨g,0,none⟩) q.length k1):=Z0 hgr.2.1
    have hSt:=HSt.out HD.out
    rw[HCh.out] at hSt
    have hw:=hSt.wtg HOk.out
    rw[List.length_append] at hw
    simp only[List.length_singleton] at hw
    have hwl:wtg q≤q.length:=List.countP_le_length
    obtain⟨ao,co,hu5,_⟩:=hgr.1.box
    subst hu5
    obtain⟨v3,y3,hrun,q1,qt,qb,g3,cap3,hv3⟩:=IS.push y _ ids b0 hgr.1 (by omega)
    subst hv3
    have hS3:=ScI.push hgr.1 HY.out.new HU.out (by rw[List.length_set];exact hnl) hSt hgr.2.1 hgr.2.2.1 hgr.2.2.2 q1 qt qb HIg.out
    have HS3:=hD0 hS3
    have HR2:=hD0 hrun
    have HW:=hD0 (aI0 HM.out.1 hw)
    clear hS3 hrun hw hwl hSt hgr q1 qt qb hgg HY HIg HG HU HD HSt HCh HM
    go_wp2_with (at_builtin;(refine Z5 (by rfl) (.tmp 47) (.tmp 54) 60 rfl _ _ _ _ rfl rfl HR2.out ?_))
    go_roundw
    case rel=>exact⟨_,_,HS3.out⟩
    case measure=>have:=HW.out.1;have:=HW.out.2;simp[Zsi];omega
  have hno2:=fun a ha=>hno a (by rw[List.take_length];exact ha)
  go_wp2_with fail
  refine(HWa.out _ HG5.out).mono ?_
  rintro e w6 ⟨jw,rfl,g6,hjw⟩
  have HG6:=hD0 (HG5.out.trans g6)
  have hal6:=HG6.out.at' HS.out.pb
  clear p0 p1 p2 p3 hpl g6
  have p0:=Z0 (j:=0) hal6
  have p1:=Z0 (j:=1) hal6
  have p2:=Z0 (j:=2) hal6
  have p3:=Z0 (j:=3) hal6
  have hpl:=hlt hal6
  clear hal6
  rcases hjw with⟨rfl,hz⟩ | ⟨k,rfl,hk,hz,hfi⟩
  rotate_left
  ·skip
   have HYes:=hD0 (fun hf=>Zh3 HO2.out hk hz hfi hno2 hf)
   have HNo:=hD0 (fun hf=>Zhd HO2.out hk hz hfi hno2 hf)
   clear hno hno2 hz hfi HU HWa
   have hSz:=HS.out.nx HG6.out
   rcases Y7 hSz.own with⟨e,_⟩ | ⟨g,cap,e⟩
   ·exfalso;have:=hSz.len;simp only[Value.slice.injEq] at e;omega
   simp only[Value.slice.injEq] at e
   obtain⟨rfl,e2,rfl⟩:=e
   clear e2
   have hnl:=hSz.len
   have hki:(k:Int)<(q.length:Int):=by omega
   have hk0:decide ((k:Int)<0)=false:=by simp
   have HCl:=hD0 (fun(x:World) (gx:Nw w6 x)=>Y5 (onw hSz.own gx) hnl.symm k hk)
   have HFi:=hD0 (fun(f:¬Z67 q2 q2[k].wt (k:Int))=>Zi0 HO2.out hk f)
   have HFy:=hD0 (fun(f:Z67 q2 q2[k].wt (k:Int))=>Zny hk f)
   have HSz:=hD0 hSz
   have HUp:=hD0 (fun(x:World) (h:Z2 x (w.heap.size+1+1) (.slice (some ⟨g,0,none⟩) q.length k1) q2)=>Zy (Zy h hnl.symm k hk 2 (by decide) (.int .i64 q2[k].wt) ⟨q2[k].id,q2[k].txn,q2[k].wt,q2[k].wt,q2[k].sn⟩ rfl) (by rw[List.length_set];exact hnl.symm) k (by rw[List.length_set];exact hk) 4 (by decide) (.int .i64 0) (Z00 q2[k]) (by rw[List.getElem_set_self];rfl))
   simp only[List.set_set] at HUp
   have HSt:=hD0 (fun hc=>HS.out.st.snoc (gM0 hk) hc)
   have HCh:=hD0 (Z1q HO2.out Z00 k hk)
   have HHk:=hD0 hk
   generalize q2[k]=R at *
   obtain⟨b0,b1,b2,b3,b4⟩:=R
   have hal:=hSz.pb
   clear hSz hk p0 p1 p2 p3 hpl
   go_wp2_with fail
   obtain⟨S,hSe⟩:∃S,S=Nw w6:=⟨_,rfl⟩
   have hS0:Hs S w6.drew:=by subst hSe;exact(Nw.refl _).dr
   have t0:∀x,Hs S x→x.cell? ⟨pb,0,none⟩=some (.int .i64 t):=fun x h=>by subst hSe;exact Nw.kp h (Z0 hal)
   have t1:∀x,Hs S x→x.cell? ⟨pb,1,none⟩=some (.int .i64 r):=fun x h=>by subst hSe;exact Nw.kp h (Z0 hal)
   have t2:∀x,Hs S x→x.cell? ⟨pb,2,none⟩=some (.slice (some ⟨g,0,none⟩) q.length k1):=fun x h=>by subst hSe;exact Nw.kp h (Z0 hal)
   have t3:∀x,Hs S x→x.cell? ⟨pb,3,none⟩=some (.int .i64 W):=fun x h=>by subst hSe;exact Nw.kp h (Z0 hal)
   have t4:∀x,Hs S x→x.cell? ⟨g,k*5+3,none⟩=some (.int .i64 b3):=fun x h=>by subst hSe;exact HCl.out x h 3 _ rfl
   have HN:=hD0 (show ∀a b,Hs S a→Nw a b→Hs S b from fun a b h g=>by subst hSe;exact Nw.trans h g)
   have HV:=hD0 (show ∀a,Hs S a→Nw w6 a from fun a h=>by subst hSe;exact h)
   clear hSe hal
   refine Zp (.take (.take (.take (.take (.take (.take (.take (.take (.take (.take (.take (.off (.go1 (.take (.take .fin))))))))))))))) (Hs S) (by kernel_rfl) (by kernel_rfl) (by kernel_rfl) hS0 ?_
   iterate 11 (refine HP.take' ?_;(first | (refine⟨undef,Or.inr ⟨by rfl,rfl⟩,?_⟩) | (apply Exists.intro;refine⟨Or.inl ⟨by rfl,?_⟩,?_⟩;(intro x hx';go_simp;first | done | with_reducible rfl)));(try simp only[Act.put,List.setIfInBounds_toArray,List.set_cons_zero,List.set_cons_succ]))
   refine HP.off ?_
   refine HP.go1 (fun KK hKK=>?_)
   go_simp
   refine(HF.out b3 (k:Int) _ ((HG6.out).trans (HV.out _ hS0))).mono ?_
   rintro e y1 ⟨f,rfl,gf,hff⟩
   have hS1:=HN.out _ _ hS0 gf
   refine hKK.out _ _ hS1 ?_
   intro _
   clear hKK KK
   (try simp only[Act.put,List.setIfInBounds_toArray,List.set_cons_zero,List.set_cons_succ])
   cases f
   ·iterate 2 (refine HP.take' ?_;(first | (refine⟨undef,Or.inr ⟨by rfl,rfl⟩,?_⟩) | (apply Exists.intro;refine⟨Or.inl ⟨by rfl,?_⟩,?_⟩;(intro x hx';go_simp;first | done | with_reducible rfl)));(try simp only[Act.put,List.setIfInBounds_toArray,List.set_cons_zero,List.set_cons_succ]))
    refine HP.end_ ?_
    refine NoPanic.normal ?_
    have HD:=hD0 (HNo.out (HFi.out (fun e=>by have:=hff.2 e;cases this)))
    have HY1:=hD0 ((HG6.out).trans (HV.out _ hS1))
    clear hff hS0 hS1 t0 t1 t2 t3 t4 HN HV gf HSt HCh HUp HCl HFi HFy HSz
    have hsc:=(HS.out.st.scan HOk.out HD.out)
    have hSn:=HS.out.nx HY1.out
    have hq:=hSn.rb
    have hal:=hSn.pb
    have p0:=Z0 (j:=0) hal
    have p1:=Z0 (j:=1) hal
    have p2:=Z0 (j:=2) hal
    have p3:=Z0 (j:=3) hal
    have d0:=Z0 (j:=0) hq
    have d1:=Z0 (j:=1) hq
    have d2:=Z0 (j:=2) hq
    have d3:=Z0 (j:=3) hq
    have fz:=fun k=>hfz (j:=k) hq
    have hpl:=hlt hal
    have HSn:=hD0 hSn
    have HSc:=hD0 hsc
    have HNe:=hD0 (Z7t hSn.isr hq (by decide))
    obtain⟨ua,uc,hu5,_⟩:=hSn.isr.box
    obtain⟨ul,hul⟩:∃n,ids.length=n:=⟨_,rfl⟩
    rw[hul] at hu5
    subst hu5
    clear hsc hSn hq hal hul HD HYes HNo HF HM HO2
    go_wp2
    refine bodyPost_ret (v:=.tuple #[.agg #[.int .i64 t,.int .i64 r,.slice (some ⟨g,0,none⟩) q.length k1,.int .i64 W],.slice ua ul uc]) (by simp[results,results30,go_sem, *]) rfl ⟨_,_,rfl,Z7 HSn.out.nw (Nat.le_succ _) _ _ _ _,?_,?_,?_⟩
    ·rw[HSc.out];exact Z2.rd (Y4 HSn.out.own (by omega) _ _ _ _)
    ·exact⟨Z2.cap HSn.out.own,Z2.newV HSn.out.own (by omega)⟩
    ·rw[HSc.out];exact⟨Zah HSn.out.isr HNe.out _ _ _ _,HSn.out.new⟩
   ·iterate 2 (refine HP.take' ?_;(first | (refine⟨undef,Or.inr ⟨by rfl,rfl⟩,?_⟩) | (apply Exists.intro;refine⟨Or.inl ⟨by rfl,?_⟩,?_⟩;(intro x hx';go_simp;first | done | with_reducible rfl)));(try simp only[Act.put,List.setIfInBounds_toArray,List.set_cons_zero,List.set_cons_succ]))
    refine HP.end_ ?_
    refine NoPanic.normal ?_
    have HD:=hD0 (HYes.out (HFy.out (hff.1 rfl)))
    have HY1:=hD0 (HV.out _ hS1)
    clear hff hS0 hS1 t0 t1 t2 t3 t4 HN HV gf HFi HFy HYes HNo HF
    have hy:=HSz.out.nx HY1.out
    have hg1:=Vr hy.own (g:=g) rfl
    obtain⟨cr,hcr⟩:=Z4h hy.own (g:=g) rfl
    have HIg:=hD0 (Z7t hy.isr hcr (by decide))
    clear hcr
    have hpg:g≠pb:=HPn.out.1 g rfl
    have hpc:∀j,y1.cell? ⟨pb,j,none⟩=_:=fun j=>Z0 (j:=j) hy.pb
    have p2:=hpc 2
    have r2:=HCl.out _ HY1.out 2 _ rfl
    have r3:=HCl.out _ HY1.out 3 _ rfl
    have r4:=HCl.out _ HY1.out 4 _ rfl
    have rz:=V2 hy.own (by exact hy.len.symm)
    have HU:=hD0 (HUp.out _ (onw hy.own (Nw.refl _).dr))
    have HY:=hD0 hy
    have HG:=hD0 (aI0 hg1 hpg)
    have n3:¬(pb=g):=fun e=>hpg e.symm
    have n4:¬(g=pb):=hpg
    clear hpc hy HCl HUp HSz hg1 hpg
    go_wp2_with fail
    obtain⟨y0,hy0⟩:∃y0,y1.drew=y0:=⟨_,rfl⟩
    obtain⟨S,hSe⟩:∃S:World→Prop,S=fun x=>x=y0∨x=y0.setCell ⟨g,k*5+2,none⟩ (.int .i64 b3)∨x=(y0.setCell ⟨g,k*5+2,none⟩ (.int .i64 b3)).setCell ⟨g,k*5+4,none⟩ (.int .i64 0):=⟨_,rfl⟩
    have s2:y0.cell? ⟨pb,2,none⟩=some (.slice (some ⟨g,0,none⟩) q.length k1):=by subst hy0;exact p2
    have s4:y0.cell? ⟨g,k*5+2,none⟩=some (.int .i64 b2):=by subst hy0;exact r2
    have s5:y0.cell? ⟨g,k*5+3,none⟩=some (.int .i64 b3):=by subst hy0;exact r3
    have s6:y0.cell? ⟨g,k*5+4,none⟩=some (.int .i64 b4):=by subst hy0;exact r4
    have s7:∀j,y0.frozen? ⟨g,j,none⟩=false:=by subst hy0;exact rz
    have t2:∀x,Hs S x→x.cell? ⟨pb,2,none⟩=some (.slice (some ⟨g,0,none⟩) q.length k1):=fun x h=>by subst hSe;rcases h with rfl | rfl | rfl<;>simp[go_sem,s2]
    have t4:∀x,Hs S x→x.cell? ⟨g,k*5+3,none⟩=some (.int .i64 b3):=fun x h=>by subst hSe;rcases h with rfl | rfl | rfl<;>simp[go_sem,s5]
    have hS0:Hs S y1.drew:=by rw[hy0,hSe];exact .inl rfl
    have hS1:Hs S (y0.setCell ⟨g,k*5+2,none⟩ (.int .i64 b3)):=by rw[hSe];exact .inr (.inl rfl)
    have hS2:Hs S ((y0.setCell ⟨g,k*5+2,none⟩ (.int .i64 b3)).setCell ⟨g,k*5+4,none⟩ (.int .i64 0)):=by rw[hSe];exact .inr (.inr rfl)
    clear hSe
    refine Zp (.take (.take (.take (.take (.take (.take (.take (.take (.take (.take (.take (.take (.take (.take (.off (.go1 (.take (.take (.off (.go1 .fin)))))))))))))))))))) (Hs S) (by kernel_rfl) (by kernel_rfl) (by kernel_rfl) hS0 ?_
    rw[hy0]
    iterate 14 (refine HP.take' ?_;(first | (refine⟨undef,Or.inr ⟨by rfl,rfl⟩,?_⟩) | (apply Exists.intro;refine⟨Or.inl ⟨by rfl,?_⟩,?_⟩;(intro x hx';go_simp;first | done | with_reducible rfl)));(try simp only[Act.put,List.setIfInBounds_toArray,List.set_cons_zero,List.set_cons_succ]))
    refine HP.off ?_
    refine HP.go1 (fun KK hKK=>?_)
    go_simp
    refine hKK.out _ _ hS1 ?_
    intro _
    clear hKK KK
    (try simp only[Act.put,List.setIfInBounds_toArray,List.set_cons_zero,List.set_cons_succ])
    iterate 2 (refine HP.take' ?_;(first | (refine⟨undef,Or.inr ⟨by rfl,rfl⟩,?_⟩) | (apply Exists.intro;refine⟨Or.inl ⟨by rfl,?_⟩,?_⟩;(intro x hx';go_simp;first | done | with_reducible rfl)));(try simp only[Act.put,List.setIfInBounds_toArray,List.set_cons_zero,List.set_cons_succ]))
    refine HP.off ?_
    refine HP.go1 (fun KK hKK=>?_)
    go_simp
    refine hKK.out _ _ hS2 ?_
    intro _
    clear hKK KK
    (try simp only[Act.put,List.setIfInBounds_toArray,List.set_cons_zero,List.set_cons_succ])
    refine HP.end_ ?_
    refine NoPanic.normal ?_
    subst hy0
    clear hS0 hS1 hS2 t2 t4 s2 s4 s5 s6 s7 p2 r2 r3 r4 rz n3 n4
    have hgg:=HG.out.1
    have hgr:=HY.out.grt (i:=k*5+2) (j:=k*5+4) (a:=.int .i64 b3) (b:=.int .i64 0) HIg.out HG.out.2 (by omega) (by omega)
    have hcl:=Y5 HU.out (by rw[List.length_set];exact hnl.symm) k (by rw[List.length_set];exact HHk.out) 0 (.int .i64 b0) (by rw[List.getElem_set_self];rfl)
    simp only[Nat.add_zero] at hcl
    generalize (y1.drew.setCell ⟨g,k*5+2,none⟩ (.int .i64 b3)).setCell ⟨g,k*5+4,none⟩ (.int .i64 0)=y at *
    have p2:y.cell? ⟨pb,2,none⟩=some (.slice (some ⟨g,0,none⟩) q.length k1):=Z0 hgr.2.1
    have hSt:=HSt.out HD.out
    rw[HCh.out] at hSt
    have hw:=hSt.wtg HOk.out
    rw[List.length_append] at hw
    simp only[List.length_singleton] at hw
    have hwl:wtg q≤q.length:=List.countP_le_length
    obtain⟨ao,co,hu5,_⟩:=hgr.1.box
    subst hu5
    obtain⟨v3,y3,hrun,q1,qt,qb,g3,cap3,hv3⟩:=IS.push y _ ids b0 hgr.1 (by omega)
    subst hv3
    have hS3:=ScI.push hgr.1 HY.out.new HU.out (by rw[List.length_set];exact hnl) hSt hgr.2.1 hgr.2.2.1 hgr.2.2.2 q1 qt qb HIg.out
    have HS3:=hD0 hS3
    have HR2:=hD0 hrun
    have HW:=hD0 (aI0 HM.out.1 hw)
    clear hS3 hrun hw hwl hSt hgr q1 qt qb hgg HY HIg HG HU HD HSt HCh HM
    go_wp2_with (at_builtin;(refine Z5 (by rfl) (.tmp 47) (.tmp 54) 60 rfl _ _ _ _ rfl rfl HR2.out ?_))
    go_roundw
    case rel=>exact⟨_,_,HS3.out⟩
    case measure=>have:=HW.out.1;have:=HW.out.2;simp[Zsi];omega
  have HD:=hD0 (Zjm hno2 hz)
  clear hz hno hno2 HU HWa
  go_wp2_with fail
  obtain⟨S,hSe⟩:∃S,S=Nw w6:=⟨_,rfl⟩
  have hS0:Hs S w6.drew:=by subst hSe;exact(Nw.refl _).dr
  have HV:=hD0 (show ∀a,Hs S a→Nw w6 a from fun a h=>by subst hSe;exact h)
  clear hSe
  refine Zp (.take (.take (.take (.take (.take (.take (.take (.take (.take (.take (.take (.off (.go1 (.take (.take .fin))))))))))))))) (Hs S) (by kernel_rfl) (by kernel_rfl) (by kernel_rfl) hS0 ?_
  iterate 11 (refine HP.take' ?_;(first | (refine⟨undef,Or.inr ⟨by rfl,rfl⟩,?_⟩) | (apply Exists.intro;refine⟨Or.inl ⟨by rfl,?_⟩,?_⟩;(intro x hx';go_simp;first | done | with_reducible rfl)));(try simp only[Act.put,List.setIfInBounds_toArray,List.set_cons_zero,List.set_cons_succ]))
  refine HP.off ?_
  refine HP.go1 (fun KK hKK=>?_)
  go_simp
  refine hKK.out _ _ hS0 ?_
  intro _
  clear hKK KK
  (try simp only[Act.put,List.setIfInBounds_toArray,List.set_cons_zero,List.set_cons_succ])
  iterate 2 (refine HP.take' ?_;(first | (refine⟨undef,Or.inr ⟨by rfl,rfl⟩,?_⟩) | (apply Exists.intro;refine⟨Or.inl ⟨by rfl,?_⟩,?_⟩;(intro x hx';go_simp;first | done | with_reducible rfl)));(try simp only[Act.put,List.setIfInBounds_toArray,List.set_cons_zero,List.set_cons_succ]))
  refine HP.end_ ?_
  refine NoPanic.normal ?_
  have HY1:=hD0 HG6.out.dr
  clear hS0 HV HG6 HG5 p0 p1 p2 p3 hpl
  generalize w6.drew=y1 at *
  have hsc:=(HS.out.st.scan HOk.out HD.out)
  have hSn:=HS.out.nx HY1.out
  have hq:=hSn.rb
  have hal:=hSn.pb
  have p0:=Z0 (j:=0) hal
  have p1:=Z0 (j:=1) hal
  have p2:=Z0 (j:=2) hal
  have p3:=Z0 (j:=3) hal
  have d0:=Z0 (j:=0) hq
  have d1:=Z0 (j:=1) hq
  have d2:=Z0 (j:=2) hq
  have d3:=Z0 (j:=3) hq
  have fz:=fun k=>hfz (j:=k) hq
  have hpl:=hlt hal
  have HSn:=hD0 hSn
  have HSc:=hD0 hsc
  have HNe:=hD0 (Z7t hSn.isr hq (by decide))
  obtain⟨ua,uc,hu5,_⟩:=hSn.isr.box
  obtain⟨ul,hul⟩:∃n,ids.length=n:=⟨_,rfl⟩
  rw[hul] at hu5
  subst hu5
  clear hsc hSn hq hal hul HD HF HM HO2
  go_wp2
  refine bodyPost_ret (v:=.tuple #[.agg #[.int .i64 t,.int .i64 r,.slice a1 q.length k1,.int .i64 W],.slice ua ul uc]) (by simp[results,results30,go_sem, *]) rfl ⟨_,_,rfl,Z7 HSn.out.nw (Nat.le_succ _) _ _ _ _,?_,?_,?_⟩
  ·rw[HSc.out];exact Z2.rd (Y4 HSn.out.own (by omega) _ _ _ _)
  ·exact⟨Z2.cap HSn.out.own,Z2.newV HSn.out.own (by omega)⟩
  ·rw[HSc.out];exact⟨Zah HSn.out.isr HNe.out _ _ _ _,HSn.out.new⟩
theorem Zcv{w:World}{g0 g n cap:Nat}{l:List Hm}(h:U7 w g0 (.slice (some ⟨g,0,none⟩) n cap) l)(hn:n=l.length){i:Nat}(hi:i≤n):U7 w g0 (.slice (some ⟨g,0,none⟩) i cap) (l.take i):=by
 subst hn
 have:=Zi8 h hi
 unfold U7 Yz
 rw[List.length_take,Nat.min_eq_left hi,←Z9p (sz:=4) (row:=Zm) Y6.len i l hi]
 exact this
theorem Zng{w:World}{b c k:Nat}{l:List Hm}(h:RdC 4 Zm w b 0 l)(hk:k≤l.length)(hc:l.length≤c) :
  ∀j u,(Z6 Zm (l.drop k))[j]?=some u→w.cell? ((if c=k then(⟨b,0,none⟩:Addr) else⟨b,k*4,none⟩).add j)=some u:=by
 by_cases e:c=k
 ·intro j u hu
  have:l.drop k=[]:=List.drop_eq_nil_of_le (by omega)
  rw[this] at hu
  simp[Z6] at hu
 ·rw[if_neg e]
  have hp:=h.part k (l.length-k)
  rw[List.take_of_length_le (by simp),Nat.zero_add] at hp
  exact hp.flat Y6.len (by decide)
theorem Z7m{w:World}{g0 g cap:Nat}{l:List Hm}(h:U7 w g0 (.slice (some ⟨g,0,none⟩) l.length cap) l):RdC 4 Zm w g 0 l:=by
 have hrd:=Yz.rd Y6.len h
 obtain⟨a,c,e,⟨e2,e3⟩ | ⟨b,o',e2,hc⟩⟩:=hrd
 ·subst e2
  exact⟨olt h rfl,fun i hi=>by simp at hi⟩
 ·subst e2
  cases e
  exact hc
theorem Zh0{w:World}{B:Nat}{T:TypeId}{fr:Nat × Nat}{a0 a1 a2 a3:Value}(h:w.heap[B]?=some (.cells #[a0,a1,a2,a3] T fr))(u0 u1 u2 u3:Value) :
  ((((w.setCell ⟨B,0,none⟩ u0).setCell ⟨B,1,none⟩ u1).setCell ⟨B,2,none⟩ u2).setCell ⟨B,3,none⟩ u3).heap[B]?=some (.cells #[u0,u1,u2,u3] T fr):=by
 have:=Vw (j:=3) u3 (Vw (j:=2) u2 (Vw (j:=1) u1 (Vw (j:=0) u0 h)))
 simpa using this
theorem Zh1(w:World)(B:Nat)(u0 u1 u2 u3:Value):Z4 (fun b=>b=B) w ((((w.setCell ⟨B,0,none⟩ u0).setCell ⟨B,1,none⟩ u1).setCell ⟨B,2,none⟩ u2).setCell ⟨B,3,none⟩ u3) :=
 ((((Z4.refl (fun b=>b=B) w).set (p:=⟨B,0,none⟩) (.inl rfl) _).set (p:=⟨B,1,none⟩) (.inl rfl) _).set (p:=⟨B,2,none⟩) (.inl rfl) _).set (p:=⟨B,3,none⟩) (.inl rfl) _
theorem Zg1{w:World}{o po:Nat}{most:Int}{v:Value}{l:List Hm}(h:Rb w o po most v l)(s:Y9 (Z3 l)){k:Nat}(hk:k<l.length)(X:Hm)(hX:Vh w o v.ownBlock X)(hnm:Z9 X.h=Z9 l[k].h)(hok:Ok X.h.W X.h.q)(pg:Nat) :
  Calls prog 139 #[.pointer (some ⟨o,0,none⟩),.int .i64 k,.agg #[.int .i64 X.h.t,.int .i64 X.h.r,.slice X.a X.h.q.length X.c,.int .i64 X.h.W]] w fun e w'=>∃vi,e=.returned vi∧IS w' vi (Zc X.h.q).1∧∃v' l',Z3 l'=Yy (Z3 l) X.h∧Yx w o po pg most v l w' v' l':=by
 obtain⟨a,c,rfl,hf⟩:=h.form
 rcases hf with⟨_,e,_⟩ | ⟨g,rfl,hog,hgl⟩
 ·subst e;simp at hk
 have HXx:=hD0 hX
 obtain⟨⟨Xt,Xr,XW,q⟩,qa,qc⟩:=X
 simp only at hok ⊢
 have H:=hD0 h
 have HS:=hD0 s
 have HO:=hD0 hok
 have HNm:=hD0 hnm
 have hol:=h.ol
 have hl1:=h.len
 have hki:(k:Int)<(l.length:Int):=by omega
 have hal:=Z1 w (.cells #[.int .i64 Xt,.int .i64 Xr,.slice qa q.length qc,.int .i64 XW] 63)
 have hN:Nw w (w.alloc (.cells #[.int .i64 Xt,.int .i64 Xr,.slice qa q.length qc,.int .i64 XW] 63)):=(Nw.refl w).alloc _
 have HC:=hD0 (fun w2 (g2:Nw w w2)=>Zta Xt Xr XW (.slice qa q.length qc) q w2 hX.len hok (hX.rd.nw g2))
 have hlq:q.length≤1000:=hX.len
 have hsl:(Zc q).2.length=q.length:=Z86 hok
 have hso:Ok XW (Zc q).2:=Zim hok
 clear h s hok hX hnm
 unfold Yf at HC
 go_enter func139,ntmps139
 go_wp2_with fail
 generalize hz:w.alloc (.cells #[.int .i64 Xt,.int .i64 Xr,.slice qa q.length qc,.int .i64 XW] 63)=z at *
 clear hz
 obtain⟨pb,hpb⟩:∃pb,w.heap.size=pb:=⟨_,rfl⟩
 rw[hpb] at hal
 try rw[hpb]
 refine(HC.out _ hN).mono ?_
 rintro e w1 ⟨v1,vi,rfl,g1,hrd,⟨hcap,hnew⟩,his,hin⟩
 obtain⟨a2,n2,hv1⟩:=hrd.form
 rw[hsl] at hv1
 subst hv1
 have HSl:=hD0 hsl
 have hal1:=g1.at' hal
 have HN1:=hD0 (hN.trans g1)
 have hzp:pb<z.heap.size:=hlt hal
 have hpl:=hlt hal1
 have HW:=hD0 (H.out.nw HN1.out)
 have hgp:¬(pb=g):=by omega
 have hgp2:¬(g=pb):=by omega
 have hop:¬(pb=o):=by omega
 have hop2:¬(o=pb):=by omega
 have p0:w1.cell? ⟨pb,0,none⟩=some (.int .i64 Xt):=Z0 hal1
 have p1:w1.cell? ⟨pb,1,none⟩=some (.int .i64 Xr):=Z0 hal1
 have p2:w1.cell? ⟨pb,2,none⟩=some (.slice qa q.length qc):=Z0 hal1
 have p3:w1.cell? ⟨pb,3,none⟩=some (.int .i64 XW):=Z0 hal1
 have pz:=fun j=>hfz (j:=j) hal1
 have hb2:=Zh0 hal1 (.int .i64 Xt) (.int .i64 Xr) (.slice a2 q.length n2) (.int .i64 XW)
 have ht2:=Zh1 w1 pb (.int .i64 Xt) (.int .i64 Xr) (.slice a2 q.length n2) (.int .i64 XW)
 simp only
 clear hsl
 go_wp2_with fail
 generalize ((((w1.setCell ⟨pb,0,none⟩ (.int .i64 Xt)).setCell ⟨pb,1,none⟩ (.int .i64 Xr)).setCell ⟨pb,2,none⟩ (.slice a2 q.length n2)).setCell ⟨pb,3,none⟩ (.int .i64 XW))=y2 at *
 have hNy:Nw w y2:=Yq HN1.out ht2 (fun i e=>by omega)
 have hrd2:Zl y2 (.slice a2 q.length n2) (Zc q).2:=Zpg hrd ht2 (fun a n c e e2=>by have:=hnew a n c e;omega)
 have his2:IS y2 vi (Zc q).1:=Vf his ht2 (fun g hg e=>by have:=hin g hg;omega)
 have hin2:∀g',vi.ownBlock=some g'→pb<g':=fun g' hg=>lL0 hzp (hin g' hg)
 have hnew2:newV w.heap.size (.slice a2 q.length n2):=fun a n c e=>by have:=hnew a n c e;omega
 have hlb:=hlt hb2
 have hb2':=hb2
 clear p0 p1 p2 p3 pz
 have p0:y2.cell? ⟨pb,0,none⟩=some (.int .i64 Xt):=Z0 hb2
 have p1:y2.cell? ⟨pb,1,none⟩=some (.int .i64 Xr):=Z0 hb2
 have p2:y2.cell? ⟨pb,2,none⟩=some (.slice a2 q.length n2):=Z0 hb2
 have p3:y2.cell? ⟨pb,3,none⟩=some (.int .i64 XW):=Z0 hb2
 have HV:=hD0 (H.out.nw hNy)
 have hgl2:g<y2.heap.size:=lL0 hgl hNy.sz
 have hol2:=HV.out.ol
 have c2:=HV.out.c2
 obtain⟨f0,f1,f2,f3⟩:=HV.out.at_ k hk
 have fz:∀j,y2.frozen? ⟨g,j,none⟩=false:=fun j=>World.ownsRow.frozenAt HV.out.own j
 have HQ:=hD0 (H.out.put_to hNy pg k hk ⟨⟨Xt,Xr,XW,(Zc q).2⟩,a2,n2⟩ (H.out.got hNy ⟨Xt,Xr,XW,(Zc q).2⟩ (by rw[HSl.out];exact hrd2) (by rw[HSl.out];exact hcap) (by rw[HSl.out];exact hnew2) (by show(Zc q).2.length≤1000;rw[HSl.out];exact hlq)) (by unfold hmV;rw[HSl.out];exact hnew2))
 have hput:=Z6q HS.out hk (x:=⟨⟨Xt,Xr,XW,(Zc q).2⟩,a2,n2⟩) HNm.out
 have HI:=hD0 (aI0 his2 hin2)
 simp only[HSl.out] at HQ
 clear hb2 ht2 his hin hcap hnew hrd hrd2 hnew2 his2 hin2 hal hal1 hN HC g1
 by_cases hq:q.length=0
 ·have hE:Yy (Z3 l) ⟨Xt,Xr,XW,q⟩=Z3 (l.take k++l.drop (k+1)):=by
   unfold Yy
   rw[if_pos (show(scH ⟨Xt,Xr,XW,q⟩).q=[] from List.length_eq_zero_iff.1 (HSl.out.trans hq)),show Z9 (⟨Xt,Xr,XW,q⟩:Hq)=Z9 l[k].h from HNm.out]
   exact Zrf HS.out hk
  have HE:=hD0 hE
  have hqd:((q.length:Int)==0)=true:=by simpa using hq
  have ht3:Z4 (fun b=>b=g) y2 ((((y2.setCell ⟨g,k*4,none⟩ (.int .i64 Xt)).setCell ⟨g,k*4+1,none⟩ (.int .i64 Xr)).setCell ⟨g,k*4+2,none⟩ (.slice a2 q.length n2)).setCell ⟨g,k*4+3,none⟩ (.int .i64 XW)):=((((Z4.refl (fun b=>b=g) y2).set (p:=⟨g,k*4,none⟩) (.inl rfl) _).set (p:=⟨g,k*4+1,none⟩) (.inl rfl) _).set (p:=⟨g,k*4+2,none⟩) (.inl rfl) _).set (p:=⟨g,k*4+3,none⟩) (.inl rfl) _
  have hb3:=(ht3.block pb hlb hgp).trans hb2'
  have his3:=Vf HI.out.1 ht3 (fun g' hg e=>by have:=HI.out.2 g' hg;omega)
  have HQ0:=hD0 hq
  clear hE hput hq
  have ng1:¬(g=o):=by omega
  obtain⟨y0,hy0⟩:∃y0,y2.drew=y0:=⟨_,rfl⟩
  obtain⟨S,hSe⟩:∃S:World→Prop,S=fun x=>x=y0∨x=((((y0.setCell ⟨g,k*4,none⟩ (.int .i64 Xt)).setCell ⟨g,k*4+1,none⟩ (.int .i64 Xr)).setCell ⟨g,k*4+2,none⟩ (.slice a2 q.length n2)).setCell ⟨g,k*4+3,none⟩ (.int .i64 XW)):=⟨_,rfl⟩
  have s0:y0.cell? ⟨o,2,none⟩=some (.slice (some ⟨g,0,none⟩) l.length c):=by subst hy0;exact c2
  have t0:∀x,Hs S x→x.cell? ⟨o,2,none⟩=some (.slice (some ⟨g,0,none⟩) l.length c):=fun x h=>by subst hSe;rcases h with rfl | rfl<;>simp[go_sem,s0]
  have s1:y0.cell? ⟨pb,0,none⟩=some (.int .i64 Xt):=by subst hy0;exact p0
  have t1:∀x,Hs S x→x.cell? ⟨pb,0,none⟩=some (.int .i64 Xt):=fun x h=>by subst hSe;rcases h with rfl | rfl<;>simp[go_sem,s1]
  have s2:y0.cell? ⟨pb,1,none⟩=some (.int .i64 Xr):=by subst hy0;exact p1
  have t2:∀x,Hs S x→x.cell? ⟨pb,1,none⟩=some (.int .i64 Xr):=fun x h=>by subst hSe;rcases h with rfl | rfl<;>simp[go_sem,s2]
  have s3:y0.cell? ⟨pb,2,none⟩=some (.slice a2 q.length n2):=by subst hy0;exact p2
  have t3:∀x,Hs S x→x.cell? ⟨pb,2,none⟩=some (.slice a2 q.length n2):=fun x h=>by subst hSe;rcases h with rfl | rfl<;>simp[go_sem,s3]
  have s4:y0.cell? ⟨pb,3,none⟩=some (.int .i64 XW):=by subst hy0;exact p3
  have t4:∀x,Hs S x→x.cell? ⟨pb,3,none⟩=some (.int .i64 XW):=fun x h=>by subst hSe;rcases h with rfl | rfl<;>simp[go_sem,s4]
  have f0':y0.cell? ⟨g,k*4,none⟩=some (.int .i64 l[k].h.t):=by subst hy0;exact f0
  have f1':y0.cell? ⟨g,k*4+1,none⟩=some (.int .i64 l[k].h.r):=by subst hy0;exact f1
  have f2':y0.cell? ⟨g,k*4+2,none⟩=some (.slice l[k].a l[k].h.q.length l[k].c):=by subst hy0;exact f2
  have f3':y0.cell? ⟨g,k*4+3,none⟩=some (.int .i64 l[k].h.W):=by subst hy0;exact f3
  have fz':∀j,y0.frozen? ⟨g,j,none⟩=false:=by subst hy0;exact fz
  have hS0:Hs S y2.drew:=by rw[hy0,hSe];exact .inl rfl
  have hS1:Hs S ((((y0.setCell ⟨g,k*4,none⟩ (.int .i64 Xt)).setCell ⟨g,k*4+1,none⟩ (.int .i64 Xr)).setCell ⟨g,k*4+2,none⟩ (.slice a2 q.length n2)).setCell ⟨g,k*4+3,none⟩ (.int .i64 XW)):=by rw[hSe];exact .inr rfl
  clear hSe
  refine Zp (.take (.take (.take (.take (.take (.take (.take (.off (.go1 .fin))))))))) (Hs S) (by kernel_rfl) (by kernel_rfl) (by kernel_rfl) hS0 ?_
  rw[hy0]
  iterate 7 (refine HP.take' ?_;(first | (refine⟨undef,Or.inr ⟨by rfl,rfl⟩,?_⟩) | (apply Exists.intro;refine⟨Or.inl ⟨by rfl,?_⟩,?_⟩;(intro x hx';go_simp;first | done | with_reducible rfl)));(try simp only[Act.put,List.setIfInBounds_toArray,List.set_cons_zero,List.set_cons_succ]))
  refine HP.off ?_
  refine HP.go1 (fun KK hKK=>?_)
  go_simp
  refine hKK.out _ _ hS1 ?_
  intro _
  clear hKK KK
  (try simp only[Act.put,List.setIfInBounds_toArray,List.set_cons_zero,List.set_cons_succ])
  refine HP.end_ ?_
  refine NoPanic.normal ?_
  have hz3:((((y2.setCell ⟨g,k*4,none⟩ (.int .i64 Xt)).setCell ⟨g,k*4+1,none⟩ (.int .i64 Xr)).setCell ⟨g,k*4+2,none⟩ (.slice a2 q.length n2)).setCell ⟨g,k*4+3,none⟩ (.int .i64 XW)).drew=((((y0.setCell ⟨g,k*4,none⟩ (.int .i64 Xt)).setCell ⟨g,k*4+1,none⟩ (.int .i64 Xr)).setCell ⟨g,k*4+2,none⟩ (.slice a2 q.length n2)).setCell ⟨g,k*4+3,none⟩ (.int .i64 XW)):=by subst hy0;rfl
  rw[←hz3]
  clear hz3 hS0 hS1 t0 t1 t2 t3 t4 s0 s1 s2 s3 s4 f0' f1' f2' f3' fz' hy0
  have hQt:=HQ.out.tch
  clear c2 f0 f1 f2 f3 p0 p1 p2 p3 fz hb2' HV HW
  generalize ((((y2.setCell ⟨g,k*4,none⟩ (.int .i64 Xt)).setCell ⟨g,k*4+1,none⟩ (.int .i64 Xr)).setCell ⟨g,k*4+2,none⟩ (.slice a2 q.length n2)).setCell ⟨g,k*4+3,none⟩ (.int .i64 XW))=y3 at *
  obtain⟨z3,hz3⟩:∃z,y3.drew=z:=⟨_,rfl⟩
  have hd3:Nw y3 z3:=by subst hz3;exact(Nw.refl _).dr
  rw[hz3]
  clear hz3
  have HQ3:=hD0 (HQ.out.nw hd3)
  have hR3:=HQ3.out.rb
  obtain⟨L3,hL3⟩:∃L3,l.set k ⟨⟨Xt,Xr,XW,(Zc q).2⟩,a2,n2⟩=L3:=⟨_,rfl⟩
  have hL3l:L3.length=l.length:=by rw[←hL3,List.length_set]
  have hL6:L3.take k++L3.drop (k+1)=l.take k++l.drop (k+1):=by
   rw[←hL3,List.take_set_of_le (Nat.le_refl k),List.drop_set_of_lt (Nat.lt_succ_self k)]
  rw[hL3] at HQ3 hR3
  rw[←hL3l] at hR3
  have hb4:=hd3.at' hb3
  have his4:=onw his3 hd3
  have hpre:=Yz.rd Y6.len (Zcv hR3.own rfl (i:=k) (by omega))
  have hcap3:=Ur hR3.own
  have hrdc:=Z7m hR3.own
  have c2:=hR3.c2
  rw[hL3l] at c2
  have p2:z3.cell? ⟨pb,2,none⟩=some (.slice a2 q.length n2):=Z0 hb4
  have hol3:=hR3.ol
  have hgl3:g<z3.heap.size:=olt hR3.own rfl
  have htk:(L3.take k).length=k:=by rw[List.length_take];omega
  obtain⟨v4,w4,hrun4,hO4,hN4⟩:=U4 Y6 hpre (by omega)
  obtain⟨nx,hnx⟩:∃nx:Nat,k+1=nx:=⟨_,rfl⟩
  have hdl:(L3.drop (k+1)).length=l.length-nx:=by rw[List.length_drop,hL3l,hnx]
  obtain⟨ad,had,hadc⟩:∃ad:Addr,(if c=k+1 then(⟨g,0,none⟩:Addr) else⟨g,(k+1)*4,none⟩)=ad∧∀j u,(Z6 Zm (L3.drop (k+1)))[j]?=some u→w4.cell? (ad.add j)=some u:=⟨_,rfl,Zng (hrdc.nw hN4) (by omega) (by omega)⟩
  obtain⟨v5,w5,hrun5,hO5,hg5,hbk5⟩:=Yz.many Y6 hO4 (L3.drop (k+1)) ad (c-nx) hadc (by omega) hN4.sz
  rw[hdl] at hrun5
  obtain⟨a5,c5,hv5⟩:=(Yz.rd Y6.len hO5).form
  obtain⟨n5,hn5⟩:∃n,(L3.take k++L3.drop (k+1)).length=n:=⟨_,rfl⟩
  rw[hn5] at hv5
  subst hv5
  have hN5:Nw z3 w5:=hN4.gro hg5 (fun b hb=>Vr hO4 hb)
  have hR6:=hR3.row hN5 hO5 (Nat.le_refl _) (fun x hx=>.inl (by
   rcases List.mem_append.1 hx with q | q
   ·exact List.mem_of_mem_take q
   ·exact List.mem_of_mem_drop q)) (by rw[List.length_append];omega) pg
  rw[hL3l,hL6] at hR6
  have HR6:=hD0 (HQ3.out.then hR6)
  have his6:=Vf (S:=fun b=>b=o) (onw his4 hN5) (Zi w5 ⟨o,2,none⟩ (.slice a5 n5 c5)) (fun g' hg e=>by have:=HI.out.2 g' hg;omega)
  have HI6:=hD0 his6
  have HR4:=hD0 hrun4
  have HR5:=hD0 hrun5
  have c2':=hN4.kp c2
  have c2'':=hN5.kp c2
  have fzo:=fun j=>(hR3.nw hN5).fz j
  have hol4:o<w4.heap.size:=lL0 hol3 hN4.sz
  have hol5:o<w5.heap.size:=lL0 hol3 hN5.sz
  have hgl4:g<w4.heap.size:=lL0 hgl3 hN4.sz
  have k1:(k:Int)+1=(nx:Int):=by omega
  have k3:nx≤c:=by omega
  have k4:(nx:Int)≤(l.length:Int):=by omega
  have k5:(l.length:Int)≤(c:Int):=by omega
  have k6:((l.length:Int)-(nx:Int)).toNat=l.length-nx:=by omega
  have k7:k≤c:=by omega
  have hkc:(k:Int)≤(c:Int):=by omega
  have hkn:IntKind.i64.wrap ((k:Int)+1)=(nx:Int):=by rw[IntKind.wrap_i64]<;>omega
  have hkn2:IntKind.i64.wrap (nx:Int)=(nx:Int):=by rw[IntKind.wrap_i64]<;>omega
  rw[hnx] at had
  clear hR3 hQt hd3 HQ3 hL3 hL3l hL6 hb4 his4 hpre hrdc htk hrun4 hO4 hdl hadc hrun5 hO5 hg5 hbk5 hR6 his6 hN4 hN5 hb3 his3 hlb hgl2 hol2 ht3 hnx hn5
  by_cases hcn:c=nx
  ·rw[if_pos hcn] at had
   subst had
   go_wp2_with (at_builtin;first | (refine Z5 (by rfl) (.tmp 25) (.tmp 31) 40 rfl _ _ _ _ rfl rfl HR4.out ?_) | (refine Z5 (by rfl) (.tmp 34) (.tmp 41) 40 rfl _ _ _ _ (by first | rfl | simp[Act.eval, *]) (by first | rfl | simp[Act.eval, *]) HR5.out ?_))
   refine bodyPost_ret (v:=vi) (by simp[results,results139,go_sem, *]) rfl ?_
   exact⟨_,rfl,HI6.out,.slice a5 n5 c5,l.take k++l.drop (k+1),HE.out.symm,HR6.out⟩
  ·rw[if_neg hcn] at had
   subst had
   go_wp2_with (at_builtin;first | (refine Z5 (by rfl) (.tmp 25) (.tmp 31) 40 rfl _ _ _ _ rfl rfl HR4.out ?_) | (refine Z5 (by rfl) (.tmp 34) (.tmp 41) 40 rfl _ _ _ _ (by first | rfl | simp[Act.eval, *]) (by first | rfl | simp[Act.eval, *]) HR5.out ?_))
   refine bodyPost_ret (v:=vi) (by simp[results,results139,go_sem, *]) rfl ?_
   exact⟨_,rfl,HI6.out,.slice a5 n5 c5,l.take k++l.drop (k+1),HE.out.symm,HR6.out⟩
 ·have hE:Yy (Z3 l) ⟨Xt,Xr,XW,q⟩=Z3 (l.set k ⟨⟨Xt,Xr,XW,(Zc q).2⟩,a2,n2⟩):=by
   unfold Yy
   rw[if_neg (fun e=>hq (by rw[←HSl.out];show(scH ⟨Xt,Xr,XW,q⟩).q.length=0;rw[e];rfl))]
   exact hput
  have HE:=hD0 hE
  have hqd:((q.length:Int)==0)=false:=by simpa using hq
  clear hE hput hNy
  refine wp_region_still_tail 7 (by kernel_rfl) (by kernel_rfl) ?_
  simp only[List.take_succ_cons,List.take_zero,List.drop_succ_cons,List.drop_zero]
  iterate 7 still_step
  try refine wpStill_nil ?_
  change wpList _ _ _ _ _ y2.drew
  go_wp2
  go_ret
  refine⟨_,rfl,?_,.slice (some ⟨g,0,none⟩) l.length c,_,HE.out.symm,HQ.out.nw (Nw.refl _).dr⟩
  refine onw (Vf HI.out.1 (S:=fun b=>b=g) ?_ ?_) (Nw.refl _).dr
  ·exact((((Z4.refl (fun b=>b=g) y2).set (p:=⟨g,k*4,none⟩) (.inl rfl) _).set (p:=⟨g,k*4+1,none⟩) (.inl rfl) _).set (p:=⟨g,k*4+2,none⟩) (.inl rfl) _).set (p:=⟨g,k*4+3,none⟩) (.inl rfl) _
  ·intro g' hg e
   have:=HI.out.2 g' hg
   omega
open Go.Shelf
abbrev U8(w:World)(g cap:Nat)(l:List Int):Prop:=IS w (.slice (some ⟨g,0,none⟩) l.length cap) l
theorem Z4d{w:World}{g cap:Nat}{l:List Int}(h:U8 w g cap l)(i:Nat)(hi:i<l.length):w.cell? ⟨g,i,none⟩=some (.int .i64 (V1 l i)):=IS.cell h i hi
theorem U9{w:World}{g cap:Nat}{l:List Int}(h:U8 w g cap l):l.length≤cap∧cap≤maxLen:=by
 rcases h.2 with⟨h',_⟩ | ⟨g',cap',cur,h',_,_,h1,h2,_⟩
 ·simp at h'
 ·simp only[Value.slice.injEq] at h'
  obtain⟨_,_,rfl⟩:=h'
  exact⟨h1,h2⟩
theorem Z5g{w w':World}{g cap:Nat}{l:List Int}(h:U8 w g cap l)(e:w'.heap[g]?=w.heap[g]?):U8 w' g cap l:=by
 refine⟨h.1,?_⟩
 rcases h.2 with⟨h',_⟩ | ⟨g',cap',cur,h',hb,hg,rest⟩
 ·simp at h'
 ·have h2:=h'
  simp only[Value.slice.injEq,Option.some.injEq,Addr.mk.injEq,and_true,true_and] at h2
  obtain⟨rfl,rfl⟩:=h2
  exact .inr ⟨g,cap,cur,h',hb,e.trans hg,rest⟩
theorem Zv4{w:World}{g cap:Nat}{l:List Int}(h:U8 w g cap l)(i:Nat)(x:Int):U8 (w.setCell ⟨g,i,none⟩ (.int .i64 x)) g cap (l.set i x):=by
 have:=IS.set h i x
 unfold U8
 rw[List.length_set]
 exact this
theorem Zz0{S:Nat→Prop}{w w':World}{g cap:Nat}{l:List Int}(h:U8 w g cap l)(k:Z4 S w w')(hn:¬S g):U8 w' g cap l:=Z5g h (k.block g (IS.glt h) hn)
theorem Z1e(a:Option Addr)(n c:Nat)(w:World):Calls prog 124 #[.slice a n c] w fun e w'=>e=.returned (.int .i64 n)∧w=w':=by
 go_enter func124,ntmps124
 go_wp2
 go_ret
 exact⟨rfl,rfl⟩
theorem Z1f(g cap:Nat)(l:List Int)(i j:Nat)(hi:i<l.length)(hj:j<l.length)(w:World)(h:U8 w g cap l) :
  Calls prog 281 #[.slice (some ⟨g,0,none⟩) l.length cap,.int .i64 i,.int .i64 j] w fun e w'=>e=.returned (.bool (Z3a (V1 l i) (V1 l j)))∧Nw w w':=by
 have hm:=Nat.le_trans (U9 h).1 (U9 h).2
 unfold maxLen at hm
 have a0:=Z4d h i hi
 have b0:=Z4d h j hj
 generalize l.length=N at *
 unfold Z3a
 generalize V1 l i=A at *
 generalize V1 l j=B at *
 clear h
 go_enter func281,ntmps281
 go_wp2
 go_quiet (fail)
 go_wp2
 go_ret
 exact⟨rfl,(Nw.refl w).drewN _⟩
theorem Zz1(w:World)(g a b:Nat)(va vb:Value):Z4 (fun k=>k=g) w ((w.setCell ⟨g,a,none⟩ va).setCell ⟨g,b,none⟩ vb).drew :=
 Z4.drew (Z4.set (p:=⟨g,b,none⟩) (Z4.set (p:=⟨g,a,none⟩) (Z4.refl (fun k=>k=g) w) (.inl rfl) va) (.inl rfl) vb)
theorem Z1h(g cap:Nat)(l:List Int)(i j:Nat)(hi:i<l.length)(hj:j<l.length)(w:World)(h:U8 w g cap l) :
  Calls prog 283 #[.slice (some ⟨g,0,none⟩) l.length cap,.int .i64 i,.int .i64 j] w fun e w'=>e=.returned (.tuple #[])∧U8 w' g cap (Z39 l i j)∧Z4 (fun k=>k=g) w w':=by
 have hm:=Nat.le_trans (U9 h).1 (U9 h).2
 unfold maxLen at hm
 have a0:=Z4d h i hi
 have b0:=Z4d h j hj
 have hg:=IS.glt h
 have fz:=IS.frozen h
 have HR:Hid (U8 ((w.setCell ⟨g,i,none⟩ (.int .i64 (V1 l j))).setCell ⟨g,j,none⟩ (.int .i64 (V1 l i))) g cap (Z39 l i j)):=Zv4 (Zv4 h i (V1 l j)) j (V1 l i)
 generalize l.length=N at *
 generalize V1 l i=A at *
 generalize V1 l j=B at *
 clear h
 by_cases e:i=j
 ·subst e
  obtain rfl:A=B:=by rw[a0] at b0;simpa using b0
  go_enter func283,ntmps283
  go_wp2
  go_region
  go_wp2
  go_end0
  exact⟨rfl,Z5g HR.out rfl,Zz1 _ _ _ _ _ _⟩
 ·have e':¬j=i:=fun q=>e q.symm
  go_enter func283,ntmps283
  go_wp2
  go_region
  go_wp2
  go_end0
  exact⟨rfl,Z5g HR.out rfl,Zz1 _ _ _ _ _ _⟩
theorem Zs9 : ((prog.info? 133).map fun i => ((i.methods.find? (·.name == "Len")).map fun m => (m.path, m.func))) = some (some (#[⟨129, 0, true⟩], some (124, false))) := by kernel_rfl
theorem Znt : ((prog.info? 133).map fun i => ((i.methods.find? (·.name == "Less")).map fun m => (m.path, m.func))) = some (some (#[⟨129, 0, true⟩], some (281, false))) := by kernel_rfl
theorem Znv : ((prog.info? 133).map fun i => ((i.methods.find? (·.name == "Swap")).map fun m => (m.path, m.func))) = some (some (#[⟨129, 0, true⟩], some (283, false))) := by kernel_rfl
theorem Znu : ((prog.info? 133).map fun i => ((i.methods.find? (·.name == "Push")).map fun m => (m.path, m.func))) = some (some (#[], some (285, true))) := by kernel_rfl
theorem Zsa : ((prog.info? 133).map fun i => ((i.methods.find? (·.name == "Pop")).map fun m => (m.path, m.func))) = some (some (#[], some (284, true))) := by kernel_rfl
theorem Z5d(name:String)(f:Nat)(h:((prog.info? 133).map fun i=>((i.methods.find? (·.name==name)).map fun m=>(m.path,m.func)))=some (some (#[⟨129,0,true⟩],some (f,false))))
  (w:World) (b o:Nat) (v:Value) (hc:w.cell? ⟨b,o,none⟩=some v) (n:Nat):Sem.run prog (method (n+1) 133 (.pointer (some ⟨b,o,none⟩)) name) w=.ok (f,v) w:=by
 obtain⟨i,hi,h⟩:=Option.map_eq_some_iff.1 h
 obtain⟨m,hm,h⟩:=Option.map_eq_some_iff.1 h
 simp only[Prod.mk.injEq] at h
 obtain⟨hp,hf⟩:=h
 have hu:=underlying133
 have hu2:=underlying129
 have hu3:=underlying127
 simp[method,typeInfo,hi,hm,hp,hf,follow,receiverAt,Place.get,fieldPlace,go_sem,hc]
theorem Z97(name:String)(f:Nat)(h:((prog.info? 133).map fun i=>((i.methods.find? (·.name==name)).map fun m=>(m.path,m.func)))=some (some (#[],some (f,true))))
  (w:World) (v:Value) (n:Nat):Sem.run prog (method (n+1) 133 v name) w=.ok (f,v) w:=by
 obtain⟨i,hi,h⟩:=Option.map_eq_some_iff.1 h
 obtain⟨m,hm,h⟩:=Option.map_eq_some_iff.1 h
 simp only[Prod.mk.injEq] at h
 obtain⟨hp,hf⟩:=h
 have hu:=underlying133
 simp[method,typeInfo,hi,hm,hp,hf,follow,receiverAt,Place.get,go_sem]
theorem Zns (w : World) (b o : Nat) (v : Value) (hc : w.cell? ⟨b, o, none⟩ = some v) : ∀ n, Sem.run prog (method (n + 1) 133 (.pointer (some ⟨b, o, none⟩)) "Len") w = .ok (124, v) w := Z5d _ _ Zs9 w b o v hc
theorem Z4b (w : World) (b o : Nat) (v : Value) (hc : w.cell? ⟨b, o, none⟩ = some v) : ∀ n, Sem.run prog (method (n + 1) 133 (.pointer (some ⟨b, o, none⟩)) "Less") w = .ok (281, v) w := Z5d _ _ Znt w b o v hc
theorem Z4c (w : World) (b o : Nat) (v : Value) (hc : w.cell? ⟨b, o, none⟩ = some v) : ∀ n, Sem.run prog (method (n + 1) 133 (.pointer (some ⟨b, o, none⟩)) "Swap") w = .ok (283, v) w := Z5d _ _ Znv w b o v hc
theorem Zs8 (w : World) (v : Value) : ∀ n, Sem.run prog (method (n + 1) 133 v "Push") w = .ok (285, v) w := Z97 _ _ Znu w v
theorem Zwp (w : World) (v : Value) : ∀ n, Sem.run prog (method (n + 1) 133 v "Pop") w = .ok (284, v) w := Z97 _ _ Zsa w v
theorem Znq:∀args w,(callFunc 124 args).run prog w=.ok (.enter 124 args) w:=enters_of func124 (by kernel_rfl) rfl
theorem Zhq:∀args w,(callFunc 281 args).run prog w=.ok (.enter 281 args) w:=enters_of func281 (by kernel_rfl) rfl
theorem Zav:∀args w,(callFunc 283 args).run prog w=.ok (.enter 283 args) w:=enters_of func283 (by kernel_rfl) rfl
theorem Zs6:∀args w,(callFunc 285 args).run prog w=.ok (.enter 285 args) w:=enters_of func285 (by kernel_rfl) rfl
theorem Zwo:∀args w,(callFunc 284 args).run prog w=.ok (.enter 284 args) w:=enters_of func284 (by kernel_rfl) rfl
structure Ym(w:World)(hb ho g cap:Nat)(l:List Int):Prop where
 hd:w.cell? ⟨hb,ho,none⟩=some (.slice (some ⟨g,0,none⟩) l.length cap)
 hf:w.frozen? ⟨hb,ho,none⟩=false
 row:U8 w g cap l
 ne:hb≠g
theorem Ym.lt{w:World}{hb ho g cap:Nat}{l:List Int}(h:Ym w hb ho g cap l):hb<w.heap.size:=World.block_lt_of_cell? _ ⟨hb,ho,none⟩ h.hd
theorem Ym.nw{w w':World}{hb ho g cap:Nat}{l:List Int}(h:Ym w hb ho g cap l)(k:Nw w w'):Ym w' hb ho g cap l :=
 ⟨(k.cell h.lt).trans h.hd,(World.frozen?_of_block (k.block hb h.lt)).trans h.hf,Z5g h.row (k.block g (IS.glt h.row)),h.ne⟩
theorem Ym.tch{S:Nat→Prop}{w w':World}{hb ho g cap:Nat}{l:List Int}(h:Ym w hb ho g cap l)(k:Z4 S w w')(h1:¬S hb)(h2:¬S g):Ym w' hb ho g cap l :=
 ⟨(k.cell h.lt h1).trans h.hd,(k.froz h.lt h1).trans h.hf,Zz0 h.row k h2,h.ne⟩
theorem Ym.turned{w w':World}{hb ho g cap:Nat}{l l':List Int}(h:Ym w hb ho g cap l)(k:Z4 (fun k=>k=g) w w')(r:U8 w' g cap l')(hl:l'.length=l.length):Ym w' hb ho g cap l' :=
 ⟨by rw[hl];exact(k.cell h.lt h.ne).trans h.hd,(k.froz h.lt h.ne).trans h.hf,r,h.ne⟩
def Vz(hb ho:Nat)(w w':World):Prop:=∀o,o≠ho→w'.cell? ⟨hb,o,none⟩=w.cell? ⟨hb,o,none⟩∧w'.frozen? ⟨hb,o,none⟩=w.frozen? ⟨hb,o,none⟩
theorem Vz.trans{hb ho:Nat}{a b c:World}(h:Vz hb ho a b)(k:Vz hb ho b c):Vz hb ho a c:=fun o e=>⟨(k o e).1.trans (h o e).1,(k o e).2.trans (h o e).2⟩
theorem Vz.tch{hb ho:Nat}{S:Nat→Prop}{a b:World}(h:Z4 S a b)(hl:hb<a.heap.size)(hn:¬S hb):Vz hb ho a b:=fun _ _=>⟨h.cell hl hn,h.froz hl hn⟩
theorem Vz.set{hb ho:Nat}(a:World)(v:Value):Vz hb ho a (a.setCell ⟨hb,ho,none⟩ v):=fun o e=>⟨World.cell?_setCell_other _ _ _ _ (fun q=>e (by simpa using q.symm)),by rw[World.frozen?_setCell]⟩
def Zqs(w:World)(hb ho g cap n:Nat)(l:List Int)(w':World):Prop :=
 ∃l':List Int,l'.Perm l∧(∀k,n≤k→V1 l' k=V1 l k)∧IHp (V1 l') n∧Ym w' hb ho g cap l'∧Z4 (fun k=>k=g) w w'
theorem Z95(l:List Int){i j k:Nat}(hi:i<l.length)(hj:j<l.length)(h:k≠i)(h':k≠j):V1 (Z39 l i j) k=V1 l k:=by rw[Z6h l hi hj,Z0x _ h h']
theorem Zse(hb ho g cap:Nat)(l:List Int)(n j:Nat)(hjn:j<n)(hn:n≤l.length)(w:World)(h:Ym w hb ho g cap l)(hex:IEx (V1 l) n j)(hgr:IGr (V1 l) n j)(hch:ICh (V1 l) n j) :
  Calls prog 134 #[.iface 133 (.pointer (some ⟨hb,ho,none⟩)),.int .i64 j] w fun e w'=>e=.returned (.tuple #[])∧Zqs w hb ho g cap n l w':=by
 have hm:=Nat.le_trans (U9 h.row).1 (U9 h.row).2
 unfold maxLen at hm
 have H0:=hD0 (aI0 h (aI0 hex (aI0 hgr hch)))
 clear h hex hgr hch
 have el:=Zhq
 have es:=Zav
 go_enter func134,ntmps134
 go_wp2
 go_loopw [1] (fun vj wr=>∃(k:Nat) (l':List Int),vj=.int .i64 k∧k<n∧l'.length=l.length∧Hid (l'.Perm l∧(∀x,n≤x→V1 l' x=V1 l x)∧IEx (V1 l') n k∧IGr (V1 l') n k∧ICh (V1 l') n k∧Ym wr hb ho g cap l'∧Z4 (fun x=>x=g) w wr)) (fun vj _=>(intOf vj).toNat)
 case atStart=>exact⟨j,l,rfl,hjn,rfl,.refl _,fun _ _=>rfl,H0.out.2.1,H0.out.2.2.1,H0.out.2.2.2,H0.out.1,Z4.refl _ _⟩
 case round =>
  obtain⟨k,l',rfl,hk,hl,HR⟩:=hrel
  have hc:=HR.out.2.2.2.2.2.1.hd
  rw[hl] at hc
  have mL:=Z4b wr _ _ _ hc
  rcases Nat.eq_zero_or_pos k with rfl | hk0
  ·go_wp2
   go_end0
   exact⟨rfl,l',HR.out.1,HR.out.2.1,IHp.of HR.out.2.2.1 HR.out.2.2.2.2.1 (fun h=>absurd h (by omega)),HR.out.2.2.2.2.2⟩
  ·obtain⟨i,hi⟩:∃i,(k-1)/2=i:=⟨_,rfl⟩
   have hi':((k:Int)-1)/2=(i:Int):=by omega
   have hik:¬i=k:=by omega
   have hik':((i:Int)==(k:Int))=false:=by simp;omega
   have HL:=Z1f g cap l' k i (by omega) (by omega) wr HR.out.2.2.2.2.2.1.row
   rw[hl,←hi'] at HL
   have Hi':=hD0 hi'
   have Hi:=hD0 hi
   clear hi'
   cases hlt:Z3a (V1 l' k) (V1 l' i) with
   | true =>
    rw[hlt] at HL
    have Hlt:=hD0 hlt
    clear hlt
    go_wp2_with fail
    refine HL.mono ?_
    rintro e w1 ⟨rfl,hg1⟩
    have h1:=HR.out.2.2.2.2.2.1.nw hg1
    have hc1:=h1.hd
    rw[hl] at hc1
    have mS:=Z4c w1 _ _ _ hc1
    have HS:=Z1h g cap l' i k (by omega) (by omega) w1 h1.row
    rw[hl,←Hi'.out] at HS
    have H1:=hD0 h1
    clear h1 mL
    go_wp2_with fail
    refine HS.mono ?_
    rintro e w2 ⟨rfl,hr2,ht2⟩
    have H2:=hD0 (H1.out.turned ht2 hr2 (Vt _ _ _))
    have T2:=hD0 (HR.out.2.2.2.2.2.2.trans ((Z4.nw (S:=fun x=>x=g) hg1).trans ht2))
    have U:=hD0 (Zo0 Hi.out hk0 hk HR.out.2.2.1 HR.out.2.2.2.1 HR.out.2.2.2.2.1 Hlt.out)
    clear hr2 ht2 mS hc hc1
    go_wp2
    go_roundw
    case rel =>
     have hs:=Z6h l' (i:=i) (j:=k) (by omega) (by omega)
     refine⟨i,Z39 l' i k,by rw[Hi'.out],by omega,by rw[Vt];exact hl,(Z5f l' (by omega) (by omega)).trans HR.out.1,fun x hx=>?_,?_,?_,?_,H2.out,T2.out⟩
     ·rw[Z95 l' (by omega) (by omega) (by omega) (by omega)];exact HR.out.2.1 x hx
     ·rw[hs];exact U.out.1
     ·rw[hs];exact U.out.2.1
     ·rw[hs];exact U.out.2.2
    case measure=>simp[intOf];omega
   | false =>
    rw[hlt] at HL
    have Hlt:=hD0 hlt
    clear hlt
    go_wp2_with fail
    refine HL.mono ?_
    rintro e w1 ⟨rfl,hg1⟩
    have H1:=hD0 (HR.out.2.2.2.2.2.1.nw hg1)
    have T1:=hD0 (HR.out.2.2.2.2.2.2.trans (Z4.nw hg1))
    clear mL hc
    go_wp2
    go_end0
    exact⟨rfl,l',HR.out.1,HR.out.2.1,IHp.of HR.out.2.2.1 HR.out.2.2.2.2.1 (fun _=>by rw[Hi.out];exact Hlt.out),H1.out,T1.out⟩
end Go.Proofs.YtpffldfpabglbaaGreatDoor
