/- Texts merged: WcM, WdI, WdG, WeM, WeD, QvA, QuJ, QvC, QsA, QvB, QvD, QuN, QvI, QvO, QvK -/
import Derived.Test.YtbefaomgldckdaaVictimNamesB5
import Derived.Maps.RangeWalk
import Derived.Lib.SliceRun
import Derived.Deep.Upon
import Derived.Deep.RegionLaw
set_option linter.unusedVariables false
set_option maxRecDepth 100000
set_option maxHeartbeats 16000000
namespace Go.Proofs.Ytbefaomgldckdaa
open Go.RowKit _root_.Go.Proofs.Try
section
open Go.RowKit Go.Sort Go.Shelf
theorem Z04(x y:Int × Int)(w:World):Calls prog 33 #[.agg (Zi x).toArray,.agg (Zi y).toArray] w fun e w'=>e=.returned (.int .i64 (Z2e x y))∧GG w w':=by
 obtain⟨t,r⟩:=x
 obtain⟨t',r'⟩:=y
 simp only[Zi,Z2e]
 go_enter func33,ntmps33
 go_wp2
 go_region_held3 (fun w'=>Z5v w t r t' r' w') (first | assumption | exact Z2v w t r t' r' _ | exact Vp (by assumption) (by assumption) | exact Vp ((GG.refl _).alloc _) (by assumption) | exact Vp (GG.refl _).drew (by assumption))
  (first | (go_at_call 19;refine(U8 _ _ _).mono ?_;rintro e w' ⟨rfl,rfl⟩) | (go_at_call 17;refine(Z8r _ (cP t t') (cP r r') _ (by simp[go_sem]) (by simp[go_sem])).mono ?_;rintro e w' ⟨rfl,rfl⟩))
 all_goals
  rename_i hS
  go_wp2
  go_ret
  exact⟨rfl,hS.2.2⟩
theorem Z4r:∀args w,(callFunc 33 args).run prog w=.ok (.enter 33 args) w:=enters_of func33 (by kernel_rfl) rfl
structure OnI(W0:World)(l:List (Int × Int))(v:Value)(k:Nat)(out:List (Int × Int))(w:World):Prop where
 own:Za w W0.heap.size v out
 nw:Nw W0 w
 on:Y5 l k out
theorem Z0i{W0:World}{v:Value}{l:List (Int × Int)}(h:Zl W0 v l)(hl:l.length≤5000)(hw:Z4a l) :
  Calls prog 34 #[v] W0 fun e w'=>∃v' out,e=.returned v'∧Za w' W0.heap.size v' out∧Nw W0 w'∧Y5 l l.length out:=by
 have HW:=hD0 hw
 obtain⟨ea,ec,rfl,hed⟩:=h
 have HD:=hD0 hed
 obtain⟨n,hn⟩:∃n,l.length=n:=⟨_,rfl⟩
 have HN:=hD0 hn
 rw[hn] at hl ⊢
 clear hw hed hn
 go_enter func34,ntmps34
 go_wp2_with fail
 go_loopw [3,8] (fun v3 v8 wr=>∃(k:Nat) (out:List (Int × Int)) (a:Option Addr) (b c:Nat),v3=.slice a b c∧v8=.int .i64 k∧k≤n∧Hid (OnI W0 l (.slice a b c) k out wr)) (fun _ v8 _=>n-(intOf v8).toNat)
 case atStart=>exact⟨0,[],none,0,0,rfl,rfl,Nat.zero_le _,World.ownsRow_nil _ _ _ _,Nw.refl _,Y5.start l⟩
 case round =>
  obtain⟨k,out,sa,sb,sc,rfl,rfl,hkn,HI⟩:=hrel
  by_cases hlt:k<n
  ·have hkl:k<l.length:=by rw[HN.out];exact hlt
   have Yh:=Y6 hlt
   rcases HD.out with⟨q,_⟩ | ⟨eb,eo,rfl,hrc⟩
   ·rw[q] at hkl;simp at hkl
   ·have hrw:=hrc.nw HI.out.nw
    obtain⟨x0,x1⟩:=hrw.eg hkl
    have hebl:=hrw.lt
    obtain⟨e,he⟩:∃e,l[k]=e:=⟨_,rfl⟩
    rw[he] at x0 x1
    obtain⟨ex,ey⟩:=e
    simp only at x0 x1
    have hw:=Ya k (k+1) (Nat.le_trans (Nat.le_of_lt hlt) (Nat.le_trans hl (by decide))) rfl
    obtain⟨k1,hk1⟩:∃m,k+1=m:=⟨_,rfl⟩
    have HK1:=hD0 hk1
    rw[hk1] at hw
    have HE:=hD0 he
    clear hk1 he
    go_upto_region 5 with fail
    have hal:=Z5 wr (.cells #[.int .i64 ex,.int .i64 ey] 32)
    have g4:Nw wr (wr.alloc (.cells #[.int .i64 ex,.int .i64 ey] 32)):=(Nw.refl wr).alloc _
    obtain⟨w4,hw4⟩:∃x,wr.alloc (.cells #[.int .i64 ex,.int .i64 ey] 32)=x:=⟨_,rfl⟩
    obtain⟨B,hB⟩:∃B,wr.heap.size=B:=⟨_,rfl⟩
    rw[hB] at hal ⊢
    rw[hw4] at hal g4 ⊢
    have HI4:=hD0 (show OnI W0 l (.slice sa sb sc) k out w4 from⟨onw HI.out.own g4,HI.out.nw.trans g4,HI.out.on⟩)
    have HAL:=hD0 hal
    have tB0:∀x,Nw w4 x→x.cell? ⟨B,0,none⟩=some (.int .i64 ex):=fun x g=>g.kp (Z2 (j:=0) HAL.out)
    have tB1:∀x,Nw w4 x→x.cell? ⟨B,1,none⟩=some (.int .i64 ey):=fun x g=>g.kp (Z2 (j:=1) HAL.out)
    clear hal hw4 hB x0 x1 hebl hrw
    by_cases hz:k=0
    ·subst hz
     have HO:=hD0 (show Y5 l (0+1) (out++[(ex,ey)]) from by
      have:=HI4.out.on.push HW.out hkl (.inl rfl)
      rwa [HE.out] at this)
     obtain rfl:k1=1:=HK1.out.symm
     clear g4
     refine Z9 [] (Nw w4) (by kernel_rfl) ?_
     change Z8 _ _ _ _ _ _ 11 #[false,false,false,false,false,false,false,false,false,false,false] _ w4.drew
     obtain⟨y4,hy4⟩:∃y,w4.drew=y:=⟨_,rfl⟩
     rw[hy4]
     have hS0:Nw w4 y4:=by rw[←hy4];exact(Nw.refl w4).dr
     clear hy4
     refine Z0 0 rfl (by kernel_rfl) (by kernel_rfl) (by kernel_rfl) (fun v c a w h=>h) ?_
     (first | (refine⟨undef,Or.inr ⟨by rfl,rfl⟩,?_⟩) | (apply Exists.intro;refine⟨Or.inl ⟨by rfl,?_⟩,?_⟩;(intro x hx';go_simp;first | done | with_reducible rfl)))
     (try simp only[Act.put,List.getElem_toArray,List.getElem_cons_zero,List.getElem_cons_succ,List.setIfInBounds_toArray,List.set_cons_zero,List.set_cons_succ])
     refine Z0 1 rfl (by kernel_rfl) (by kernel_rfl) (by kernel_rfl) (fun v c a w h=>h) ?_
     (first | (refine⟨undef,Or.inr ⟨by rfl,rfl⟩,?_⟩) | (apply Exists.intro;refine⟨Or.inl ⟨by rfl,?_⟩,?_⟩;(intro x hx';go_simp;first | done | with_reducible rfl)))
     (try simp only[Act.put,List.getElem_toArray,List.getElem_cons_zero,List.getElem_cons_succ,List.setIfInBounds_toArray,List.set_cons_zero,List.set_cons_succ])
     refine Z0 2 rfl (by kernel_rfl) (by kernel_rfl) (by kernel_rfl) (fun v c a w h=>h) ?_
     (first | (refine⟨undef,Or.inr ⟨by rfl,rfl⟩,?_⟩) | (apply Exists.intro;refine⟨Or.inl ⟨by rfl,?_⟩,?_⟩;(intro x hx';go_simp;first | done | with_reducible rfl)))
     (try simp only[Act.put,List.getElem_toArray,List.getElem_cons_zero,List.getElem_cons_succ,List.setIfInBounds_toArray,List.set_cons_zero,List.set_cons_succ])
     refine Z1 3 rfl (by kernel_rfl) (by kernel_rfl) (by kernel_rfl) (by kernel_rfl) (fun v c a w h=>h) hS0 ?_
     (first | (refine⟨undef,Or.inr ⟨by rfl,rfl⟩,?_⟩) | (apply Exists.intro;refine⟨Or.inl ⟨by rfl,?_⟩,?_⟩;(intro x hx';go_simp;first | done | with_reducible rfl)))
     (try simp only[Act.put,List.getElem_toArray,List.getElem_cons_zero,List.getElem_cons_succ,List.setIfInBounds_toArray,List.set_cons_zero,List.set_cons_succ])
     refine Z0 4 rfl (by kernel_rfl) (by kernel_rfl) (by kernel_rfl) (fun v c a w h=>h) ?_
     (first | (refine⟨undef,Or.inr ⟨by rfl,rfl⟩,?_⟩) | (apply Exists.intro;refine⟨Or.inl ⟨by rfl,?_⟩,?_⟩;(intro x hx';go_simp;first | done | with_reducible rfl)))
     (try simp only[Act.put,List.getElem_toArray,List.getElem_cons_zero,List.getElem_cons_succ,List.setIfInBounds_toArray,List.set_cons_zero,List.set_cons_succ])
     refine Z0 5 rfl (by kernel_rfl) (by kernel_rfl) (by kernel_rfl) (fun v c a w h=>h) ?_
     (first | (refine⟨undef,Or.inr ⟨by rfl,rfl⟩,?_⟩) | (apply Exists.intro;refine⟨Or.inl ⟨by rfl,?_⟩,?_⟩;(intro x hx';go_simp;first | done | with_reducible rfl)))
     (try simp only[Act.put,List.getElem_toArray,List.getElem_cons_zero,List.getElem_cons_succ,List.setIfInBounds_toArray,List.set_cons_zero,List.set_cons_succ])
     refine Z0 6 rfl (by kernel_rfl) (by kernel_rfl) (by kernel_rfl) (fun v c a w h=>h) ?_
     (first | (refine⟨undef,Or.inr ⟨by rfl,rfl⟩,?_⟩) | (apply Exists.intro;refine⟨Or.inl ⟨by rfl,?_⟩,?_⟩;(intro x hx';go_simp;first | done | with_reducible rfl)))
     (try simp only[Act.put,List.getElem_toArray,List.getElem_cons_zero,List.getElem_cons_succ,List.setIfInBounds_toArray,List.set_cons_zero,List.set_cons_succ])
     refine Z0 7 rfl (by kernel_rfl) (by kernel_rfl) (by kernel_rfl) (fun v c a w h=>h) ?_
     (first | (refine⟨undef,Or.inr ⟨by rfl,rfl⟩,?_⟩) | (apply Exists.intro;refine⟨Or.inl ⟨by rfl,?_⟩,?_⟩;(intro x hx';go_simp;first | done | with_reducible rfl)))
     (try simp only[Act.put,List.getElem_toArray,List.getElem_cons_zero,List.getElem_cons_succ,List.setIfInBounds_toArray,List.set_cons_zero,List.set_cons_succ])
     refine Z1 8 rfl (by kernel_rfl) (by kernel_rfl) (by kernel_rfl) (by kernel_rfl) (fun v c a w h=>h) hS0 ?_
     (first | (refine⟨undef,Or.inr ⟨by rfl,rfl⟩,?_⟩) | (apply Exists.intro;refine⟨Or.inl ⟨by rfl,?_⟩,?_⟩;(intro x hx';go_simp;first | done | with_reducible rfl)))
     (try simp only[Act.put,List.getElem_toArray,List.getElem_cons_zero,List.getElem_cons_succ,List.setIfInBounds_toArray,List.set_cons_zero,List.set_cons_succ])
     refine Z0 9 rfl (by kernel_rfl) (by kernel_rfl) (by kernel_rfl) (fun v c a w h=>h) ?_
     (first | (refine⟨undef,Or.inr ⟨by rfl,rfl⟩,?_⟩) | (apply Exists.intro;refine⟨Or.inl ⟨by rfl,?_⟩,?_⟩;(intro x hx';go_simp;first | done | with_reducible rfl)))
     (try simp only[Act.put,List.getElem_toArray,List.getElem_cons_zero,List.getElem_cons_succ,List.setIfInBounds_toArray,List.set_cons_zero,List.set_cons_succ])
     refine Z0 10 rfl (by kernel_rfl) (by kernel_rfl) (by kernel_rfl) (fun v c a w h=>h) ?_
     (first | (refine⟨undef,Or.inr ⟨by rfl,rfl⟩,?_⟩) | (apply Exists.intro;refine⟨Or.inl ⟨by rfl,?_⟩,?_⟩;(intro x hx';go_simp;first | done | with_reducible rfl)))
     (try simp only[Act.put,List.getElem_toArray,List.getElem_cons_zero,List.getElem_cons_succ,List.setIfInBounds_toArray,List.set_cons_zero,List.set_cons_succ])
     refine Z4 (by kernel_rfl) ?_ _
     refine NoPanic.normal ?_
     (try simp only[Act.put,List.getElem_toArray,List.getElem_cons_zero,List.getElem_cons_succ,List.setIfInBounds_toArray,List.set_cons_zero,List.set_cons_succ])
     have hal6:=Z5 y4 (.cells #[.int .i64 ex,.int .i64 ey] 32)
     have g6:Nw y4 (y4.alloc (.cells #[.int .i64 ex,.int .i64 ey] 32)):=(Nw.refl y4).alloc _
     obtain⟨v',w6,hr6,hO6,hg6,_,ga6,cc6,rfl⟩:=Y4.push Yx (onw (onw HI4.out.own hS0) g6) (ex,ey) y4.heap.size 1 (fun j u hu=>by
      rw[Z2 hal6]
      simpa [Zi] using hu) (by have:=HI4.out.on.len;omega) ((HI4.out.nw.trans hS0).trans g6).sz
     have HI6:=hD0 (show OnI W0 l (.slice (some ⟨ga6,0,none⟩) (out.length+1) cc6) 1 (out++[(ex,ey)]) w6 from⟨hO6,((HI4.out.nw.trans hS0).trans g6).gro hg6 (fun b e=>oge HI4.out.own e),HO.out⟩)
     have HR6:=hD0 hr6
     have hb0:=tB0 y4 hS0
     have hb1:=tB1 y4 hS0
     have hBl:=lL0 (Go.Proofs.Ytbefaomgldckdaa.hlt HAL.out) hS0.sz
     clear hal6 g6 hr6 hO6 hg6 hS0 tB0 tB1 HI4
     go_wp2_with (at_builtin;refine Zr (by rfl) (.tmp 24) (.tmp 26) 33 rfl _ _ _ _ rfl rfl HR6.out ?_)
     go_roundw
     case rel=>exact⟨1,out++[(ex,ey)],some ⟨ga6,0,none⟩,out.length+1,cc6,rfl,rfl,hlt,HI6⟩
     case measure=>(show n-(1:Int).toNat<n-((0:Nat):Int).toNat;omega)
    ·obtain⟨j,hj⟩:∃j,k=j+1:=⟨k-1,by omega⟩
     have hjl:j<l.length:=by omega
     have hrw4:=hrc.nw (HI.out.nw.trans g4)
     obtain⟨y0,y1⟩:=hrw4.eg hjl
     have hdj:=Yt k j (Nat.le_trans (Nat.le_of_lt hlt) (Nat.le_trans hl (by decide))) hj
     have hjn':(j:Int)<(n:Int):=by omega
     have hjn:j<n:=by omega
     have hz1:((k:Int)==0)=false:=by simp;omega
     have hz2:(k==0)=false:=by simp;omega
     obtain⟨f,hf⟩:∃f,l[j]=f:=⟨_,rfl⟩
     rw[hf] at y0 y1
     obtain⟨fx,fy⟩:=f
     simp only at y0 y1
     have ty0:∀x,Nw w4 x→x.cell? ⟨eb,eo+j*2,none⟩=some (.int .i64 fx):=fun x g=>g.kp y0
     have ty1:∀x,Nw w4 x→x.cell? ⟨eb,eo+j*2+1,none⟩=some (.int .i64 fy):=fun x g=>g.kp y1
     have HF:=hD0 (show ∃hj:j<l.length,k=j+1∧l[j]=(fx,fy) from⟨hjl,hj,hf⟩)
     clear g4 hrw4 y0 y1 hj hjl hf hz
     by_cases hxy:ex=fx∧ey=fy
     ·obtain⟨hx1,hy1⟩:=hxy
      subst hx1
      subst hy1
      refine Z9 [] (Nw w4) (by kernel_rfl) ?_
      change Z8 _ _ _ _ _ _ 11 #[false,false,false,false,false,false,false,false,false,false,false] _ w4.drew
      obtain⟨y4,hy4⟩:∃y,w4.drew=y:=⟨_,rfl⟩
      rw[hy4]
      have hS0:Nw w4 y4:=by rw[←hy4];exact(Nw.refl w4).dr
      clear hy4
      refine Z0 0 rfl (by kernel_rfl) (by kernel_rfl) (by kernel_rfl) (fun v c a w h=>h) ?_
      (first | (refine⟨undef,Or.inr ⟨by rfl,rfl⟩,?_⟩) | (apply Exists.intro;refine⟨Or.inl ⟨by rfl,?_⟩,?_⟩;(intro x hx';go_simp;first | done | with_reducible rfl)))
      (try simp only[Act.put,List.getElem_toArray,List.getElem_cons_zero,List.getElem_cons_succ,List.setIfInBounds_toArray,List.set_cons_zero,List.set_cons_succ])
      refine Z0 1 rfl (by kernel_rfl) (by kernel_rfl) (by kernel_rfl) (fun v c a w h=>h) ?_
      (first | (refine⟨undef,Or.inr ⟨by rfl,rfl⟩,?_⟩) | (apply Exists.intro;refine⟨Or.inl ⟨by rfl,?_⟩,?_⟩;(intro x hx';go_simp;first | done | with_reducible rfl)))
      (try simp only[Act.put,List.getElem_toArray,List.getElem_cons_zero,List.getElem_cons_succ,List.setIfInBounds_toArray,List.set_cons_zero,List.set_cons_succ])
      refine Z0 2 rfl (by kernel_rfl) (by kernel_rfl) (by kernel_rfl) (fun v c a w h=>h) ?_
      (first | (refine⟨undef,Or.inr ⟨by rfl,rfl⟩,?_⟩) | (apply Exists.intro;refine⟨Or.inl ⟨by rfl,?_⟩,?_⟩;(intro x hx';go_simp;first | done | with_reducible rfl)))
      (try simp only[Act.put,List.getElem_toArray,List.getElem_cons_zero,List.getElem_cons_succ,List.setIfInBounds_toArray,List.set_cons_zero,List.set_cons_succ])
      refine Z1 3 rfl (by kernel_rfl) (by kernel_rfl) (by kernel_rfl) (by kernel_rfl) (fun v c a w h=>h) hS0 ?_
      (first | (refine⟨undef,Or.inr ⟨by rfl,rfl⟩,?_⟩) | (apply Exists.intro;refine⟨Or.inl ⟨by rfl,?_⟩,?_⟩;(intro x hx';go_simp;first | done | with_reducible rfl)))
      (try simp only[Act.put,List.getElem_toArray,List.getElem_cons_zero,List.getElem_cons_succ,List.setIfInBounds_toArray,List.set_cons_zero,List.set_cons_succ])
      refine Z0 4 rfl (by kernel_rfl) (by kernel_rfl) (by kernel_rfl) (fun v c a w h=>h) ?_
      (first | (refine⟨undef,Or.inr ⟨by rfl,rfl⟩,?_⟩) | (apply Exists.intro;refine⟨Or.inl ⟨by rfl,?_⟩,?_⟩;(intro x hx';go_simp;first | done | with_reducible rfl)))
      (try simp only[Act.put,List.getElem_toArray,List.getElem_cons_zero,List.getElem_cons_succ,List.setIfInBounds_toArray,List.set_cons_zero,List.set_cons_succ])
      refine Z0 5 rfl (by kernel_rfl) (by kernel_rfl) (by kernel_rfl) (fun v c a w h=>h) ?_
      (first | (refine⟨undef,Or.inr ⟨by rfl,rfl⟩,?_⟩) | (apply Exists.intro;refine⟨Or.inl ⟨by rfl,?_⟩,?_⟩;(intro x hx';go_simp;first | done | with_reducible rfl)))
      (try simp only[Act.put,List.getElem_toArray,List.getElem_cons_zero,List.getElem_cons_succ,List.setIfInBounds_toArray,List.set_cons_zero,List.set_cons_succ])
      refine Z0 6 rfl (by kernel_rfl) (by kernel_rfl) (by kernel_rfl) (fun v c a w h=>h) ?_
      (first | (refine⟨undef,Or.inr ⟨by rfl,rfl⟩,?_⟩) | (apply Exists.intro;refine⟨Or.inl ⟨by rfl,?_⟩,?_⟩;(intro x hx';go_simp;first | done | with_reducible rfl)))
      (try simp only[Act.put,List.getElem_toArray,List.getElem_cons_zero,List.getElem_cons_succ,List.setIfInBounds_toArray,List.set_cons_zero,List.set_cons_succ])
      refine Z0 7 rfl (by kernel_rfl) (by kernel_rfl) (by kernel_rfl) (fun v c a w h=>h) ?_
      (first | (refine⟨undef,Or.inr ⟨by rfl,rfl⟩,?_⟩) | (apply Exists.intro;refine⟨Or.inl ⟨by rfl,?_⟩,?_⟩;(intro x hx';go_simp;first | done | with_reducible rfl)))
      (try simp only[Act.put,List.getElem_toArray,List.getElem_cons_zero,List.getElem_cons_succ,List.setIfInBounds_toArray,List.set_cons_zero,List.set_cons_succ])
      refine Z1 8 rfl (by kernel_rfl) (by kernel_rfl) (by kernel_rfl) (by kernel_rfl) (fun v c a w h=>h) hS0 ?_
      (first | (refine⟨undef,Or.inr ⟨by rfl,rfl⟩,?_⟩) | (apply Exists.intro;refine⟨Or.inl ⟨by rfl,?_⟩,?_⟩;(intro x hx';go_simp;first | done | with_reducible rfl)))
      (try simp only[Act.put,List.getElem_toArray,List.getElem_cons_zero,List.getElem_cons_succ,List.setIfInBounds_toArray,List.set_cons_zero,List.set_cons_succ])
      refine Z0 9 rfl (by kernel_rfl) (by kernel_rfl) (by kernel_rfl) (fun v c a w h=>h) ?_
      (first | (refine⟨undef,Or.inr ⟨by rfl,rfl⟩,?_⟩) | (apply Exists.intro;refine⟨Or.inl ⟨by rfl,?_⟩,?_⟩;(intro x hx';go_simp;first | done | with_reducible rfl)))
      (try simp only[Act.put,List.getElem_toArray,List.getElem_cons_zero,List.getElem_cons_succ,List.setIfInBounds_toArray,List.set_cons_zero,List.set_cons_succ])
      refine Z0 10 rfl (by kernel_rfl) (by kernel_rfl) (by kernel_rfl) (fun v c a w h=>h) ?_
      (first | (refine⟨undef,Or.inr ⟨by rfl,rfl⟩,?_⟩) | (apply Exists.intro;refine⟨Or.inl ⟨by rfl,?_⟩,?_⟩;(intro x hx';go_simp;first | done | with_reducible rfl)))
      (try simp only[Act.put,List.getElem_toArray,List.getElem_cons_zero,List.getElem_cons_succ,List.setIfInBounds_toArray,List.set_cons_zero,List.set_cons_succ])
      refine Z4 (by kernel_rfl) ?_ _
      refine NoPanic.normal ?_
      (try simp only[Act.put,List.getElem_toArray,List.getElem_cons_zero,List.getElem_cons_succ,List.setIfInBounds_toArray,List.set_cons_zero,List.set_cons_succ])
      have HS:=hD0 (show OnI W0 l (.slice sa sb sc) k1 out y4 from⟨onw HI4.out.own hS0,HI4.out.nw.trans hS0,by
       obtain⟨hjl,hj,hf⟩:=HF.out
       rw[←HK1.out]
       exact HI4.out.on.skip hkl hjl hj (by rw[HE.out,hf])⟩)
      clear hS0 tB0 tB1 ty0 ty1 HI4
      go_wp2_with fail
      go_roundw
      case rel=>exact⟨k1,out,sa,sb,sc,rfl,rfl,by rw[←HK1.out];exact hlt,HS⟩
      case measure=>rw[←HK1.out];exact Ye hlt
     ·have HO:=hD0 (show Y5 l (k+1) (out++[(ex,ey)]) from by
       obtain⟨hjl,hj,hf⟩:=HF.out
       have:=HI4.out.on.push HW.out hkl (.inr ⟨_,hjl,hj,by
        rw[HE.out,hf]
        exact fun q=>hxy ⟨congrArg Prod.fst q,congrArg Prod.snd q⟩⟩)
       rwa [HE.out] at this)
      by_cases hx:ex=fx
      ·subst hx
       have hy1:(ey==fy)=false:=by simpa using fun q=>hxy ⟨rfl,q⟩
       have hy3:¬ey=fy:=fun q=>hxy ⟨rfl,q⟩
       clear hxy
       refine Z9 [] (Nw w4) (by kernel_rfl) ?_
       change Z8 _ _ _ _ _ _ 11 #[false,false,false,false,false,false,false,false,false,false,false] _ w4.drew
       obtain⟨y4,hy4⟩:∃y,w4.drew=y:=⟨_,rfl⟩
       rw[hy4]
       have hS0:Nw w4 y4:=by rw[←hy4];exact(Nw.refl w4).dr
       clear hy4
       refine Z0 0 rfl (by kernel_rfl) (by kernel_rfl) (by kernel_rfl) (fun v c a w h=>h) ?_
       (first | (refine⟨undef,Or.inr ⟨by rfl,rfl⟩,?_⟩) | (apply Exists.intro;refine⟨Or.inl ⟨by rfl,?_⟩,?_⟩;(intro x hx';go_simp;first | done | with_reducible rfl)))
       (try simp only[Act.put,List.getElem_toArray,List.getElem_cons_zero,List.getElem_cons_succ,List.setIfInBounds_toArray,List.set_cons_zero,List.set_cons_succ])
       refine Z0 1 rfl (by kernel_rfl) (by kernel_rfl) (by kernel_rfl) (fun v c a w h=>h) ?_
       (first | (refine⟨undef,Or.inr ⟨by rfl,rfl⟩,?_⟩) | (apply Exists.intro;refine⟨Or.inl ⟨by rfl,?_⟩,?_⟩;(intro x hx';go_simp;first | done | with_reducible rfl)))
       (try simp only[Act.put,List.getElem_toArray,List.getElem_cons_zero,List.getElem_cons_succ,List.setIfInBounds_toArray,List.set_cons_zero,List.set_cons_succ])
       refine Z0 2 rfl (by kernel_rfl) (by kernel_rfl) (by kernel_rfl) (fun v c a w h=>h) ?_
       (first | (refine⟨undef,Or.inr ⟨by rfl,rfl⟩,?_⟩) | (apply Exists.intro;refine⟨Or.inl ⟨by rfl,?_⟩,?_⟩;(intro x hx';go_simp;first | done | with_reducible rfl)))
       (try simp only[Act.put,List.getElem_toArray,List.getElem_cons_zero,List.getElem_cons_succ,List.setIfInBounds_toArray,List.set_cons_zero,List.set_cons_succ])
       refine Z1 3 rfl (by kernel_rfl) (by kernel_rfl) (by kernel_rfl) (by kernel_rfl) (fun v c a w h=>h) hS0 ?_
       (first | (refine⟨undef,Or.inr ⟨by rfl,rfl⟩,?_⟩) | (apply Exists.intro;refine⟨Or.inl ⟨by rfl,?_⟩,?_⟩;(intro x hx';go_simp;first | done | with_reducible rfl)))
       (try simp only[Act.put,List.getElem_toArray,List.getElem_cons_zero,List.getElem_cons_succ,List.setIfInBounds_toArray,List.set_cons_zero,List.set_cons_succ])
       refine Z0 4 rfl (by kernel_rfl) (by kernel_rfl) (by kernel_rfl) (fun v c a w h=>h) ?_
       (first | (refine⟨undef,Or.inr ⟨by rfl,rfl⟩,?_⟩) | (apply Exists.intro;refine⟨Or.inl ⟨by rfl,?_⟩,?_⟩;(intro x hx';go_simp;first | done | with_reducible rfl)))
       (try simp only[Act.put,List.getElem_toArray,List.getElem_cons_zero,List.getElem_cons_succ,List.setIfInBounds_toArray,List.set_cons_zero,List.set_cons_succ])
       refine Z0 5 rfl (by kernel_rfl) (by kernel_rfl) (by kernel_rfl) (fun v c a w h=>h) ?_
       (first | (refine⟨undef,Or.inr ⟨by rfl,rfl⟩,?_⟩) | (apply Exists.intro;refine⟨Or.inl ⟨by rfl,?_⟩,?_⟩;(intro x hx';go_simp;first | done | with_reducible rfl)))
       (try simp only[Act.put,List.getElem_toArray,List.getElem_cons_zero,List.getElem_cons_succ,List.setIfInBounds_toArray,List.set_cons_zero,List.set_cons_succ])
       refine Z0 6 rfl (by kernel_rfl) (by kernel_rfl) (by kernel_rfl) (fun v c a w h=>h) ?_
       (first | (refine⟨undef,Or.inr ⟨by rfl,rfl⟩,?_⟩) | (apply Exists.intro;refine⟨Or.inl ⟨by rfl,?_⟩,?_⟩;(intro x hx';go_simp;first | done | with_reducible rfl)))
       (try simp only[Act.put,List.getElem_toArray,List.getElem_cons_zero,List.getElem_cons_succ,List.setIfInBounds_toArray,List.set_cons_zero,List.set_cons_succ])
       refine Z0 7 rfl (by kernel_rfl) (by kernel_rfl) (by kernel_rfl) (fun v c a w h=>h) ?_
       (first | (refine⟨undef,Or.inr ⟨by rfl,rfl⟩,?_⟩) | (apply Exists.intro;refine⟨Or.inl ⟨by rfl,?_⟩,?_⟩;(intro x hx';go_simp;first | done | with_reducible rfl)))
       (try simp only[Act.put,List.getElem_toArray,List.getElem_cons_zero,List.getElem_cons_succ,List.setIfInBounds_toArray,List.set_cons_zero,List.set_cons_succ])
       refine Z1 8 rfl (by kernel_rfl) (by kernel_rfl) (by kernel_rfl) (by kernel_rfl) (fun v c a w h=>h) hS0 ?_
       (first | (refine⟨undef,Or.inr ⟨by rfl,rfl⟩,?_⟩) | (apply Exists.intro;refine⟨Or.inl ⟨by rfl,?_⟩,?_⟩;(intro x hx';go_simp;first | done | with_reducible rfl)))
       (try simp only[Act.put,List.getElem_toArray,List.getElem_cons_zero,List.getElem_cons_succ,List.setIfInBounds_toArray,List.set_cons_zero,List.set_cons_succ])
       refine Z0 9 rfl (by kernel_rfl) (by kernel_rfl) (by kernel_rfl) (fun v c a w h=>h) ?_
       (first | (refine⟨undef,Or.inr ⟨by rfl,rfl⟩,?_⟩) | (apply Exists.intro;refine⟨Or.inl ⟨by rfl,?_⟩,?_⟩;(intro x hx';go_simp;first | done | with_reducible rfl)))
       (try simp only[Act.put,List.getElem_toArray,List.getElem_cons_zero,List.getElem_cons_succ,List.setIfInBounds_toArray,List.set_cons_zero,List.set_cons_succ])
       refine Z0 10 rfl (by kernel_rfl) (by kernel_rfl) (by kernel_rfl) (fun v c a w h=>h) ?_
       (first | (refine⟨undef,Or.inr ⟨by rfl,rfl⟩,?_⟩) | (apply Exists.intro;refine⟨Or.inl ⟨by rfl,?_⟩,?_⟩;(intro x hx';go_simp;first | done | with_reducible rfl)))
       (try simp only[Act.put,List.getElem_toArray,List.getElem_cons_zero,List.getElem_cons_succ,List.setIfInBounds_toArray,List.set_cons_zero,List.set_cons_succ])
       refine Z4 (by kernel_rfl) ?_ _
       refine NoPanic.normal ?_
       (try simp only[Act.put,List.getElem_toArray,List.getElem_cons_zero,List.getElem_cons_succ,List.setIfInBounds_toArray,List.set_cons_zero,List.set_cons_succ])
       have hal6:=Z5 y4 (.cells #[.int .i64 ex,.int .i64 ey] 32)
       have g6:Nw y4 (y4.alloc (.cells #[.int .i64 ex,.int .i64 ey] 32)):=(Nw.refl y4).alloc _
       obtain⟨v',w6,hr6,hO6,hg6,_,ga6,cc6,rfl⟩:=Y4.push Yx (onw (onw HI4.out.own hS0) g6) (ex,ey) y4.heap.size 1 (fun j u hu=>by
        rw[Z2 hal6]
        simpa [Zi] using hu) (by have:=HI4.out.on.len;omega) ((HI4.out.nw.trans hS0).trans g6).sz
       have HI6:=hD0 (show OnI W0 l (.slice (some ⟨ga6,0,none⟩) (out.length+1) cc6) k1 (out++[(ex,ey)]) w6 from⟨hO6,((HI4.out.nw.trans hS0).trans g6).gro hg6 (fun b e=>oge HI4.out.own e),by rw[←HK1.out];exact HO.out⟩)
       have HR6:=hD0 hr6
       have hb0:=tB0 y4 hS0
       have hb1:=tB1 y4 hS0
       have hBl:=lL0 (Go.Proofs.Ytbefaomgldckdaa.hlt HAL.out) hS0.sz
       clear hal6 g6 hr6 hO6 hg6 hS0 tB0 tB1 HI4 ty0 ty1
       go_wp2_with (at_builtin;refine Zr (by rfl) (.tmp 24) (.tmp 26) 33 rfl _ _ _ _ rfl rfl HR6.out ?_)
       go_roundw
       case rel=>exact⟨k1,out++[(ex,ey)],some ⟨ga6,0,none⟩,out.length+1,cc6,rfl,rfl,by rw[←HK1.out];exact hlt,HI6⟩
       case measure=>rw[←HK1.out];exact Ye hlt
      ·have hx1:(ex==fx)=false:=by simpa using hx
       clear hxy
       refine Z9 [] (Nw w4) (by kernel_rfl) ?_
       change Z8 _ _ _ _ _ _ 11 #[false,false,false,false,false,false,false,false,false,false,false] _ w4.drew
       obtain⟨y4,hy4⟩:∃y,w4.drew=y:=⟨_,rfl⟩
       rw[hy4]
       have hS0:Nw w4 y4:=by rw[←hy4];exact(Nw.refl w4).dr
       clear hy4
       refine Z0 0 rfl (by kernel_rfl) (by kernel_rfl) (by kernel_rfl) (fun v c a w h=>h) ?_
       (first | (refine⟨undef,Or.inr ⟨by rfl,rfl⟩,?_⟩) | (apply Exists.intro;refine⟨Or.inl ⟨by rfl,?_⟩,?_⟩;(intro x hx';go_simp;first | done | with_reducible rfl)))
       (try simp only[Act.put,List.getElem_toArray,List.getElem_cons_zero,List.getElem_cons_succ,List.setIfInBounds_toArray,List.set_cons_zero,List.set_cons_succ])
       refine Z0 1 rfl (by kernel_rfl) (by kernel_rfl) (by kernel_rfl) (fun v c a w h=>h) ?_
       (first | (refine⟨undef,Or.inr ⟨by rfl,rfl⟩,?_⟩) | (apply Exists.intro;refine⟨Or.inl ⟨by rfl,?_⟩,?_⟩;(intro x hx';go_simp;first | done | with_reducible rfl)))
       (try simp only[Act.put,List.getElem_toArray,List.getElem_cons_zero,List.getElem_cons_succ,List.setIfInBounds_toArray,List.set_cons_zero,List.set_cons_succ])
       refine Z0 2 rfl (by kernel_rfl) (by kernel_rfl) (by kernel_rfl) (fun v c a w h=>h) ?_
       (first | (refine⟨undef,Or.inr ⟨by rfl,rfl⟩,?_⟩) | (apply Exists.intro;refine⟨Or.inl ⟨by rfl,?_⟩,?_⟩;(intro x hx';go_simp;first | done | with_reducible rfl)))
       (try simp only[Act.put,List.getElem_toArray,List.getElem_cons_zero,List.getElem_cons_succ,List.setIfInBounds_toArray,List.set_cons_zero,List.set_cons_succ])
       refine Z1 3 rfl (by kernel_rfl) (by kernel_rfl) (by kernel_rfl) (by kernel_rfl) (fun v c a w h=>h) hS0 ?_
       (first | (refine⟨undef,Or.inr ⟨by rfl,rfl⟩,?_⟩) | (apply Exists.intro;refine⟨Or.inl ⟨by rfl,?_⟩,?_⟩;(intro x hx';go_simp;first | done | with_reducible rfl)))
       (try simp only[Act.put,List.getElem_toArray,List.getElem_cons_zero,List.getElem_cons_succ,List.setIfInBounds_toArray,List.set_cons_zero,List.set_cons_succ])
       refine Z0 4 rfl (by kernel_rfl) (by kernel_rfl) (by kernel_rfl) (fun v c a w h=>h) ?_
       (first | (refine⟨undef,Or.inr ⟨by rfl,rfl⟩,?_⟩) | (apply Exists.intro;refine⟨Or.inl ⟨by rfl,?_⟩,?_⟩;(intro x hx';go_simp;first | done | with_reducible rfl)))
       (try simp only[Act.put,List.getElem_toArray,List.getElem_cons_zero,List.getElem_cons_succ,List.setIfInBounds_toArray,List.set_cons_zero,List.set_cons_succ])
       refine Z0 5 rfl (by kernel_rfl) (by kernel_rfl) (by kernel_rfl) (fun v c a w h=>h) ?_
       (first | (refine⟨undef,Or.inr ⟨by rfl,rfl⟩,?_⟩) | (apply Exists.intro;refine⟨Or.inl ⟨by rfl,?_⟩,?_⟩;(intro x hx';go_simp;first | done | with_reducible rfl)))
       (try simp only[Act.put,List.getElem_toArray,List.getElem_cons_zero,List.getElem_cons_succ,List.setIfInBounds_toArray,List.set_cons_zero,List.set_cons_succ])
       refine Z0 6 rfl (by kernel_rfl) (by kernel_rfl) (by kernel_rfl) (fun v c a w h=>h) ?_
       (first | (refine⟨undef,Or.inr ⟨by rfl,rfl⟩,?_⟩) | (apply Exists.intro;refine⟨Or.inl ⟨by rfl,?_⟩,?_⟩;(intro x hx';go_simp;first | done | with_reducible rfl)))
       (try simp only[Act.put,List.getElem_toArray,List.getElem_cons_zero,List.getElem_cons_succ,List.setIfInBounds_toArray,List.set_cons_zero,List.set_cons_succ])
       refine Z0 7 rfl (by kernel_rfl) (by kernel_rfl) (by kernel_rfl) (fun v c a w h=>h) ?_
       (first | (refine⟨undef,Or.inr ⟨by rfl,rfl⟩,?_⟩) | (apply Exists.intro;refine⟨Or.inl ⟨by rfl,?_⟩,?_⟩;(intro x hx';go_simp;first | done | with_reducible rfl)))
       (try simp only[Act.put,List.getElem_toArray,List.getElem_cons_zero,List.getElem_cons_succ,List.setIfInBounds_toArray,List.set_cons_zero,List.set_cons_succ])
       refine Z1 8 rfl (by kernel_rfl) (by kernel_rfl) (by kernel_rfl) (by kernel_rfl) (fun v c a w h=>h) hS0 ?_
       (first | (refine⟨undef,Or.inr ⟨by rfl,rfl⟩,?_⟩) | (apply Exists.intro;refine⟨Or.inl ⟨by rfl,?_⟩,?_⟩;(intro x hx';go_simp;first | done | with_reducible rfl)))
       (try simp only[Act.put,List.getElem_toArray,List.getElem_cons_zero,List.getElem_cons_succ,List.setIfInBounds_toArray,List.set_cons_zero,List.set_cons_succ])
       refine Z0 9 rfl (by kernel_rfl) (by kernel_rfl) (by kernel_rfl) (fun v c a w h=>h) ?_
       (first | (refine⟨undef,Or.inr ⟨by rfl,rfl⟩,?_⟩) | (apply Exists.intro;refine⟨Or.inl ⟨by rfl,?_⟩,?_⟩;(intro x hx';go_simp;first | done | with_reducible rfl)))
       (try simp only[Act.put,List.getElem_toArray,List.getElem_cons_zero,List.getElem_cons_succ,List.setIfInBounds_toArray,List.set_cons_zero,List.set_cons_succ])
       refine Z0 10 rfl (by kernel_rfl) (by kernel_rfl) (by kernel_rfl) (fun v c a w h=>h) ?_
       (first | (refine⟨undef,Or.inr ⟨by rfl,rfl⟩,?_⟩) | (apply Exists.intro;refine⟨Or.inl ⟨by rfl,?_⟩,?_⟩;(intro x hx';go_simp;first | done | with_reducible rfl)))
       (try simp only[Act.put,List.getElem_toArray,List.getElem_cons_zero,List.getElem_cons_succ,List.setIfInBounds_toArray,List.set_cons_zero,List.set_cons_succ])
       refine Z4 (by kernel_rfl) ?_ _
       refine NoPanic.normal ?_
       (try simp only[Act.put,List.getElem_toArray,List.getElem_cons_zero,List.getElem_cons_succ,List.setIfInBounds_toArray,List.set_cons_zero,List.set_cons_succ])
       have hal6:=Z5 y4 (.cells #[.int .i64 ex,.int .i64 ey] 32)
       have g6:Nw y4 (y4.alloc (.cells #[.int .i64 ex,.int .i64 ey] 32)):=(Nw.refl y4).alloc _
       obtain⟨v',w6,hr6,hO6,hg6,_,ga6,cc6,rfl⟩:=Y4.push Yx (onw (onw HI4.out.own hS0) g6) (ex,ey) y4.heap.size 1 (fun j u hu=>by
        rw[Z2 hal6]
        simpa [Zi] using hu) (by have:=HI4.out.on.len;omega) ((HI4.out.nw.trans hS0).trans g6).sz
       have HI6:=hD0 (show OnI W0 l (.slice (some ⟨ga6,0,none⟩) (out.length+1) cc6) k1 (out++[(ex,ey)]) w6 from⟨hO6,((HI4.out.nw.trans hS0).trans g6).gro hg6 (fun b e=>oge HI4.out.own e),by rw[←HK1.out];exact HO.out⟩)
       have HR6:=hD0 hr6
       have hb0:=tB0 y4 hS0
       have hb1:=tB1 y4 hS0
       have hBl:=lL0 (Go.Proofs.Ytbefaomgldckdaa.hlt HAL.out) hS0.sz
       clear hal6 g6 hr6 hO6 hg6 hS0 tB0 tB1 HI4 ty0 ty1
       go_wp2_with (at_builtin;refine Zr (by rfl) (.tmp 24) (.tmp 26) 33 rfl _ _ _ _ rfl rfl HR6.out ?_)
       go_roundw
       case rel=>exact⟨k1,out++[(ex,ey)],some ⟨ga6,0,none⟩,out.length+1,cc6,rfl,rfl,by rw[←HK1.out];exact hlt,HI6⟩
       case measure=>rw[←HK1.out];exact Ye hlt
  ·obtain rfl:k=n:=Nat.le_antisymm hkn (Nat.le_of_not_lt hlt)
   have Yh:¬k<k:=Nat.lt_irrefl k
   clear hlt
   go_wp2
   go_ret
   exact⟨_,out,rfl,HI.out.own,HI.out.nw,HI.out.on⟩
theorem Weak.of{l:List (Int × Int)}(h:l.Pairwise fun a b=>ltOf Z2e b a=false):Z4a l:=h.imp (fun {a b} q=>by
 rw[U1] at q
 exact of_decide_eq_false q)
theorem Um{w:World}{v:Value}{l:List (Int × Int)}(h:Zl w v l)(hl:l.length≤5000) :
  Calls prog 20 #[v] w fun e w'=>∃v',e=.returned v'∧Za w' w.heap.size v' (sortE l)∧Nw w w':=by
 have HC:=hD0 (Z4q v l w (Nat.le_trans hl (by decide)) h)
 obtain⟨a,c,rfl⟩:=h.form
 have HL:=hD0 hl
 clear h hl
 go_enter func20,ntmps20
 go_wp2_with fail
 refine HC.out.mono ?_
 rintro e w1 ⟨v1,rfl,g1,hO1⟩
 rcases Yv hO1 with⟨rfl,hz⟩ | ⟨g,cap,rfl⟩
 ·have hl0:l=[]:=List.length_eq_zero_iff.1 hz
  have HS:=hD0 (AnyF.slices_SortFunc_none (P:=prog) { Try.sortE with } none 0 (.func (.func 33) #[] #[]) w1)
  have HOn:=hD0 (Z0i (W0:=w1) (v:=.slice none 0 0) (l:=[]) (Rd.nil w1) (by simp) List.Pairwise.nil)
  have HG:=hD0 (aI0 g1 hl0)
  clear g1 hl0 hO1 hz HC
  go_wp2_with fail
  refine Calls.mono HS.out ?_
  rintro e w2 ⟨rfl,rfl⟩
  go_wp2_with fail
  refine HOn.out.mono ?_
  rintro e w3 ⟨v3,out,rfl,hO,hN,hP⟩
  have HE:=hD0 (show Za w3 w.heap.size v3 (sortE l)∧Nw w w3 from by
   have e:out=[]:=by
    have:=hP.len
    exact List.length_eq_zero_iff.1 (Nat.le_zero.1 this)
   rw[HG.out.2]
   subst e
   exact⟨Z55 hO (fun b q=>by have:=oge hO q;have:=HG.out.1.sz;omega),HG.out.1.trans hN⟩)
  clear hO hN hP
  go_wp2
  go_ret
  exact⟨_,rfl,HE.out.1,HE.out.2⟩
 ·have HS:=hD0 (Z45 Yx (ρ:=_) { Try.sortE with } (by intro w;kernel_rfl) (by intro w;kernel_rfl) Z2e Z4h 33 Z4r Z04 _ g cap l w1 hO1 (Nat.le_trans HL.out (by decide)))
  have HG:=hD0 (aI0 g1 (oge hO1 (g:=g) rfl))
  clear g1 hO1 HC
  go_wp2_with fail
  refine Calls.mono HS.out ?_
  rintro e w2 ⟨rfl,l2,hp,hs,hO2,ht⟩
  have hl2:l2.length=l.length:=hp.length_eq
  have hO2':=hO2
  rw[hl2] at hO2'
  have g2:Nw w w2:=Ze HG.out.1 ht (fun i e=>by subst e;exact HG.out.2)
  have HOn:=hD0 (Z0i (W0:=w2) (v:=.slice (some ⟨g,0,none⟩) l2.length cap) (l:=l2) (Za.at_ hO2) (by rw[hl2];exact HL.out) (Weak.of hs))
  rw[hl2] at HOn
  have HG2:=hD0 (aI0 g2 (aI0 hp hl2))
  clear g2 hp hs hO2 hO2' ht hl2 HS HG
  go_wp2_with fail
  refine HOn.out.mono ?_
  rintro e w3 ⟨v3,out,rfl,hO,hN,hP⟩
  have HE:=hD0 (show Za w3 w.heap.size v3 (sortE l)∧Nw w w3 from by
   have e:=hP.done (Nat.le_of_eq HG2.out.2.2) HG2.out.2.1
   subst e
   exact⟨Z55 hO (fun b q=>by have:=oge hO q;have:=HG2.out.1.sz;omega),HG2.out.1.trans hN⟩)
  clear hO hN hP
  go_wp2
  go_ret
  exact⟨_,rfl,HE.out.1,HE.out.2⟩
theorem Z2r{w:World}{v:Value}{l:List (Int × Int)}(h:Zl w v l)(hl:l.length≤1000) :
  Calls prog 20 #[v] w fun e w'=>∃v',e=.returned v'∧Za w' w.heap.size v' (sortE l)∧Nw w w':=Um h (Nat.le_trans hl (by decide))
end
def Vo(t:Int)(l:List Int):List (Int × Int):=l.map fun y=>(t,y)
theorem Up(t:Int)(l:List Int):(Vo t l).length=l.length:=by simp[Vo]
def edR(q:List Rq)(r:Rq):List (Int × Int):=if 0<r.sn then Vo r.txn (Yw q r.id) else[]
def edH(q:List Rq)(k:Nat):List (Int × Int):=(q.take k).flatMap (edR q)
section
variable {W:Int} {q:List Rq} (h:Ok W q)
include h
theorem Z6b(e:Int × Int):e∈edH q q.length↔∃r∈q,0<r.sn∧e.1=r.txn∧∃o∈q,o.id≠r.id∧blk r o=true∧o.txn=e.2:=by
 unfold edH
 rw[List.take_of_length_le (Nat.le_refl _),List.mem_flatMap]
 constructor
 ·rintro⟨r,hr,he⟩
  unfold edR at he
  by_cases hs:0<r.sn
  ·rw[if_pos hs] at he
   obtain⟨y,hy,rfl⟩:=List.mem_map.1 he
   unfold Yw at hy
   rw[Z1j h hr] at hy
   simp only[if_pos hs] at hy
   exact⟨r,hr,hs,rfl,(V2 q r y).1 hy⟩
  ·rw[if_neg hs] at he;cases he
 ·rintro⟨r,hr,hs,e1,ho⟩
  refine⟨r,hr,?_⟩
  unfold edR
  rw[if_pos hs]
  refine List.mem_map.2 ⟨e.2,?_,by rw[←e1]⟩
  unfold Yw
  rw[Z1j h hr]
  simp only[if_pos hs]
  exact(V2 q r e.2).2 ho
end
theorem Z7v{w:World}{g n cap:Nat}{l:List Int}(h:IS w (.slice (some ⟨g,0,none⟩) n cap) l){i:Nat}(hi:i<l.length):w.cell? ⟨g,i,none⟩=some (.int .i64 l[i]):=by
 rw[h.cell i hi,List.getD_eq_getElem?_getD,List.getElem?_eq_getElem hi];rfl
structure TwI(W0:World)(t:Int)(l:List Int)(v:Value)(k:Nat)(w:World):Prop where
 own:Za w W0.heap.size v (Vo t (l.take k))
 nw:Nw W0 w
theorem Z2u{w0:World}{v:Value}{l:List Int}(h:IS w0 v l)(hl:l.length≤1000)(t:Int) :
  Calls prog 28 #[.int .i64 t,v] w0 fun e w'=>∃v',e=.returned v'∧Za w' w0.heap.size v' (Vo t l)∧Nw w0 w':=by
 obtain⟨la,lc,rfl,hla⟩:=h.box
 have HLA:=hD0 hla
 have HL:=hD0 h
 obtain⟨n,hn⟩:∃n,l.length=n:=⟨_,rfl⟩
 have HN:=hD0 hn
 rw[hn] at hl ⊢
 clear h hla hn
 go_enter func28,ntmps28
 go_wp2_with fail
 go_loopw [5,10] (fun v5 v10 wr=>∃(k:Nat) (a:Option Addr) (b c:Nat),v5=.slice a b c∧v10=.int .i64 k∧k≤n∧Hid (TwI w0 t l (.slice a b c) k wr)) (fun _ v10 _=>n-(intOf v10).toNat)
 case atStart=>exact⟨0,none,0,0,rfl,rfl,Nat.zero_le _,hD0 ⟨World.ownsRow_nil _ _ _ _,Nw.refl _⟩⟩
 case round =>
  obtain⟨k,sa,sb,sc,rfl,rfl,hkn,HI⟩:=hrel
  by_cases hlt:k<n
  ·have hkl:k<l.length:=by rw[HN.out];exact hlt
   obtain⟨lg,rfl,_⟩:=HLA.out (by omega)
   have cy:=Z7v (HL.out.nw HI.out.nw) hkl
   obtain⟨y,hy⟩:∃y,l[k]=y:=⟨_,rfl⟩
   rw[hy] at cy
   have Yh:=Y6 hlt
   have hw:=Ya k (k+1) (Nat.le_trans (Nat.le_of_lt hlt) (Nat.le_trans hl (by decide))) rfl
   obtain⟨k1,hk1⟩:∃m,k+1=m:=⟨_,rfl⟩
   have HK1:=hD0 (aI0 hk1 hlt)
   have htk:Vo t (l.take k1)=Vo t (l.take k)++[(t,y)]:=by
    rw[←hk1,←hy,List.take_succ_eq_append_getElem hkl]
    simp only[Vo,List.map_append,List.map_cons,List.map_nil]
   rw[hk1] at hw
   have hal6:=Z5 wr (.cells #[.int .i64 t,.int .i64 y] 32)
   have g6:Nw wr (wr.alloc (.cells #[.int .i64 t,.int .i64 y] 32)):=(Nw.refl wr).alloc _
   obtain⟨v',w6,hr6,hO6,hg6,_,ga6,cc6,rfl⟩:=Y4.push Yx (onw HI.out.own g6) (t,y) wr.heap.size 1 (fun j u hu=>by
    rw[Z2 hal6]
    simpa [Zi] using hu) (by rw[Up,List.length_take];omega) (HI.out.nw.trans g6).sz
   have HI6:=hD0 (show TwI w0 t l (.slice (some ⟨ga6,0,none⟩) ((Vo t (l.take k)).length+1) cc6) k1 w6 from⟨by rw[htk];exact hO6,(HI.out.nw.trans g6).gro hg6 (fun b e=>oge HI.out.own e)⟩)
   have HR6:=hD0 hr6
   clear hal6 g6 hr6 hO6 hg6 HI hk1 hy htk hkl hlt
   go_wp2_with (at_builtin;refine Zr (by rfl) (.tmp 14) (.tmp 18) 33 rfl _ _ _ _ rfl rfl HR6.out ?_)
   exact⟨⟨k1,some ⟨ga6,0,none⟩,_,cc6,rfl,rfl,by rw[←HK1.out.1];exact HK1.out.2,HI6⟩,by rw[←HK1.out.1];exact Ye HK1.out.2⟩
  ·obtain rfl:k=n:=Nat.le_antisymm hkn (Nat.le_of_not_lt hlt)
   have Yh:¬k<k:=Nat.lt_irrefl k
   have HO:=hD0 (show Za wr w0.heap.size (.slice sa sb sc) (Vo t l)∧Nw w0 wr from by
    have:=HI.out.own
    rw[List.take_of_length_le (by rw[HN.out];exact Nat.le_refl k)] at this
    exact⟨this,HI.out.nw⟩)
   clear hlt HI
   go_wp2
   go_ret
   exact⟨_,rfl,HO.out.1,HO.out.2⟩
structure ReI(l:List (Int × Int))(a:Int)(out:List Int):Prop where
 srt:out.Pairwise (·<·)
 rch:∀y∈out,Yf l a y
def ReC(l:List (Int × Int))(a:Int)(out:List Int)(i:Nat):Prop:=∀j,(h:j<l.length)→j<i→l[j].1=a∨l[j].1∈out→l[j].2∈out
def Lev(l:List (Int × Int))(a:Int)(n:Nat)(x:Int):Prop:=(n=0∧x=a)∨(0<n∧Far l a x n)
structure LvI(l:List (Int × Int))(a b:Int)(n:Nat)(now seen:List Int):Prop where
 ino:∀x,x∈now↔Lev l a n x
 ise:∀y,y∈seen↔∃m,m≤n∧Way l a m y
 nd:seen.Nodup
 nb:∀m,m≤n→¬Way l a m b
structure LvJ(l:List (Int × Int))(a b:Int)(n:Nat)(now seen0 seen next:List Int)(i:Nat):Prop where
 top:LvI l a b n now seen0
 sn:seen=seen0++next
 mem:∀y,y∈next↔(∃j,∃h:j<l.length,j<i∧l[j].1∈now∧l[j].2=y)∧y∉seen0
 nd:seen.Nodup
 nb:∀j,(h:j<l.length)→j<i→l[j].1∈now→l[j].2≠b
structure GrI(s:List (Int × Int))(a:Int)(N:Nat)(r:List Int)(last:Int)(n:Nat):Prop where
 far:Far s last a n
 pos:0<n
 len:r.length+n=N
 la:(a::r).getLast?=some last
 all:∀t,Greedy s a last n t→Greedy s a a N (r++t)
def Z9h:Value→Nat
 | .slice _ n _=>n
 | _=>0
structure ReW(W0:World)(l:List (Int × Int))(a:Int)(out:List Int)(v:Value)(w:World):Prop where
 is:IS w v out
 nw:Nw W0 w
 inv:ReI l a out
structure ReJ(W0:World)(l:List (Int × Int))(a:Int)(out0 out:List Int)(more:Bool)(i:Nat)(v:Value)(w:World):Prop where
 rw_:ReW W0 l a out v w
 no:more=false→out.length=out0.length∧ReC l a out i
 yes:more=true→out0.length<out.length
theorem Z4l(R:Rq)(w:World):Calls prog 87 #[U6 R] w fun e w'=>e=.returned (.bool (R.md != 0))∧Nw w w':=by
 obtain⟨a,b,m,n,s⟩:=R
 unfold U6
 go_enter func87,ntmps87
 go_wp2
 go_ret
 exact⟨rfl,(Nw.refl _).alloc _⟩
theorem Z4m(R:Rq)(w:World):Calls prog 40 #[U6 R] w fun e w'=>e=.returned (.bool (decide (0<R.sn)))∧Nw w w':=by
 obtain⟨a,b,m,n,s⟩:=R
 unfold U6
 go_enter func40,ntmps40
 go_wp2
 go_ret
 exact⟨rfl,(Nw.refl _).alloc _⟩
def Yl(w:World)(f:Value)(p:Rq→Bool):Prop:=∃(g:Nat) (lb:Array Value),f=.func (.func g) #[] lb∧(∀args w,(callFunc g args).run prog w=.ok (.enter g args) w)∧∀(R:Rq) (w1:World),Nw w w1→Calls prog g (#[U6 R]++lb) w1 fun e w'=>e=.returned (.bool (p R))∧Nw w1 w'
theorem Yl.nw{w w':World}{f:Value}{p:Rq→Bool}(h:Yl w f p)(g:Nw w w'):Yl w' f p:=by
 obtain⟨k,lb,e,eg,hc⟩:=h
 exact⟨k,lb,e,eg,fun R w1 h1=>hc R w1 (g.trans h1)⟩
theorem Z4n(i:Int)(R:Rq)(p:Nat)(w:World)(h:w.cell? ⟨p,0,none⟩=some (.int .i64 i)):Calls prog 71 #[U6 R,.pointer (some ⟨p,0,none⟩)] w fun e w'=>e=.returned (.bool (R.id==i))∧Nw w w':=by
 obtain⟨a,b,m,n,s⟩:=R
 unfold U6
 have hp:=World.block_lt_of_cell? _ _ h
 go_enter func71,ntmps71
 go_wp2
 go_ret
 exact⟨rfl,(Nw.refl _).alloc _⟩
theorem Z68(i:Int)(w:World):Calls prog 52 #[.int .i64 i] w fun e w'=>∃p,e=.returned (.func (.func 71) #[] #[.pointer (some ⟨p,0,none⟩)])∧Nw w w'∧w'.cell? ⟨p,0,none⟩=some (.int .i64 i):=by
 go_enter func52,ntmps52
 go_wp2
 go_ret
 exact⟨_,rfl,(Nw.refl _).alloc _,Z2 (Z5 w _)⟩
theorem Yl.withID{w:World}{i:Int}{p:Nat}(h:w.cell? ⟨p,0,none⟩=some (.int .i64 i)):Yl w (.func (.func 71) #[] #[.pointer (some ⟨p,0,none⟩)]) (fun R=>R.id==i) :=
 ⟨_,_,rfl,enters_of func71 (by kernel_rfl) rfl,fun R w1 g=>Z4n i R p w1 (g.kp h)⟩
def Z77:Value→Prop
 | .slice _ n c=>n≤c
 | _=>True
theorem Vq(w:World)(o1 o2:Obj):((w.alloc o1).alloc o2).heap[w.heap.size]?=some o1∧((w.alloc o1).alloc o2).heap[w.heap.size+1]?=some o2∧Nw w ((w.alloc o1).alloc o2)∧((w.alloc o1).alloc o2).heap.size=w.heap.size+1+1:=by
 have hs:(w.alloc o1).heap.size=w.heap.size+1:=by simp
 refine⟨((Nw.refl _).alloc o2).at' (Z5 w o1),?_,((Nw.refl w).alloc _).alloc _,by simp⟩
 have:=Z5 (w.alloc o1) o2
 rwa [hs] at this
def hoI(a b:Rq):Int:=if (a.md != 0)=(b.md != 0)then 0 else if (a.md != 0)=true then -1 else 1
def cmI(a b:Int):Int:=if a<b then -1 else if b<a then 1 else 0
def toI(a b:Rq):Int:=if hoI a b≠0 then hoI a b else cmI a.sn b.sn
theorem nwS{w:World}:∀a b,Nw w a→Nw a b→Nw w b:=fun _ _ h g=>h.trans g
theorem Nw.drewQ{w a:World}(h:Nw w a):Nw w a.drew:=h.drewN 1
theorem Z2g(A B:Rq)(w:World):Calls prog 72 #[U6 A,U6 B] w fun e w'=>e=.returned (.int .i64 (hoI A B))∧Nw w w':=by
 have HA:=hD0 (Z4l A)
 have HB:=hD0 (Z4l B)
 obtain⟨V,hV⟩:∃V,hoI A B=V:=⟨_,rfl⟩
 have hV2:=hV
 rw[hV]
 unfold hoI at hV2
 generalize (A.md != 0)=x at *
 generalize (B.md != 0)=y at *
 clear hV
 have HV:=hD0 hV2
 clear hV2
 obtain⟨a,b,m,n,s⟩:=A
 obtain⟨a',b',m',n',s'⟩:=B
 unfold U6 at *
 have HX:=hD0 (Vq w (.cells #[.int .i64 a,.int .i64 b,.int .i64 m,.int .i64 n,.int .i64 s] 63) (.cells #[.int .i64 a',.int .i64 b',.int .i64 m',.int .i64 n',.int .i64 s'] 63))
 go_enter func72,ntmps72
 go_wp2_with fail
 generalize (w.alloc (.cells #[.int .i64 a,.int .i64 b,.int .i64 m,.int .i64 n,.int .i64 s] 63)).alloc (.cells #[.int .i64 a',.int .i64 b',.int .i64 m',.int .i64 n',.int .i64 s'] 63)=w1 at *
 obtain⟨p,hp⟩:∃p,w.heap.size=p:=⟨_,rfl⟩
 rw[hp] at HX ⊢
 have hl1:=hlt HX.out.1
 have hl2:=hlt HX.out.2.1
 have c0:=Z2 (j:=0) HX.out.1
 have c1:=Z2 (j:=1) HX.out.1
 have c2:=Z2 (j:=2) HX.out.1
 have c3:=Z2 (j:=3) HX.out.1
 have c4:=Z2 (j:=4) HX.out.1
 have d0:=Z2 (j:=0) HX.out.2.1
 have d1:=Z2 (j:=1) HX.out.2.1
 have d2:=Z2 (j:=2) HX.out.2.1
 have d3:=Z2 (j:=3) HX.out.2.1
 have d4:=Z2 (j:=4) HX.out.2.1
 have HN:=hD0 HX.out.2.2.1
 clear HX hp hl1 hl2
 refine Z41 (Nw w1) (by kernel_rfl) (by kernel_rfl) (Nw.refl _).drewQ ?_
 have e0:∀d:Wd (Nw w1),d.w.cell? _=_:=fun d=>d.h.kp c0
 have e1:∀d:Wd (Nw w1),d.w.cell? _=_:=fun d=>d.h.kp c1
 have e2:∀d:Wd (Nw w1),d.w.cell? _=_:=fun d=>d.h.kp c2
 have e3:∀d:Wd (Nw w1),d.w.cell? _=_:=fun d=>d.h.kp c3
 have e4:∀d:Wd (Nw w1),d.w.cell? _=_:=fun d=>d.h.kp c4
 have f0:∀d:Wd (Nw w1),d.w.cell? _=_:=fun d=>d.h.kp d0
 have f1:∀d:Wd (Nw w1),d.w.cell? _=_:=fun d=>d.h.kp d1
 have f2:∀d:Wd (Nw w1),d.w.cell? _=_:=fun d=>d.h.kp d2
 have f3:∀d:Wd (Nw w1),d.w.cell? _=_:=fun d=>d.h.kp d3
 have f4:∀d:Wd (Nw w1),d.w.cell? _=_:=fun d=>d.h.kp d4
 have hne:Nonempty (Wd (Nw w1)):=⟨⟨_,Nw.refl w1⟩⟩
 repeat (first | go_big_quiet_step ((first | (with_reducible exact Z0z nwS (HA.out _)) | (with_reducible exact Z0z nwS (HB.out _)))) | quiet_step ((first | (with_reducible exact Z0z nwS (HA.out _)) | (with_reducible exact Z0z nwS (HB.out _)))))
 refine wpQuiet_nil ?_
 intro d
 have h6:=d.h
 clear e0 e1 e2 e3 e4 f0 f1 f2 f3 f4 hne
 revert h6
 generalize d.w=w6
 intro h6
 replace c0:=h6.kp c0
 replace c1:=h6.kp c1
 replace c2:=h6.kp c2
 replace c3:=h6.kp c3
 replace c4:=h6.kp c4
 replace HN:=hD0 (HN.out.trans h6)
 clear h6 d0 d1 d2 d3 d4
 cases x<;>cases y
 ·have e:V=0:=by simpa using HV.out.symm
  subst e
  go_wp2
  go_ret
  exact⟨rfl,HN.out⟩
 ·have e:V=1:=by simpa using HV.out.symm
  subst e
  go_wp2_with (go_at_call 87;refine(HA.out _).mono ?_;rintro e w' ⟨rfl,g⟩)
  go_ret
  exact⟨rfl,HN.out.trans g⟩
 ·have e:V = -1:=by simpa using HV.out.symm
  subst e
  go_wp2_with (go_at_call 87;refine(HA.out _).mono ?_;rintro e w' ⟨rfl,g⟩)
  go_ret
  exact⟨rfl,HN.out.trans g⟩
 ·have e:V=0:=by simpa using HV.out.symm
  subst e
  go_wp2
  go_ret
  exact⟨rfl,HN.out⟩
theorem Z98(a:Int)(w:World):Calls prog 31 #[.int .i64 a] w fun e w'=>e=.returned (.bool false)∧w=w':=by
 go_enter func31,ntmps31
 go_wp2
 go_ret
 exact⟨rfl,rfl⟩
theorem Z4k(a b:Int)(w:World):Calls prog 19 #[.int .i64 a,.int .i64 b] w fun e w'=>e=.returned (.int .i64 (cmI a b))∧Nw w w':=by
 have HN:=hD0 Z98
 unfold cmI
 by_cases h1:a<b
 ·rw[if_pos h1]
  go_enter func19,ntmps19
  go_wp2_with (go_at_call 31;refine(HN.out _ _).mono ?_;rintro e w' ⟨rfl,rfl⟩)
  go_ret
  exact⟨rfl,Nw.refl _⟩
 rw[if_neg h1]
 by_cases h2:b<a
 ·rw[if_pos h2]
  go_enter func19,ntmps19
  go_wp2_with (go_at_call 31;refine(HN.out _ _).mono ?_;rintro e w' ⟨rfl,rfl⟩)
  go_ret
  exact⟨rfl,Nw.refl _⟩
 ·rw[if_neg h2]
  go_enter func19,ntmps19
  go_wp2_with (go_at_call 31;refine(HN.out _ _).mono ?_;rintro e w' ⟨rfl,rfl⟩)
  go_ret
  exact⟨rfl,Nw.refl _⟩
theorem dOr(x y:Int)(b:Nat)(w:World)(h0:w.cell? ⟨b,0,none⟩=some (.int .i64 x))(h1:w.cell? ⟨b,1,none⟩=some (.int .i64 y)) :
  Calls prog 17 #[.slice (some ⟨b,0,none⟩) 2 2] w fun e w'=>e=.returned (.int .i64 (if x≠0 then x else y))∧Nw w w':=by
 have hp:=World.block_lt_of_cell? _ _ h0
 by_cases hx:x=0
 ·have dx:(x != 0)=false:=by simpa using hx
  rw[if_neg (by simpa using hx)]
  by_cases hy:y=0
  ·have dy:(y != 0)=false:=by simpa using hy
   subst hx hy
   go_enter func17,ntmps17
   go_wp2
   refine wp_loop_rounds 3 ?_
   repeat (rw[rounds_succ];go_wp2)
   go_ret
   exact⟨rfl,Nw.refl _⟩
  ·have dy:(y != 0)=true:=by simpa using hy
   clear hy
   go_enter func17,ntmps17
   go_wp2
   refine wp_loop_rounds 3 ?_
   repeat (rw[rounds_succ];go_wp2)
   go_ret
   exact⟨rfl,Nw.refl _⟩
 ·have dx:(x != 0)=true:=by simpa using hx
  rw[if_pos (by simpa using hx)]
  clear hx
  go_enter func17,ntmps17
  go_wp2
  refine wp_loop_rounds 3 ?_
  repeat (rw[rounds_succ];go_wp2)
  go_ret
  exact⟨rfl,Nw.refl _⟩
theorem Z67(A B:Rq)(w:World):Calls prog 54 #[U6 A,U6 B] w fun e w'=>e=.returned (.int .i64 (toI A B))∧Nw w w':=by
 have HH:=hD0 (Z2g A B)
 have HC:=hD0 (Z4k A.sn B.sn)
 unfold toI
 generalize hoI A B=x at *
 obtain⟨y,hy⟩:∃y,cmI A.sn B.sn=y:=⟨_,rfl⟩
 rw[hy] at HC ⊢
 clear hy
 obtain⟨V,hV⟩:∃V,(if x≠0 then x else y)=V:=⟨_,rfl⟩
 have HO:=hD0 (dOr x y)
 rw[hV] at HO ⊢
 clear hV
 obtain⟨a,b,m,n,s⟩:=A
 obtain⟨a',b',m',n',s'⟩:=B
 unfold U6 at *
 simp only at HC
 have HX:=hD0 (Vq w (.cells #[.int .i64 a,.int .i64 b,.int .i64 m,.int .i64 n,.int .i64 s] 63) (.cells #[.int .i64 a',.int .i64 b',.int .i64 m',.int .i64 n',.int .i64 s'] 63))
 go_enter func54,ntmps54
 go_wp2_with fail
 generalize (w.alloc (.cells #[.int .i64 a,.int .i64 b,.int .i64 m,.int .i64 n,.int .i64 s] 63)).alloc (.cells #[.int .i64 a',.int .i64 b',.int .i64 m',.int .i64 n',.int .i64 s'] 63)=w1 at *
 obtain⟨p,hp⟩:∃p,w.heap.size=p:=⟨_,rfl⟩
 rw[hp] at HX ⊢
 have c0:=Z2 (j:=0) HX.out.1
 have c1:=Z2 (j:=1) HX.out.1
 have c2:=Z2 (j:=2) HX.out.1
 have c3:=Z2 (j:=3) HX.out.1
 have c4:=Z2 (j:=4) HX.out.1
 have d0:=Z2 (j:=0) HX.out.2.1
 have d1:=Z2 (j:=1) HX.out.2.1
 have d2:=Z2 (j:=2) HX.out.2.1
 have d3:=Z2 (j:=3) HX.out.2.1
 have d4:=Z2 (j:=4) HX.out.2.1
 have HN:=hD0 HX.out.2.2.1
 clear HX hp
 have e0:∀d,Nw w1 d→d.cell? _=_:=fun d h=>h.kp c0
 have e1:∀d,Nw w1 d→d.cell? _=_:=fun d h=>h.kp c1
 have e2:∀d,Nw w1 d→d.cell? _=_:=fun d h=>h.kp c2
 have e3:∀d,Nw w1 d→d.cell? _=_:=fun d h=>h.kp c3
 have e4:∀d,Nw w1 d→d.cell? _=_:=fun d h=>h.kp c4
 have f0:∀d,Nw w1 d→d.cell? _=_:=fun d h=>h.kp d0
 have f1:∀d,Nw w1 d→d.cell? _=_:=fun d h=>h.kp d1
 have f2:∀d,Nw w1 d→d.cell? _=_:=fun d h=>h.kp d2
 have f3:∀d,Nw w1 d→d.cell? _=_:=fun d h=>h.kp d3
 have f4:∀d,Nw w1 d→d.cell? _=_:=fun d h=>h.kp d4
 clear c0 c1 c2 c3 c4 d0 d1 d2 d3 d4
 refine Vv [some true,some true,some false,some true,some true,some true,some true,none,some false,none,some false,none,some false,none,some true] (Nw w1) (by kernel_rfl) (by kernel_rfl) (by kernel_rfl) (Nw.refl _).drewQ ?_
 have g1:=(Nw.refl w1).drewQ
 obtain⟨w2,hw2⟩:∃w2,w1.drew=w2:=⟨_,rfl⟩
 rw[hw2] at g1 ⊢
 clear hw2
 repeat (first
  | (refine HW.off ?_)
  | (refine HW.go (fun K hK=>?_);go_simp;(first | (go_at_call 72;(with_reducible refine(HH.out _).mono ?_);rintro e wy ⟨rfl,g2⟩) | (go_at_call 19;(with_reducible refine(HC.out _).mono ?_);rintro e wy ⟨rfl,g2⟩));refine hK.out _ _ (g1.trans g2) ?_;intro _;replace g1:=g1.trans g2;clear hK K g2)
  | (refine HW.take' ?_;apply Exists.intro;refine⟨Or.inl ⟨by rfl,?_⟩,?_⟩;(intro x hx;go_simp;first | done | with_reducible rfl);(try simp only[Act.put,List.setIfInBounds_toArray,List.set_cons_zero,List.set_cons_succ])))
 refine HW.go (fun K hK=>?_)
 go_simp
 have hb:=Z5 wy (.cells #[.int .i64 x,.int .i64 y] 3)
 have g3:=g1.alloc (.cells #[.int .i64 x,.int .i64 y] 3)
 have o0:=Z2 (j:=0) hb
 have o1:=Z2 (j:=1) hb
 refine hK.out _ _ g3 ?_
 intro _
 clear hK K
 refine HW.off ?_
 refine HW.go (fun K hK=>?_)
 go_simp
 go_at_call 17
 refine(HO.out _ _ o0 o1).mono ?_
 rintro e wz ⟨rfl,g4⟩
 have g5:=g3.trans g4
 refine hK.out _ _ g5 ?_
 intro _
 clear hK K
 refine HW.take' ?_
 apply Exists.intro
 refine⟨Or.inl ⟨by rfl,?_⟩,?_⟩
 ·(intro x hx;go_simp;first | done | with_reducible rfl)
 (try simp only[Act.put,List.setIfInBounds_toArray,List.set_cons_zero,List.set_cons_succ])
 refine HW.end_ ?_
 refine NoPanic.normal ?_
 go_wp2
 go_ret
 exact⟨rfl,HN.out.trans g5⟩
structure RqB(w:World)(p:Nat)(a b m n s:Int):Prop where
 lt:p<w.heap.size
 c0:w.cell? ⟨p,0,none⟩=some (.int .i64 a)
 c1:w.cell? ⟨p,1,none⟩=some (.int .i64 b)
 c2:w.cell? ⟨p,2,none⟩=some (.int .i64 m)
 c3:w.cell? ⟨p,3,none⟩=some (.int .i64 n)
 c4:w.cell? ⟨p,4,none⟩=some (.int .i64 s)
theorem RqB.nw{w w':World}{p:Nat}{a b m n s:Int}(h:RqB w p a b m n s)(g:Nw w w'):RqB w' p a b m n s :=
 ⟨lL0 h.lt g.sz,g.kp h.c0,g.kp h.c1,g.kp h.c2,g.kp h.c3,g.kp h.c4⟩
theorem RqB.of{w:World}{p:Nat}{a b m n s:Int}{T:TypeId}{fr:Nat × Nat}(h:w.heap[p]?=some (.cells #[.int .i64 a,.int .i64 b,.int .i64 m,.int .i64 n,.int .i64 s] T fr)):RqB w p a b m n s :=
 ⟨hlt h,Z2 h,Z2 h,Z2 h,Z2 h,Z2 h⟩
theorem RqB.made(w:World)(a b m n s:Int)(T:TypeId):RqB (w.alloc (.cells #[.int .i64 a,.int .i64 b,.int .i64 m,.int .i64 n,.int .i64 s] T)) w.heap.size a b m n s:=RqB.of (Z5 w _)
theorem Z66(S R:Rq)(p:Nat)(w:World)(h:RqB w p S.id S.txn S.md S.wt S.sn):Calls prog 53 #[U6 R,.pointer (some ⟨p,0,none⟩)] w fun e w'=>e=.returned (.bool (decide (0<R.sn)&&decide (toI R S<0)))∧Nw w w':=by
 have HWt:=hD0 (Z4m R)
 have HT:=hD0 (Z67 R S)
 generalize toI R S=x at *
 obtain⟨y,hd⟩:∃y,decide (x<0)=y:=⟨_,rfl⟩
 rw[hd]
 generalize decide (0<R.sn)=z at *
 obtain⟨a,b,m,n,s⟩:=R
 obtain⟨a',b',m',n',s'⟩:=S
 unfold U6 at *
 simp only at h
 have hl:w.heap.size<(w.alloc (.cells #[.int .i64 a,.int .i64 b,.int .i64 m,.int .i64 n,.int .i64 s] 63)).heap.size:=by simp
 have hb:=RqB.made w a b m n s 63
 have hN:=(Nw.refl w).alloc (.cells #[.int .i64 a,.int .i64 b,.int .i64 m,.int .i64 n,.int .i64 s] 63)
 obtain⟨w1,hw1⟩:∃w1,w.alloc (.cells #[.int .i64 a,.int .i64 b,.int .i64 m,.int .i64 n,.int .i64 s] 63)=w1:=⟨_,rfl⟩
 rw[hw1] at hb hN hl
 have HW1:=hD0 hw1
 clear hw1
 obtain⟨hl0,c0,c1,c2,c3,c4⟩:=h.nw hN
 have hBB:=hD0 (aI0 (h.nw hN) hb)
 obtain⟨hl2,d0,d1,d2,d3,d4⟩:=hb
 have HN:=hD0 hN
 clear hN h
 cases z
 ·go_enter func53,ntmps53
  go_wp2_with fail
  rw[HW1.out]
  go_wp2_with (go_at_call 40;refine(HWt.out _).mono ?_;rintro e w2 ⟨rfl,g⟩)
  go_ret
  exact⟨rfl,HN.out.trans g⟩
 ·go_enter func53,ntmps53
  go_wp2_with fail
  rw[HW1.out]
  go_wp2_with fail
  go_at_call 40
  refine(HWt.out _).mono ?_
  rintro e w2 ⟨rfl,g⟩
  clear hl0 c0 c1 c2 c3 c4 hl2 d0 d1 d2 d3 d4
  obtain⟨hl0,c0,c1,c2,c3,c4⟩:=hBB.out.1.nw g
  obtain⟨hl2,d0,d1,d2,d3,d4⟩:=hBB.out.2.nw g
  have HN2:=hD0 (HN.out.trans g)
  clear HN hl g hBB
  go_wp2_with (go_at_call 54;refine(HT.out _).mono ?_;rintro e w3 ⟨rfl,g3⟩)
  go_ret
  exact⟨rfl,HN2.out.trans g3⟩
theorem Z4j(S:Rq)(w:World):Calls prog 41 #[U6 S] w fun e w'=>∃p,e=.returned (.func (.func 53) #[] #[.pointer (some ⟨p,0,none⟩)])∧Nw w w'∧RqB w' p S.id S.txn S.md S.wt S.sn:=by
 obtain⟨a',b',m',n',s'⟩:=S
 unfold U6
 go_enter func41,ntmps41
 go_wp2
 go_ret
 exact⟨_,rfl,(Nw.refl _).alloc _,RqB.made _ _ _ _ _ _ _⟩
theorem Yl.ahead{w:World}{S:Rq}{p:Nat}(h:RqB w p S.id S.txn S.md S.wt S.sn):Yl w (.func (.func 53) #[] #[.pointer (some ⟨p,0,none⟩)]) (fun R=>decide (0<R.sn)&&decide (toI R S<0)) :=
 ⟨_,_,rfl,enters_of func53 (by kernel_rfl) rfl,fun R w1 g=>Z66 S R p w1 (h.nw g)⟩
structure SmH(w:World)(gf:Nat)(lb:Array Value)(g n a b:Nat)(l:List Int):Prop where
 eg:∀args w,(callFunc gf args).run prog w=.ok (.enter gf args) w
 cell:∀i z,i<n→Nw w z→z.cell? ⟨g,i,none⟩=some (.int .i64 (l.getD i 0))
 call:∀i j,a≤i→i<j→j<b→∃v:Int,decide (v<0)=false∧∀z,Nw w z→Calls prog gf (#[.int .i64 (l.getD j 0),.int .i64 (l.getD i 0)]++lb) z fun e w'=>e=.returned (.int .i64 v)∧Nw z w'
def plc(p:Rq→Bool):List Rq→Int
 | []=>-1
 | a::r=>if p a=true then 0 else if plc p r = -1 then -1 else plc p r+1
theorem V9(p:Rq→Bool):∀q:List Rq,(plc p q = -1∧∀a∈q,p a=false)∨∃k:Nat,plc p q=k∧∃h:k<q.length,p q[k]=true∧∀i (hi:i<q.length),i<k→p q[i]=false
 | []=>.inl ⟨rfl,by simp⟩
 | a::r=>by
  unfold plc
  cases e:p a with
  | true=>exact .inr ⟨0,rfl,by simp,e,fun i _ h=>by omega⟩
  | false =>
   rcases V9 p r with⟨h1,h2⟩ | ⟨k,h1,h2,h3,h4⟩
   ·rw[h1]
    refine .inl ⟨rfl,fun x hx=>?_⟩
    rcases List.mem_cons.1 hx with rfl | hx
    ·exact e
    ·exact h2 x hx
   ·rw[h1]
    refine .inr ⟨k+1,?_,by simpa using h2,h3,fun i hi hik=>?_⟩
    ·simp only[Bool.false_eq_true,if_false]
     rw[if_neg (by omega)];rfl
    ·cases i with
     | zero=>exact e
     | succ i=>exact h4 i (by simpa using hi) (by omega)
theorem Z6m{p:Rq→Bool}{q:List Rq}{k:Nat}(hk:k<q.length)(h:p q[k]=true)(hb:∀i (hi:i<q.length),i<k→p q[i]=false):plc p q=k:=by
 rcases V9 p q with⟨_,h2⟩ | ⟨j,h1,h2,h3,h4⟩
 ·rw[h2 _ (gM0 hk)] at h;cases h
 ·rw[h1]
  rcases Nat.lt_trichotomy j k with g | g | g
  ·rw[hb j h2 g] at h3;cases h3
  ·rw[g]
  ·rw[h4 k hk g] at h;cases h
theorem Z59{p:Rq→Bool}{q:List Rq}(h:∀i (hi:i<q.length),p q[i]=false):plc p q = -1:=by
 rcases V9 p q with⟨h1,_⟩ | ⟨j,h1,h2,h3,_⟩
 ·exact h1
 ·rw[h j h2] at h3;cases h3
theorem Z7o(v f:Value)(p:Rq→Bool)(q:List Rq)(w:World)(hl:q.length≤1000)(h:Z2b w v q)(hf:Yl w f p) :
  Calls prog 70 #[v,f] w fun e w'=>e=.returned (.int .i64 (plc p q))∧Nw w w':=by
 obtain⟨g,lb,rfl,eg,hT⟩:=hf
 have HT:=hD0 hT
 clear hT
 obtain⟨a,c,rfl,⟨rfl,_⟩ | ⟨b,o,rfl,hc⟩⟩:=h
 ·go_enter func70,ntmps70
  go_wp2
  refine wp_loop_rounds 1 ?_
  repeat (rw[rounds_succ];go_wp2)
  go_ret
  exact⟨rfl,Nw.refl _⟩
 ·have H:=hD0 hc
  clear hc
  obtain⟨V,hV⟩:∃V,plc p q=V:=⟨_,rfl⟩
  rw[hV]
  have HV:=hD0 hV
  clear hV
  go_enter func70,ntmps70
  go_wp2
  go_loopw [8] (fun i wr=>∃k:Nat,k≤q.length∧i=.int .i64 k∧(∀i (hi:i<q.length),i<k→p q[i]=false)∧Nw w wr) (fun i _=>q.length-(intOf i).toNat)
  case atStart=>exact⟨0,Nat.zero_le _,rfl,fun _ _ h=>by omega,Nw.refl _⟩
  case round =>
   obtain⟨k,hk,rfl,hF,hN⟩:=hrel
   by_cases hlt:k<q.length
   ·have hce:=(H.out.nw hN).cell k hlt
    obtain⟨R,hR⟩:∃R,q[k]=R:=⟨_,rfl⟩
    rw[hR] at hce
    have HC:=hD0 (HT.out R)
    have HS:=hD0 hR
    have HF:=hD0 hF
    have HN:=hD0 hN
    clear hR hF hN
    obtain⟨B,hB⟩:∃B,p R=B:=⟨_,rfl⟩
    rw[hB] at HC
    have HB:=hD0 hB
    clear hB
    obtain⟨b0,b1,b2,b3,b4⟩:=R
    have e0:=hce 0 _ rfl
    have e1:=hce 1 _ rfl
    have e2:=hce 2 _ rfl
    have e3:=hce 3 _ rfl
    have e4:=hce 4 _ rfl
    simp only[Nat.add_zero] at e0
    clear hce
    cases B
    case true =>
     go_wp2_with (go_at_fn g;refine(HC.out _ HN.out).mono ?_;rintro e w1 ⟨rfl,g1⟩)
     go_ret
     exact⟨by rw[←HV.out,Z6m hlt (by rw[HS.out];exact HB.out) HF.out];rfl,HN.out.trans g1⟩
    case false =>
     go_wp2_with (go_at_fn g;refine(HC.out _ HN.out).mono ?_;rintro e w1 ⟨rfl,g1⟩)
     go_roundw
     case rel =>
      refine⟨k+1,by omega,by go_num,fun i hi hik=>?_,HN.out.trans g1⟩
      by_cases q:i<k
      ·exact HF.out i hi q
      ·have:i=k:=by omega
       subst this
       rw[HS.out];exact HB.out
     case measure=>simp[intOf];omega
   ·have HF:=hD0 hF
    have HN:=hD0 hN
    clear hF hN
    go_wp2
    go_ret
    exact⟨by rw[←HV.out,Z59 fun i hi=>HF.out i hi (by omega)];rfl,HN.out⟩
theorem Z8i(t r W:Int)(v f:Value)(p:Rq→Bool)(q:List Rq)(w:World)(hl:q.length≤1000)(h:Z2b w v q)(hf:Yl w f p) :
  Calls prog 51 #[hdV t r v W,f] w fun e w'=>e=.returned (.int .i64 (plc p q))∧Nw w w':=by
 have HI:=hD0 (fun(w1:World) (g:Nw w w1)=>Z7o v f p q w1 hl (h.nw g) (hf.nw g))
 obtain⟨a,c,rfl⟩:=h.form
 obtain⟨g,lb,rfl,_⟩:=hf
 unfold hdV
 clear h
 have hN:Nw w (w.alloc (.cells #[.int .i64 t,.int .i64 r,.slice a q.length c,.int .i64 W] 60)):=(Nw.refl w).alloc _
 go_enter func51,ntmps51
 go_wp2_with (go_at_call 70;refine(HI.out _ hN).mono ?_;rintro e w1 ⟨rfl,g1⟩)
 go_ret
 exact⟨rfl,hN.trans g1⟩
section
open Go.RowKit Go.Maps Go.ChangeMaps
section
variable {w w':World} {b n:Nat} {c:Int→Int}
end
theorem dCp(a b:Int)(w:World)(ha:knI a=true)(hb:knI b=true):Calls prog 42 #[.int .i64 a,.int .i64 b] w fun e w'=>e=.returned (.bool (cpI a b))∧Nw w w':=by
 have h1:=(Z0x a).1 ha
 have h2:=(Z0x b).1 hb
 rw[Z79 a b ha hb]
 exact Z7m a b w h1.1 h1.2 h2.1 h2.2
end
def HR2(X:Hq × Bool × Int)(w:World)(e:Ending)(w':World):Prop:=∃v',e=.returned (.tuple #[hdV X.1.t X.1.r v' X.1.W,.bool X.2.1,.int .i64 X.2.2])∧Nw w w'∧Z2b w' v' X.1.q∧Z77 v'
theorem Z5i{α:Type}(q:List α)(k:Nat)(hk:k<q.length):q=q.take k++q[k]::q.drop (k+1):=by rw[←List.drop_eq_getElem_cons hk,List.take_append_drop]
theorem Z8m{a b:Rq}(h1:a.md≠0)(h2:b.md=0):toI a b<0:=by
 have:hoI a b = -1:=by unfold hoI;simp[h1,h2]
 unfold toI;rw[this,if_pos (by decide)];decide
theorem Z8l{a b:Rq}(h1:a.md=0)(h2:b.md≠0):¬toI a b<0:=by
 have:hoI a b=1:=by unfold hoI;simp[h1,h2]
 unfold toI;rw[this,if_pos (by decide)];decide
theorem Z7c{a b:Rq}(h:a.md=0↔b.md=0):toI a b=cmI a.sn b.sn:=by
 have e:(a.md != 0)=(b.md != 0):=by
  by_cases z:a.md=0
  ·rw[z,h.1 z]
  ·have y:b.md≠0:=fun e=>z (h.2 e)
   rw[bne_iff_ne.2 z,bne_iff_ne.2 y]
 have:hoI a b=0:=by unfold hoI;rw[if_pos e]
 unfold toI;rw[this];simp
theorem Z78{a b:Int}:cmI a b<0↔a<b:=by
 unfold cmI
 by_cases h1:a<b
 ·rw[if_pos h1];exact⟨fun _=>h1,fun _=>by decide⟩
 ·rw[if_neg h1]
  by_cases h2:b<a
  ·rw[if_pos h2];exact⟨fun e=>by omega,fun e=>absurd e h1⟩
  ·rw[if_neg h2];exact⟨fun e=>by omega,fun e=>absurd e h1⟩
theorem Z3c{a b:Rq}:toI a b<0↔(a.md≠0∧b.md=0)∨((a.md=0↔b.md=0)∧a.sn<b.sn):=by
 by_cases z:a.md=0
 ·by_cases y:b.md=0
  ·rw[Z7c (by simp[z,y]),Z78];simp[z,y]
  ·have:=Z8l z y
   simp[this,z,y]
 ·by_cases y:b.md=0
  ·have:=Z8m z y
   simp[this,z,y]
  ·rw[Z7c (by simp[z,y]),Z78];simp[z,y]
def Z43(q:List Rq)(x:Int):Rq:=q.getD x.toNat ⟨0,0,0,0,0⟩
def tC(q:List Rq)(x y:Int):Int:=toI (Z43 q x) (Z43 q y)
abbrev Z9g(p:Rq→Bool)(l:List Rq):List Rq:=l.filter fun s=>!p s
structure Del(p:Rq→Bool)(w wr:World)(g0 g n cap a b:Nat)(l R:List Rq):Prop where
 ab:a<b
 bn:b≤l.length
 len:R.length=l.length
 front:R.take a=Z9g p (l.take b)
 rest:R.drop b=l.drop b
 row:Z8d wr g0 (.slice (some ⟨g,0,none⟩) n cap) R
 tch:Zc (fun k=>k=g) w wr
section
variable {p:Rq→Bool} {w wr wr':World} {g0 g n cap a b:Nat} {l R:List Rq}
end
end Go.Proofs.Ytbefaomgldckdaa
