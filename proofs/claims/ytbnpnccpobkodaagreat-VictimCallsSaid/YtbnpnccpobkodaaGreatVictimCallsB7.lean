/- Texts merged: WcM, WdI, WdG, WeM, WeA, WeD, QvA, QuJ, QvC, QsA, QvB, QvD, QuL, QuN, QvI, QvO, QvK -/
import Derived.Test.YtbnpnccpobkodaaGreatVictimCallsB6
import Derived.Maps.RangeWalk
import Derived.Lib.SliceRun
import Derived.Deep.Upon
import Derived.Deep.RegionLaw
set_option linter.unusedVariables false
set_option maxRecDepth 100000
set_option maxHeartbeats 16000000
namespace Go.Proofs.YtbnpnccpobkodaaGreat
open Go.RowKit _root_.Go.Proofs.Tryz
section
open Go.RowKit Go.Sort Go.Shelf
theorem Z15(x y:Int × Int)(w:World):Calls prog 54 #[.agg (Zc x).toArray,.agg (Zc y).toArray] w fun e w'=>e=.returned (.int .i64 (Z3x x y))∧GG w w':=by
 obtain⟨t,r⟩:=x
 obtain⟨t',r'⟩:=y
 simp only[Zc,Z3x]
 go_enter func54,ntmps54
 go_wp2
 go_region_held3 (fun w'=>Z89 w t r t' r' w') (first | assumption | exact Z4k w t r t' r' _ | exact Ug (by assumption) (by assumption) | exact Ug ((GG.refl _).alloc _) (by assumption) | exact Ug (GG.refl _).drew (by assumption))
  (first | (go_at_call 34;refine(Z0a _ _ _).mono ?_;rintro e w' ⟨rfl,rfl⟩) | (go_at_call 32;refine(Zbk _ (cP t t') (cP r r') _ (by simp[go_sem]) (by simp[go_sem])).mono ?_;rintro e w' ⟨rfl,rfl⟩))
 all_goals
  rename_i hS
  go_wp2
  go_ret
  exact⟨rfl,hS.2.2⟩
theorem Z6y:∀args w,(callFunc 54 args).run prog w=.ok (.enter 54 args) w:=enters_of func54 (by kernel_rfl) rfl
structure OnI(W0:World)(l:List (Int × Int))(v:Value)(k:Nat)(out:List (Int × Int))(w:World):Prop where
 own:Z9 w W0.heap.size v out
 nw:Nw W0 w
 on:Yq l k out
theorem Z1m{W0:World}{v:Value}{l:List (Int × Int)}(h:Zk W0 v l)(hl:l.length≤5000)(hw:Z6g l) :
  Calls prog 55 #[v] W0 fun e w'=>∃v' out,e=.returned v'∧Z9 w' W0.heap.size v' out∧Nw W0 w'∧Yq l l.length out:=by
 have HW:=hD0 hw
 obtain⟨ea,ec,rfl,hed⟩:=h
 have HD:=hD0 hed
 obtain⟨n,hn⟩:∃n,l.length=n:=⟨_,rfl⟩
 have HN:=hD0 hn
 rw[hn] at hl ⊢
 clear hw hed hn
 go_enter func55,ntmps55
 go_wp2_with fail
 go_loopw [3,8] (fun v3 v8 wr=>∃(k:Nat) (out:List (Int × Int)) (a:Option Addr) (b c:Nat),v3=.slice a b c∧v8=.int .i64 k∧k≤n∧Hid (OnI W0 l (.slice a b c) k out wr)) (fun _ v8 _=>n-(intOf v8).toNat)
 case atStart=>exact⟨0,[],none,0,0,rfl,rfl,Nat.zero_le _,World.ownsRow_nil _ _ _ _,Nw.refl _,Yq.start l⟩
 case round =>
  obtain⟨k,out,sa,sb,sc,rfl,rfl,hkn,HI⟩:=hrel
  by_cases hlt:k<n
  ·have hkl:k<l.length:=by rw[HN.out];exact hlt
   have Zr:=Zp hlt
   rcases HD.out with⟨q,_⟩ | ⟨eb,eo,rfl,hrc⟩
   ·rw[q] at hkl;simp at hkl
   ·have hrw:=hrc.nw HI.out.nw
    obtain⟨x0,x1⟩:=hrw.eg hkl
    have hebl:=hrw.lt
    obtain⟨e,he⟩:∃e,l[k]=e:=⟨_,rfl⟩
    rw[he] at x0 x1
    obtain⟨ex,ey⟩:=e
    simp only at x0 x1
    have hw:=Zo k (k+1) (Nat.le_trans (Nat.le_of_lt hlt) (Nat.le_trans hl (by decide))) rfl
    obtain⟨k1,hk1⟩:∃m,k+1=m:=⟨_,rfl⟩
    have HK1:=hD0 hk1
    rw[hk1] at hw
    have HE:=hD0 he
    clear hk1 he
    go_upto_region 5 with fail
    have hal:=Z4 wr (.cells #[.int .i64 ex,.int .i64 ey] 36)
    have g4:Nw wr (wr.alloc (.cells #[.int .i64 ex,.int .i64 ey] 36)):=(Nw.refl wr).alloc _
    obtain⟨w4,hw4⟩:∃x,wr.alloc (.cells #[.int .i64 ex,.int .i64 ey] 36)=x:=⟨_,rfl⟩
    obtain⟨B,hB⟩:∃B,wr.heap.size=B:=⟨_,rfl⟩
    rw[hB] at hal ⊢
    rw[hw4] at hal g4 ⊢
    have HI4:=hD0 (show OnI W0 l (.slice sa sb sc) k out w4 from⟨Yo HI.out.own g4,HI.out.nw.trans g4,HI.out.on⟩)
    have HAL:=hD0 hal
    have tB0:∀x,Nw w4 x→x.cell? ⟨B,0,none⟩=some (.int .i64 ex):=fun x g=>g.kp (Z2 (j:=0) HAL.out)
    have tB1:∀x,Nw w4 x→x.cell? ⟨B,1,none⟩=some (.int .i64 ey):=fun x g=>g.kp (Z2 (j:=1) HAL.out)
    clear hal hw4 hB x0 x1 hebl hrw
    by_cases hz:k=0
    ·subst hz
     have HO:=hD0 (show Yq l (0+1) (out++[(ex,ey)]) from by
      have:=HI4.out.on.push HW.out hkl (.inl rfl)
      rwa [HE.out] at this)
     obtain rfl:k1=1:=HK1.out.symm
     clear g4
     refine Zb [] (Nw w4) (by kernel_rfl) ?_
     change Za _ _ _ _ _ _ 11 #[false,false,false,false,false,false,false,false,false,false,false] _ w4.drew
     obtain⟨y4,hy4⟩:∃y,w4.drew=y:=⟨_,rfl⟩
     rw[hy4]
     have hS0:Nw w4 y4:=by rw[←hy4];exact(Nw.refl w4).dr
     clear hy4
     refine Z0 0 rfl (by kernel_rfl) (by kernel_rfl) (by kernel_rfl) (fun v c a w h=>h) ?_
     (first | (refine⟨undef,Or.inr ⟨by rfl,rfl⟩,?_⟩) | (apply Exists.intro;refine⟨Or.inl ⟨by rfl,?_⟩,?_⟩;(intro x hx';go_simp;first | done | with_reducible rfl)))
     (try simp only[Act.put,List.getElem_toArray,List.getElem_cons_zero,List.getElem_cons_succ,List.setIfInBounds_toArray,List.set_cons_zero,List.set_cons_succ])
     refine Z0 1 rfl (by kernel_rfl) (by kernel_rfl) (by kernel_rfl) (fun v c a w h=>h) ?_
     (first | (refine⟨undef,Or.inr ⟨by rfl,rfl⟩,?_⟩) | (apply Exists.intro;refine⟨Or.inl ⟨by rfl,?_⟩,?_⟩;(intro x hx';go_simp;first | done | with_reducible rfl)))
     (try simp only[Act.put,List.getElem_toArray,List.getElem_cons_zero,List.getElem_cons_succ,List.setIfInBounds_toArray,List.set_cons_zero,List.set_cons_succ])
     refine Z0 2 rfl (by kernel_rfl) (by kernel_rfl) (by kernel_rfl) (fun v c a w h=>h) ?_
     (first | (refine⟨undef,Or.inr ⟨by rfl,rfl⟩,?_⟩) | (apply Exists.intro;refine⟨Or.inl ⟨by rfl,?_⟩,?_⟩;(intro x hx';go_simp;first | done | with_reducible rfl)))
     (try simp only[Act.put,List.getElem_toArray,List.getElem_cons_zero,List.getElem_cons_succ,List.setIfInBounds_toArray,List.set_cons_zero,List.set_cons_succ])
     refine Z1 3 rfl (by kernel_rfl) (by kernel_rfl) (by kernel_rfl) (by kernel_rfl) (fun v c a w h=>h) hS0 ?_
     (first | (refine⟨undef,Or.inr ⟨by rfl,rfl⟩,?_⟩) | (apply Exists.intro;refine⟨Or.inl ⟨by rfl,?_⟩,?_⟩;(intro x hx';go_simp;first | done | with_reducible rfl)))
     (try simp only[Act.put,List.getElem_toArray,List.getElem_cons_zero,List.getElem_cons_succ,List.setIfInBounds_toArray,List.set_cons_zero,List.set_cons_succ])
     refine Z0 4 rfl (by kernel_rfl) (by kernel_rfl) (by kernel_rfl) (fun v c a w h=>h) ?_
     (first | (refine⟨undef,Or.inr ⟨by rfl,rfl⟩,?_⟩) | (apply Exists.intro;refine⟨Or.inl ⟨by rfl,?_⟩,?_⟩;(intro x hx';go_simp;first | done | with_reducible rfl)))
     (try simp only[Act.put,List.getElem_toArray,List.getElem_cons_zero,List.getElem_cons_succ,List.setIfInBounds_toArray,List.set_cons_zero,List.set_cons_succ])
     refine Z0 5 rfl (by kernel_rfl) (by kernel_rfl) (by kernel_rfl) (fun v c a w h=>h) ?_
     (first | (refine⟨undef,Or.inr ⟨by rfl,rfl⟩,?_⟩) | (apply Exists.intro;refine⟨Or.inl ⟨by rfl,?_⟩,?_⟩;(intro x hx';go_simp;first | done | with_reducible rfl)))
     (try simp only[Act.put,List.getElem_toArray,List.getElem_cons_zero,List.getElem_cons_succ,List.setIfInBounds_toArray,List.set_cons_zero,List.set_cons_succ])
     refine Z0 6 rfl (by kernel_rfl) (by kernel_rfl) (by kernel_rfl) (fun v c a w h=>h) ?_
     (first | (refine⟨undef,Or.inr ⟨by rfl,rfl⟩,?_⟩) | (apply Exists.intro;refine⟨Or.inl ⟨by rfl,?_⟩,?_⟩;(intro x hx';go_simp;first | done | with_reducible rfl)))
     (try simp only[Act.put,List.getElem_toArray,List.getElem_cons_zero,List.getElem_cons_succ,List.setIfInBounds_toArray,List.set_cons_zero,List.set_cons_succ])
     refine Z0 7 rfl (by kernel_rfl) (by kernel_rfl) (by kernel_rfl) (fun v c a w h=>h) ?_
     (first | (refine⟨undef,Or.inr ⟨by rfl,rfl⟩,?_⟩) | (apply Exists.intro;refine⟨Or.inl ⟨by rfl,?_⟩,?_⟩;(intro x hx';go_simp;first | done | with_reducible rfl)))
     (try simp only[Act.put,List.getElem_toArray,List.getElem_cons_zero,List.getElem_cons_succ,List.setIfInBounds_toArray,List.set_cons_zero,List.set_cons_succ])
     refine Z1 8 rfl (by kernel_rfl) (by kernel_rfl) (by kernel_rfl) (by kernel_rfl) (fun v c a w h=>h) hS0 ?_
     (first | (refine⟨undef,Or.inr ⟨by rfl,rfl⟩,?_⟩) | (apply Exists.intro;refine⟨Or.inl ⟨by rfl,?_⟩,?_⟩;(intro x hx';go_simp;first | done | with_reducible rfl)))
     (try simp only[Act.put,List.getElem_toArray,List.getElem_cons_zero,List.getElem_cons_succ,List.setIfInBounds_toArray,List.set_cons_zero,List.set_cons_succ])
     refine Z0 9 rfl (by kernel_rfl) (by kernel_rfl) (by kernel_rfl) (fun v c a w h=>h) ?_
     (first | (refine⟨undef,Or.inr ⟨by rfl,rfl⟩,?_⟩) | (apply Exists.intro;refine⟨Or.inl ⟨by rfl,?_⟩,?_⟩;(intro x hx';go_simp;first | done | with_reducible rfl)))
     (try simp only[Act.put,List.getElem_toArray,List.getElem_cons_zero,List.getElem_cons_succ,List.setIfInBounds_toArray,List.set_cons_zero,List.set_cons_succ])
     refine Z0 10 rfl (by kernel_rfl) (by kernel_rfl) (by kernel_rfl) (fun v c a w h=>h) ?_
     (first | (refine⟨undef,Or.inr ⟨by rfl,rfl⟩,?_⟩) | (apply Exists.intro;refine⟨Or.inl ⟨by rfl,?_⟩,?_⟩;(intro x hx';go_simp;first | done | with_reducible rfl)))
     (try simp only[Act.put,List.getElem_toArray,List.getElem_cons_zero,List.getElem_cons_succ,List.setIfInBounds_toArray,List.set_cons_zero,List.set_cons_succ])
     refine Z5 (by kernel_rfl) ?_ _
     refine NoPanic.normal ?_
     (try simp only[Act.put,List.getElem_toArray,List.getElem_cons_zero,List.getElem_cons_succ,List.setIfInBounds_toArray,List.set_cons_zero,List.set_cons_succ])
     have hal6:=Z4 y4 (.cells #[.int .i64 ex,.int .i64 ey] 36)
     have g6:Nw y4 (y4.alloc (.cells #[.int .i64 ex,.int .i64 ey] 36)):=(Nw.refl y4).alloc _
     obtain⟨v',w6,hr6,hO6,hg6,_,ga6,cc6,rfl⟩:=Zu.push Y6 (Yo (Yo HI4.out.own hS0) g6) (ex,ey) y4.heap.size 1 (fun j u hu=>by
      rw[Z2 hal6]
      simpa [Zc] using hu) (by have:=HI4.out.on.len;omega) ((HI4.out.nw.trans hS0).trans g6).sz
     have HI6:=hD0 (show OnI W0 l (.slice (some ⟨ga6,0,none⟩) (out.length+1) cc6) 1 (out++[(ex,ey)]) w6 from⟨hO6,((HI4.out.nw.trans hS0).trans g6).gro hg6 (fun b e=>Va HI4.out.own e),HO.out⟩)
     have HR6:=hD0 hr6
     have hb0:=tB0 y4 hS0
     have hb1:=tB1 y4 hS0
     have hBl:=lL0 (Go.Proofs.YtbnpnccpobkodaaGreat.hlt HAL.out) hS0.sz
     clear hal6 g6 hr6 hO6 hg6 hS0 tB0 tB1 HI4
     go_wp2_with (at_builtin;refine Z6 (by rfl) (.tmp 24) (.tmp 26) 22 rfl _ _ _ _ rfl rfl HR6.out ?_)
     go_roundw
     case rel=>exact⟨1,out++[(ex,ey)],some ⟨ga6,0,none⟩,out.length+1,cc6,rfl,rfl,hlt,HI6⟩
     case measure=>(show n-(1:Int).toNat<n-((0:Nat):Int).toNat;omega)
    ·obtain⟨j,hj⟩:∃j,k=j+1:=⟨k-1,by omega⟩
     have hjl:j<l.length:=by omega
     have hrw4:=hrc.nw (HI.out.nw.trans g4)
     obtain⟨y0,y1⟩:=hrw4.eg hjl
     have hdj:=V8 k j (Nat.le_trans (Nat.le_of_lt hlt) (Nat.le_trans hl (by decide))) hj
     have hjn':(j:Int)<(n:Int):=by omega
     have hjn:j<n:=by omega
     have hz1:((k:Int)==0)=false:=by simp;omega
     have hz2:(k==0)=false:=by simp;omega
     obtain⟨f,hf⟩:∃f,l[j]=f:=⟨_,rfl⟩
     rw[hf] at y0 y1
     obtain⟨fx,fy⟩:=f
     simp only at y0 y1
     have ty0:∀x,Nw w4 x→x.cell? ⟨eb,eo+j*2,none⟩=some (.int .i64 fx):=fun x g=>g.kp y0
     have ty1:∀x,Nw w4 x→x.cell? ⟨eb,eo+j*2+1,none⟩=some (.int .i64 fy):=fun x g=>g.kp y1
     have HF:=hD0 (show ∃hj:j<l.length,k=j+1∧l[j]=(fx,fy) from⟨hjl,hj,hf⟩)
     clear g4 hrw4 y0 y1 hj hjl hf hz
     by_cases hxy:ex=fx∧ey=fy
     ·obtain⟨hx1,hy1⟩:=hxy
      subst hx1
      subst hy1
      refine Zb [] (Nw w4) (by kernel_rfl) ?_
      change Za _ _ _ _ _ _ 11 #[false,false,false,false,false,false,false,false,false,false,false] _ w4.drew
      obtain⟨y4,hy4⟩:∃y,w4.drew=y:=⟨_,rfl⟩
      rw[hy4]
      have hS0:Nw w4 y4:=by rw[←hy4];exact(Nw.refl w4).dr
      clear hy4
      refine Z0 0 rfl (by kernel_rfl) (by kernel_rfl) (by kernel_rfl) (fun v c a w h=>h) ?_
      (first | (refine⟨undef,Or.inr ⟨by rfl,rfl⟩,?_⟩) | (apply Exists.intro;refine⟨Or.inl ⟨by rfl,?_⟩,?_⟩;(intro x hx';go_simp;first | done | with_reducible rfl)))
      (try simp only[Act.put,List.getElem_toArray,List.getElem_cons_zero,List.getElem_cons_succ,List.setIfInBounds_toArray,List.set_cons_zero,List.set_cons_succ])
      refine Z0 1 rfl (by kernel_rfl) (by kernel_rfl) (by kernel_rfl) (fun v c a w h=>h) ?_
      (first | (refine⟨undef,Or.inr ⟨by rfl,rfl⟩,?_⟩) | (apply Exists.intro;refine⟨Or.inl ⟨by rfl,?_⟩,?_⟩;(intro x hx';go_simp;first | done | with_reducible rfl)))
      (try simp only[Act.put,List.getElem_toArray,List.getElem_cons_zero,List.getElem_cons_succ,List.setIfInBounds_toArray,List.set_cons_zero,List.set_cons_succ])
      refine Z0 2 rfl (by kernel_rfl) (by kernel_rfl) (by kernel_rfl) (fun v c a w h=>h) ?_
      (first | (refine⟨undef,Or.inr ⟨by rfl,rfl⟩,?_⟩) | (apply Exists.intro;refine⟨Or.inl ⟨by rfl,?_⟩,?_⟩;(intro x hx';go_simp;first | done | with_reducible rfl)))
      (try simp only[Act.put,List.getElem_toArray,List.getElem_cons_zero,List.getElem_cons_succ,List.setIfInBounds_toArray,List.set_cons_zero,List.set_cons_succ])
      refine Z1 3 rfl (by kernel_rfl) (by kernel_rfl) (by kernel_rfl) (by kernel_rfl) (fun v c a w h=>h) hS0 ?_
      (first | (refine⟨undef,Or.inr ⟨by rfl,rfl⟩,?_⟩) | (apply Exists.intro;refine⟨Or.inl ⟨by rfl,?_⟩,?_⟩;(intro x hx';go_simp;first | done | with_reducible rfl)))
      (try simp only[Act.put,List.getElem_toArray,List.getElem_cons_zero,List.getElem_cons_succ,List.setIfInBounds_toArray,List.set_cons_zero,List.set_cons_succ])
      refine Z0 4 rfl (by kernel_rfl) (by kernel_rfl) (by kernel_rfl) (fun v c a w h=>h) ?_
      (first | (refine⟨undef,Or.inr ⟨by rfl,rfl⟩,?_⟩) | (apply Exists.intro;refine⟨Or.inl ⟨by rfl,?_⟩,?_⟩;(intro x hx';go_simp;first | done | with_reducible rfl)))
      (try simp only[Act.put,List.getElem_toArray,List.getElem_cons_zero,List.getElem_cons_succ,List.setIfInBounds_toArray,List.set_cons_zero,List.set_cons_succ])
      refine Z0 5 rfl (by kernel_rfl) (by kernel_rfl) (by kernel_rfl) (fun v c a w h=>h) ?_
      (first | (refine⟨undef,Or.inr ⟨by rfl,rfl⟩,?_⟩) | (apply Exists.intro;refine⟨Or.inl ⟨by rfl,?_⟩,?_⟩;(intro x hx';go_simp;first | done | with_reducible rfl)))
      (try simp only[Act.put,List.getElem_toArray,List.getElem_cons_zero,List.getElem_cons_succ,List.setIfInBounds_toArray,List.set_cons_zero,List.set_cons_succ])
      refine Z0 6 rfl (by kernel_rfl) (by kernel_rfl) (by kernel_rfl) (fun v c a w h=>h) ?_
      (first | (refine⟨undef,Or.inr ⟨by rfl,rfl⟩,?_⟩) | (apply Exists.intro;refine⟨Or.inl ⟨by rfl,?_⟩,?_⟩;(intro x hx';go_simp;first | done | with_reducible rfl)))
      (try simp only[Act.put,List.getElem_toArray,List.getElem_cons_zero,List.getElem_cons_succ,List.setIfInBounds_toArray,List.set_cons_zero,List.set_cons_succ])
      refine Z0 7 rfl (by kernel_rfl) (by kernel_rfl) (by kernel_rfl) (fun v c a w h=>h) ?_
      (first | (refine⟨undef,Or.inr ⟨by rfl,rfl⟩,?_⟩) | (apply Exists.intro;refine⟨Or.inl ⟨by rfl,?_⟩,?_⟩;(intro x hx';go_simp;first | done | with_reducible rfl)))
      (try simp only[Act.put,List.getElem_toArray,List.getElem_cons_zero,List.getElem_cons_succ,List.setIfInBounds_toArray,List.set_cons_zero,List.set_cons_succ])
      refine Z1 8 rfl (by kernel_rfl) (by kernel_rfl) (by kernel_rfl) (by kernel_rfl) (fun v c a w h=>h) hS0 ?_
      (first | (refine⟨undef,Or.inr ⟨by rfl,rfl⟩,?_⟩) | (apply Exists.intro;refine⟨Or.inl ⟨by rfl,?_⟩,?_⟩;(intro x hx';go_simp;first | done | with_reducible rfl)))
      (try simp only[Act.put,List.getElem_toArray,List.getElem_cons_zero,List.getElem_cons_succ,List.setIfInBounds_toArray,List.set_cons_zero,List.set_cons_succ])
      refine Z0 9 rfl (by kernel_rfl) (by kernel_rfl) (by kernel_rfl) (fun v c a w h=>h) ?_
      (first | (refine⟨undef,Or.inr ⟨by rfl,rfl⟩,?_⟩) | (apply Exists.intro;refine⟨Or.inl ⟨by rfl,?_⟩,?_⟩;(intro x hx';go_simp;first | done | with_reducible rfl)))
      (try simp only[Act.put,List.getElem_toArray,List.getElem_cons_zero,List.getElem_cons_succ,List.setIfInBounds_toArray,List.set_cons_zero,List.set_cons_succ])
      refine Z0 10 rfl (by kernel_rfl) (by kernel_rfl) (by kernel_rfl) (fun v c a w h=>h) ?_
      (first | (refine⟨undef,Or.inr ⟨by rfl,rfl⟩,?_⟩) | (apply Exists.intro;refine⟨Or.inl ⟨by rfl,?_⟩,?_⟩;(intro x hx';go_simp;first | done | with_reducible rfl)))
      (try simp only[Act.put,List.getElem_toArray,List.getElem_cons_zero,List.getElem_cons_succ,List.setIfInBounds_toArray,List.set_cons_zero,List.set_cons_succ])
      refine Z5 (by kernel_rfl) ?_ _
      refine NoPanic.normal ?_
      (try simp only[Act.put,List.getElem_toArray,List.getElem_cons_zero,List.getElem_cons_succ,List.setIfInBounds_toArray,List.set_cons_zero,List.set_cons_succ])
      have HS:=hD0 (show OnI W0 l (.slice sa sb sc) k1 out y4 from⟨Yo HI4.out.own hS0,HI4.out.nw.trans hS0,by
       obtain⟨hjl,hj,hf⟩:=HF.out
       rw[←HK1.out]
       exact HI4.out.on.skip hkl hjl hj (by rw[HE.out,hf])⟩)
      clear hS0 tB0 tB1 ty0 ty1 HI4
      go_wp2_with fail
      go_roundw
      case rel=>exact⟨k1,out,sa,sb,sc,rfl,rfl,by rw[←HK1.out];exact hlt,HS⟩
      case measure=>rw[←HK1.out];exact Zh hlt
     ·have HO:=hD0 (show Yq l (k+1) (out++[(ex,ey)]) from by
       obtain⟨hjl,hj,hf⟩:=HF.out
       have:=HI4.out.on.push HW.out hkl (.inr ⟨_,hjl,hj,by
        rw[HE.out,hf]
        exact fun q=>hxy ⟨congrArg Prod.fst q,congrArg Prod.snd q⟩⟩)
       rwa [HE.out] at this)
      by_cases hx:ex=fx
      ·subst hx
       have hy1:(ey==fy)=false:=by simpa using fun q=>hxy ⟨rfl,q⟩
       have hy3:¬ey=fy:=fun q=>hxy ⟨rfl,q⟩
       clear hxy
       refine Zb [] (Nw w4) (by kernel_rfl) ?_
       change Za _ _ _ _ _ _ 11 #[false,false,false,false,false,false,false,false,false,false,false] _ w4.drew
       obtain⟨y4,hy4⟩:∃y,w4.drew=y:=⟨_,rfl⟩
       rw[hy4]
       have hS0:Nw w4 y4:=by rw[←hy4];exact(Nw.refl w4).dr
       clear hy4
       refine Z0 0 rfl (by kernel_rfl) (by kernel_rfl) (by kernel_rfl) (fun v c a w h=>h) ?_
       (first | (refine⟨undef,Or.inr ⟨by rfl,rfl⟩,?_⟩) | (apply Exists.intro;refine⟨Or.inl ⟨by rfl,?_⟩,?_⟩;(intro x hx';go_simp;first | done | with_reducible rfl)))
       (try simp only[Act.put,List.getElem_toArray,List.getElem_cons_zero,List.getElem_cons_succ,List.setIfInBounds_toArray,List.set_cons_zero,List.set_cons_succ])
       refine Z0 1 rfl (by kernel_rfl) (by kernel_rfl) (by kernel_rfl) (fun v c a w h=>h) ?_
       (first | (refine⟨undef,Or.inr ⟨by rfl,rfl⟩,?_⟩) | (apply Exists.intro;refine⟨Or.inl ⟨by rfl,?_⟩,?_⟩;(intro x hx';go_simp;first | done | with_reducible rfl)))
       (try simp only[Act.put,List.getElem_toArray,List.getElem_cons_zero,List.getElem_cons_succ,List.setIfInBounds_toArray,List.set_cons_zero,List.set_cons_succ])
       refine Z0 2 rfl (by kernel_rfl) (by kernel_rfl) (by kernel_rfl) (fun v c a w h=>h) ?_
       (first | (refine⟨undef,Or.inr ⟨by rfl,rfl⟩,?_⟩) | (apply Exists.intro;refine⟨Or.inl ⟨by rfl,?_⟩,?_⟩;(intro x hx';go_simp;first | done | with_reducible rfl)))
       (try simp only[Act.put,List.getElem_toArray,List.getElem_cons_zero,List.getElem_cons_succ,List.setIfInBounds_toArray,List.set_cons_zero,List.set_cons_succ])
       refine Z1 3 rfl (by kernel_rfl) (by kernel_rfl) (by kernel_rfl) (by kernel_rfl) (fun v c a w h=>h) hS0 ?_
       (first | (refine⟨undef,Or.inr ⟨by rfl,rfl⟩,?_⟩) | (apply Exists.intro;refine⟨Or.inl ⟨by rfl,?_⟩,?_⟩;(intro x hx';go_simp;first | done | with_reducible rfl)))
       (try simp only[Act.put,List.getElem_toArray,List.getElem_cons_zero,List.getElem_cons_succ,List.setIfInBounds_toArray,List.set_cons_zero,List.set_cons_succ])
       refine Z0 4 rfl (by kernel_rfl) (by kernel_rfl) (by kernel_rfl) (fun v c a w h=>h) ?_
       (first | (refine⟨undef,Or.inr ⟨by rfl,rfl⟩,?_⟩) | (apply Exists.intro;refine⟨Or.inl ⟨by rfl,?_⟩,?_⟩;(intro x hx';go_simp;first | done | with_reducible rfl)))
       (try simp only[Act.put,List.getElem_toArray,List.getElem_cons_zero,List.getElem_cons_succ,List.setIfInBounds_toArray,List.set_cons_zero,List.set_cons_succ])
       refine Z0 5 rfl (by kernel_rfl) (by kernel_rfl) (by kernel_rfl) (fun v c a w h=>h) ?_
       (first | (refine⟨undef,Or.inr ⟨by rfl,rfl⟩,?_⟩) | (apply Exists.intro;refine⟨Or.inl ⟨by rfl,?_⟩,?_⟩;(intro x hx';go_simp;first | done | with_reducible rfl)))
       (try simp only[Act.put,List.getElem_toArray,List.getElem_cons_zero,List.getElem_cons_succ,List.setIfInBounds_toArray,List.set_cons_zero,List.set_cons_succ])
       refine Z0 6 rfl (by kernel_rfl) (by kernel_rfl) (by kernel_rfl) (fun v c a w h=>h) ?_
       (first | (refine⟨undef,Or.inr ⟨by rfl,rfl⟩,?_⟩) | (apply Exists.intro;refine⟨Or.inl ⟨by rfl,?_⟩,?_⟩;(intro x hx';go_simp;first | done | with_reducible rfl)))
       (try simp only[Act.put,List.getElem_toArray,List.getElem_cons_zero,List.getElem_cons_succ,List.setIfInBounds_toArray,List.set_cons_zero,List.set_cons_succ])
       refine Z0 7 rfl (by kernel_rfl) (by kernel_rfl) (by kernel_rfl) (fun v c a w h=>h) ?_
       (first | (refine⟨undef,Or.inr ⟨by rfl,rfl⟩,?_⟩) | (apply Exists.intro;refine⟨Or.inl ⟨by rfl,?_⟩,?_⟩;(intro x hx';go_simp;first | done | with_reducible rfl)))
       (try simp only[Act.put,List.getElem_toArray,List.getElem_cons_zero,List.getElem_cons_succ,List.setIfInBounds_toArray,List.set_cons_zero,List.set_cons_succ])
       refine Z1 8 rfl (by kernel_rfl) (by kernel_rfl) (by kernel_rfl) (by kernel_rfl) (fun v c a w h=>h) hS0 ?_
       (first | (refine⟨undef,Or.inr ⟨by rfl,rfl⟩,?_⟩) | (apply Exists.intro;refine⟨Or.inl ⟨by rfl,?_⟩,?_⟩;(intro x hx';go_simp;first | done | with_reducible rfl)))
       (try simp only[Act.put,List.getElem_toArray,List.getElem_cons_zero,List.getElem_cons_succ,List.setIfInBounds_toArray,List.set_cons_zero,List.set_cons_succ])
       refine Z0 9 rfl (by kernel_rfl) (by kernel_rfl) (by kernel_rfl) (fun v c a w h=>h) ?_
       (first | (refine⟨undef,Or.inr ⟨by rfl,rfl⟩,?_⟩) | (apply Exists.intro;refine⟨Or.inl ⟨by rfl,?_⟩,?_⟩;(intro x hx';go_simp;first | done | with_reducible rfl)))
       (try simp only[Act.put,List.getElem_toArray,List.getElem_cons_zero,List.getElem_cons_succ,List.setIfInBounds_toArray,List.set_cons_zero,List.set_cons_succ])
       refine Z0 10 rfl (by kernel_rfl) (by kernel_rfl) (by kernel_rfl) (fun v c a w h=>h) ?_
       (first | (refine⟨undef,Or.inr ⟨by rfl,rfl⟩,?_⟩) | (apply Exists.intro;refine⟨Or.inl ⟨by rfl,?_⟩,?_⟩;(intro x hx';go_simp;first | done | with_reducible rfl)))
       (try simp only[Act.put,List.getElem_toArray,List.getElem_cons_zero,List.getElem_cons_succ,List.setIfInBounds_toArray,List.set_cons_zero,List.set_cons_succ])
       refine Z5 (by kernel_rfl) ?_ _
       refine NoPanic.normal ?_
       (try simp only[Act.put,List.getElem_toArray,List.getElem_cons_zero,List.getElem_cons_succ,List.setIfInBounds_toArray,List.set_cons_zero,List.set_cons_succ])
       have hal6:=Z4 y4 (.cells #[.int .i64 ex,.int .i64 ey] 36)
       have g6:Nw y4 (y4.alloc (.cells #[.int .i64 ex,.int .i64 ey] 36)):=(Nw.refl y4).alloc _
       obtain⟨v',w6,hr6,hO6,hg6,_,ga6,cc6,rfl⟩:=Zu.push Y6 (Yo (Yo HI4.out.own hS0) g6) (ex,ey) y4.heap.size 1 (fun j u hu=>by
        rw[Z2 hal6]
        simpa [Zc] using hu) (by have:=HI4.out.on.len;omega) ((HI4.out.nw.trans hS0).trans g6).sz
       have HI6:=hD0 (show OnI W0 l (.slice (some ⟨ga6,0,none⟩) (out.length+1) cc6) k1 (out++[(ex,ey)]) w6 from⟨hO6,((HI4.out.nw.trans hS0).trans g6).gro hg6 (fun b e=>Va HI4.out.own e),by rw[←HK1.out];exact HO.out⟩)
       have HR6:=hD0 hr6
       have hb0:=tB0 y4 hS0
       have hb1:=tB1 y4 hS0
       have hBl:=lL0 (Go.Proofs.YtbnpnccpobkodaaGreat.hlt HAL.out) hS0.sz
       clear hal6 g6 hr6 hO6 hg6 hS0 tB0 tB1 HI4 ty0 ty1
       go_wp2_with (at_builtin;refine Z6 (by rfl) (.tmp 24) (.tmp 26) 22 rfl _ _ _ _ rfl rfl HR6.out ?_)
       go_roundw
       case rel=>exact⟨k1,out++[(ex,ey)],some ⟨ga6,0,none⟩,out.length+1,cc6,rfl,rfl,by rw[←HK1.out];exact hlt,HI6⟩
       case measure=>rw[←HK1.out];exact Zh hlt
      ·have hx1:(ex==fx)=false:=by simpa using hx
       clear hxy
       refine Zb [] (Nw w4) (by kernel_rfl) ?_
       change Za _ _ _ _ _ _ 11 #[false,false,false,false,false,false,false,false,false,false,false] _ w4.drew
       obtain⟨y4,hy4⟩:∃y,w4.drew=y:=⟨_,rfl⟩
       rw[hy4]
       have hS0:Nw w4 y4:=by rw[←hy4];exact(Nw.refl w4).dr
       clear hy4
       refine Z0 0 rfl (by kernel_rfl) (by kernel_rfl) (by kernel_rfl) (fun v c a w h=>h) ?_
       (first | (refine⟨undef,Or.inr ⟨by rfl,rfl⟩,?_⟩) | (apply Exists.intro;refine⟨Or.inl ⟨by rfl,?_⟩,?_⟩;(intro x hx';go_simp;first | done | with_reducible rfl)))
       (try simp only[Act.put,List.getElem_toArray,List.getElem_cons_zero,List.getElem_cons_succ,List.setIfInBounds_toArray,List.set_cons_zero,List.set_cons_succ])
       refine Z0 1 rfl (by kernel_rfl) (by kernel_rfl) (by kernel_rfl) (fun v c a w h=>h) ?_
       (first | (refine⟨undef,Or.inr ⟨by rfl,rfl⟩,?_⟩) | (apply Exists.intro;refine⟨Or.inl ⟨by rfl,?_⟩,?_⟩;(intro x hx';go_simp;first | done | with_reducible rfl)))
       (try simp only[Act.put,List.getElem_toArray,List.getElem_cons_zero,List.getElem_cons_succ,List.setIfInBounds_toArray,List.set_cons_zero,List.set_cons_succ])
       refine Z0 2 rfl (by kernel_rfl) (by kernel_rfl) (by kernel_rfl) (fun v c a w h=>h) ?_
       (first | (refine⟨undef,Or.inr ⟨by rfl,rfl⟩,?_⟩) | (apply Exists.intro;refine⟨Or.inl ⟨by rfl,?_⟩,?_⟩;(intro x hx';go_simp;first | done | with_reducible rfl)))
       (try simp only[Act.put,List.getElem_toArray,List.getElem_cons_zero,List.getElem_cons_succ,List.setIfInBounds_toArray,List.set_cons_zero,List.set_cons_succ])
       refine Z1 3 rfl (by kernel_rfl) (by kernel_rfl) (by kernel_rfl) (by kernel_rfl) (fun v c a w h=>h) hS0 ?_
       (first | (refine⟨undef,Or.inr ⟨by rfl,rfl⟩,?_⟩) | (apply Exists.intro;refine⟨Or.inl ⟨by rfl,?_⟩,?_⟩;(intro x hx';go_simp;first | done | with_reducible rfl)))
       (try simp only[Act.put,List.getElem_toArray,List.getElem_cons_zero,List.getElem_cons_succ,List.setIfInBounds_toArray,List.set_cons_zero,List.set_cons_succ])
       refine Z0 4 rfl (by kernel_rfl) (by kernel_rfl) (by kernel_rfl) (fun v c a w h=>h) ?_
       (first | (refine⟨undef,Or.inr ⟨by rfl,rfl⟩,?_⟩) | (apply Exists.intro;refine⟨Or.inl ⟨by rfl,?_⟩,?_⟩;(intro x hx';go_simp;first | done | with_reducible rfl)))
       (try simp only[Act.put,List.getElem_toArray,List.getElem_cons_zero,List.getElem_cons_succ,List.setIfInBounds_toArray,List.set_cons_zero,List.set_cons_succ])
       refine Z0 5 rfl (by kernel_rfl) (by kernel_rfl) (by kernel_rfl) (fun v c a w h=>h) ?_
       (first | (refine⟨undef,Or.inr ⟨by rfl,rfl⟩,?_⟩) | (apply Exists.intro;refine⟨Or.inl ⟨by rfl,?_⟩,?_⟩;(intro x hx';go_simp;first | done | with_reducible rfl)))
       (try simp only[Act.put,List.getElem_toArray,List.getElem_cons_zero,List.getElem_cons_succ,List.setIfInBounds_toArray,List.set_cons_zero,List.set_cons_succ])
       refine Z0 6 rfl (by kernel_rfl) (by kernel_rfl) (by kernel_rfl) (fun v c a w h=>h) ?_
       (first | (refine⟨undef,Or.inr ⟨by rfl,rfl⟩,?_⟩) | (apply Exists.intro;refine⟨Or.inl ⟨by rfl,?_⟩,?_⟩;(intro x hx';go_simp;first | done | with_reducible rfl)))
       (try simp only[Act.put,List.getElem_toArray,List.getElem_cons_zero,List.getElem_cons_succ,List.setIfInBounds_toArray,List.set_cons_zero,List.set_cons_succ])
       refine Z0 7 rfl (by kernel_rfl) (by kernel_rfl) (by kernel_rfl) (fun v c a w h=>h) ?_
       (first | (refine⟨undef,Or.inr ⟨by rfl,rfl⟩,?_⟩) | (apply Exists.intro;refine⟨Or.inl ⟨by rfl,?_⟩,?_⟩;(intro x hx';go_simp;first | done | with_reducible rfl)))
       (try simp only[Act.put,List.getElem_toArray,List.getElem_cons_zero,List.getElem_cons_succ,List.setIfInBounds_toArray,List.set_cons_zero,List.set_cons_succ])
       refine Z1 8 rfl (by kernel_rfl) (by kernel_rfl) (by kernel_rfl) (by kernel_rfl) (fun v c a w h=>h) hS0 ?_
       (first | (refine⟨undef,Or.inr ⟨by rfl,rfl⟩,?_⟩) | (apply Exists.intro;refine⟨Or.inl ⟨by rfl,?_⟩,?_⟩;(intro x hx';go_simp;first | done | with_reducible rfl)))
       (try simp only[Act.put,List.getElem_toArray,List.getElem_cons_zero,List.getElem_cons_succ,List.setIfInBounds_toArray,List.set_cons_zero,List.set_cons_succ])
       refine Z0 9 rfl (by kernel_rfl) (by kernel_rfl) (by kernel_rfl) (fun v c a w h=>h) ?_
       (first | (refine⟨undef,Or.inr ⟨by rfl,rfl⟩,?_⟩) | (apply Exists.intro;refine⟨Or.inl ⟨by rfl,?_⟩,?_⟩;(intro x hx';go_simp;first | done | with_reducible rfl)))
       (try simp only[Act.put,List.getElem_toArray,List.getElem_cons_zero,List.getElem_cons_succ,List.setIfInBounds_toArray,List.set_cons_zero,List.set_cons_succ])
       refine Z0 10 rfl (by kernel_rfl) (by kernel_rfl) (by kernel_rfl) (fun v c a w h=>h) ?_
       (first | (refine⟨undef,Or.inr ⟨by rfl,rfl⟩,?_⟩) | (apply Exists.intro;refine⟨Or.inl ⟨by rfl,?_⟩,?_⟩;(intro x hx';go_simp;first | done | with_reducible rfl)))
       (try simp only[Act.put,List.getElem_toArray,List.getElem_cons_zero,List.getElem_cons_succ,List.setIfInBounds_toArray,List.set_cons_zero,List.set_cons_succ])
       refine Z5 (by kernel_rfl) ?_ _
       refine NoPanic.normal ?_
       (try simp only[Act.put,List.getElem_toArray,List.getElem_cons_zero,List.getElem_cons_succ,List.setIfInBounds_toArray,List.set_cons_zero,List.set_cons_succ])
       have hal6:=Z4 y4 (.cells #[.int .i64 ex,.int .i64 ey] 36)
       have g6:Nw y4 (y4.alloc (.cells #[.int .i64 ex,.int .i64 ey] 36)):=(Nw.refl y4).alloc _
       obtain⟨v',w6,hr6,hO6,hg6,_,ga6,cc6,rfl⟩:=Zu.push Y6 (Yo (Yo HI4.out.own hS0) g6) (ex,ey) y4.heap.size 1 (fun j u hu=>by
        rw[Z2 hal6]
        simpa [Zc] using hu) (by have:=HI4.out.on.len;omega) ((HI4.out.nw.trans hS0).trans g6).sz
       have HI6:=hD0 (show OnI W0 l (.slice (some ⟨ga6,0,none⟩) (out.length+1) cc6) k1 (out++[(ex,ey)]) w6 from⟨hO6,((HI4.out.nw.trans hS0).trans g6).gro hg6 (fun b e=>Va HI4.out.own e),by rw[←HK1.out];exact HO.out⟩)
       have HR6:=hD0 hr6
       have hb0:=tB0 y4 hS0
       have hb1:=tB1 y4 hS0
       have hBl:=lL0 (Go.Proofs.YtbnpnccpobkodaaGreat.hlt HAL.out) hS0.sz
       clear hal6 g6 hr6 hO6 hg6 hS0 tB0 tB1 HI4 ty0 ty1
       go_wp2_with (at_builtin;refine Z6 (by rfl) (.tmp 24) (.tmp 26) 22 rfl _ _ _ _ rfl rfl HR6.out ?_)
       go_roundw
       case rel=>exact⟨k1,out++[(ex,ey)],some ⟨ga6,0,none⟩,out.length+1,cc6,rfl,rfl,by rw[←HK1.out];exact hlt,HI6⟩
       case measure=>rw[←HK1.out];exact Zh hlt
  ·obtain rfl:k=n:=Nat.le_antisymm hkn (Nat.le_of_not_lt hlt)
   have Zr:¬k<k:=Nat.lt_irrefl k
   clear hlt
   go_wp2
   go_ret
   exact⟨_,out,rfl,HI.out.own,HI.out.nw,HI.out.on⟩
theorem Weak.of{l:List (Int × Int)}(h:l.Pairwise fun a b=>ltOf Z3x b a=false):Z6g l:=h.imp (fun {a b} q=>by
 rw[Z01] at q
 exact of_decide_eq_false q)
theorem Z0u{w:World}{v:Value}{l:List (Int × Int)}(h:Zk w v l)(hl:l.length≤5000) :
  Calls prog 35 #[v] w fun e w'=>∃v',e=.returned v'∧Z9 w' w.heap.size v' (sortE l)∧Nw w w':=by
 have HC:=hD0 (Z6x v l w (Nat.le_trans hl (by decide)) h)
 obtain⟨a,c,rfl⟩:=h.form
 have HL:=hD0 hl
 clear h hl
 go_enter func35,ntmps35
 go_wp2_with fail
 refine HC.out.mono ?_
 rintro e w1 ⟨v1,rfl,g1,hO1⟩
 rcases Ve hO1 with⟨rfl,hz⟩ | ⟨g,cap,rfl⟩
 ·have hl0:l=[]:=List.length_eq_zero_iff.1 hz
  have HS:=hD0 (AnyF.slices_SortFunc_none (P:=prog) { Tryz.sortE with } none 0 (.func (.func 54) #[] #[]) w1)
  have HOn:=hD0 (Z1m (W0:=w1) (v:=.slice none 0 0) (l:=[]) (Rd.nil w1) (by simp) List.Pairwise.nil)
  have HG:=hD0 (aI0 g1 hl0)
  clear g1 hl0 hO1 hz HC
  go_wp2_with fail
  refine Calls.mono HS.out ?_
  rintro e w2 ⟨rfl,rfl⟩
  go_wp2_with fail
  refine HOn.out.mono ?_
  rintro e w3 ⟨v3,out,rfl,hO,hN,hP⟩
  have HE:=hD0 (show Z9 w3 w.heap.size v3 (sortE l)∧Nw w w3 from by
   have e:out=[]:=by
    have:=hP.len
    exact List.length_eq_zero_iff.1 (Nat.le_zero.1 this)
   rw[HG.out.2]
   subst e
   exact⟨Us hO (fun b q=>by have:=Va hO q;have:=HG.out.1.sz;omega),HG.out.1.trans hN⟩)
  clear hO hN hP
  go_wp2
  go_ret
  exact⟨_,rfl,HE.out.1,HE.out.2⟩
 ·have HS:=hD0 (Z6a Y6 (ρ:=_) { Tryz.sortE with } (by intro w;kernel_rfl) (by intro w;kernel_rfl) Z3x Z6p 54 Z6y Z15 _ g cap l w1 hO1 (Nat.le_trans HL.out (by decide)))
  have HG:=hD0 (aI0 g1 (Va hO1 (g:=g) rfl))
  clear g1 hO1 HC
  go_wp2_with fail
  refine Calls.mono HS.out ?_
  rintro e w2 ⟨rfl,l2,hp,hs,hO2,ht⟩
  have hl2:l2.length=l.length:=hp.length_eq
  have hO2':=hO2
  rw[hl2] at hO2'
  have g2:Nw w w2:=Zm HG.out.1 ht (fun i e=>by subst e;exact HG.out.2)
  have HOn:=hD0 (Z1m (W0:=w2) (v:=.slice (some ⟨g,0,none⟩) l2.length cap) (l:=l2) (Z9.at_ hO2) (by rw[hl2];exact HL.out) (Weak.of hs))
  rw[hl2] at HOn
  have HG2:=hD0 (aI0 g2 (aI0 hp hl2))
  clear g2 hp hs hO2 hO2' ht hl2 HS HG
  go_wp2_with fail
  refine HOn.out.mono ?_
  rintro e w3 ⟨v3,out,rfl,hO,hN,hP⟩
  have HE:=hD0 (show Z9 w3 w.heap.size v3 (sortE l)∧Nw w w3 from by
   have e:=hP.done (Nat.le_of_eq HG2.out.2.2) HG2.out.2.1
   subst e
   exact⟨Us hO (fun b q=>by have:=Va hO q;have:=HG2.out.1.sz;omega),HG2.out.1.trans hN⟩)
  clear hO hN hP
  go_wp2
  go_ret
  exact⟨_,rfl,HE.out.1,HE.out.2⟩
theorem Z4g{w:World}{v:Value}{l:List (Int × Int)}(h:Zk w v l)(hl:l.length≤1000) :
  Calls prog 35 #[v] w fun e w'=>∃v',e=.returned v'∧Z9 w' w.heap.size v' (sortE l)∧Nw w w':=Z0u h (Nat.le_trans hl (by decide))
end
def Yj(t:Int)(l:List Int):List (Int × Int):=l.map fun y=>(t,y)
theorem U1(t:Int)(l:List Int):(Yj t l).length=l.length:=by simp[Yj]
def edR(q:List Rq)(r:Rq):List (Int × Int):=if 0<r.sn then Yj r.txn (Yi q r.id) else[]
def Vg(q:List Rq)(k:Nat):List (Int × Int):=(q.take k).flatMap (edR q)
section
variable {W:Int} {q:List Rq} (h:Ok W q)
include h
theorem Z8r(e:Int × Int):e∈Vg q q.length↔∃r∈q,0<r.sn∧e.1=r.txn∧∃o∈q,o.id≠r.id∧blk r o=true∧o.txn=e.2:=by
 unfold Vg
 rw[List.take_of_length_le (Nat.le_refl _),List.mem_flatMap]
 constructor
 ·rintro⟨r,hr,he⟩
  unfold edR at he
  by_cases hs:0<r.sn
  ·rw[if_pos hs] at he
   obtain⟨y,hy,rfl⟩:=List.mem_map.1 he
   unfold Yi at hy
   rw[Z0g h hr] at hy
   simp only[if_pos hs] at hy
   exact⟨r,hr,hs,rfl,(Vp q r y).1 hy⟩
  ·rw[if_neg hs] at he;cases he
 ·rintro⟨r,hr,hs,e1,ho⟩
  refine⟨r,hr,?_⟩
  unfold edR
  rw[if_pos hs]
  refine List.mem_map.2 ⟨e.2,?_,by rw[←e1]⟩
  unfold Yi
  rw[Z0g h hr]
  simp only[if_pos hs]
  exact(Vp q r e.2).2 ho
end
theorem Z1y{w:World}{g n cap:Nat}{l:List Int}(h:IS w (.slice (some ⟨g,0,none⟩) n cap) l){i:Nat}(hi:i<l.length):w.cell? ⟨g,i,none⟩=some (.int .i64 l[i]):=by
 rw[h.cell i hi,List.getD_eq_getElem?_getD,List.getElem?_eq_getElem hi];rfl
structure TwI(W0:World)(t:Int)(l:List Int)(v:Value)(k:Nat)(w:World):Prop where
 own:Z9 w W0.heap.size v (Yj t (l.take k))
 nw:Nw W0 w
theorem Z4j{w0:World}{v:Value}{l:List Int}(h:IS w0 v l)(hl:l.length≤1000)(t:Int) :
  Calls prog 48 #[.int .i64 t,v] w0 fun e w'=>∃v',e=.returned v'∧Z9 w' w0.heap.size v' (Yj t l)∧Nw w0 w':=by
 obtain⟨la,lc,rfl,hla⟩:=h.box
 have HLA:=hD0 hla
 have HL:=hD0 h
 obtain⟨n,hn⟩:∃n,l.length=n:=⟨_,rfl⟩
 have HN:=hD0 hn
 rw[hn] at hl ⊢
 clear h hla hn
 go_enter func48,ntmps48
 go_wp2_with fail
 go_loopw [5,10] (fun v5 v10 wr=>∃(k:Nat) (a:Option Addr) (b c:Nat),v5=.slice a b c∧v10=.int .i64 k∧k≤n∧Hid (TwI w0 t l (.slice a b c) k wr)) (fun _ v10 _=>n-(intOf v10).toNat)
 case atStart=>exact⟨0,none,0,0,rfl,rfl,Nat.zero_le _,hD0 ⟨World.ownsRow_nil _ _ _ _,Nw.refl _⟩⟩
 case round =>
  obtain⟨k,sa,sb,sc,rfl,rfl,hkn,HI⟩:=hrel
  by_cases hlt:k<n
  ·have hkl:k<l.length:=by rw[HN.out];exact hlt
   obtain⟨lg,rfl,_⟩:=HLA.out (by omega)
   have cy:=Z1y (HL.out.nw HI.out.nw) hkl
   obtain⟨y,hy⟩:∃y,l[k]=y:=⟨_,rfl⟩
   rw[hy] at cy
   have Zr:=Zp hlt
   have hw:=Zo k (k+1) (Nat.le_trans (Nat.le_of_lt hlt) (Nat.le_trans hl (by decide))) rfl
   obtain⟨k1,hk1⟩:∃m,k+1=m:=⟨_,rfl⟩
   have HK1:=hD0 (aI0 hk1 hlt)
   have htk:Yj t (l.take k1)=Yj t (l.take k)++[(t,y)]:=by
    rw[←hk1,←hy,List.take_succ_eq_append_getElem hkl]
    simp only[Yj,List.map_append,List.map_cons,List.map_nil]
   rw[hk1] at hw
   have hal6:=Z4 wr (.cells #[.int .i64 t,.int .i64 y] 36)
   have g6:Nw wr (wr.alloc (.cells #[.int .i64 t,.int .i64 y] 36)):=(Nw.refl wr).alloc _
   obtain⟨v',w6,hr6,hO6,hg6,_,ga6,cc6,rfl⟩:=Zu.push Y6 (Yo HI.out.own g6) (t,y) wr.heap.size 1 (fun j u hu=>by
    rw[Z2 hal6]
    simpa [Zc] using hu) (by rw[U1,List.length_take];omega) (HI.out.nw.trans g6).sz
   have HI6:=hD0 (show TwI w0 t l (.slice (some ⟨ga6,0,none⟩) ((Yj t (l.take k)).length+1) cc6) k1 w6 from⟨by rw[htk];exact hO6,(HI.out.nw.trans g6).gro hg6 (fun b e=>Va HI.out.own e)⟩)
   have HR6:=hD0 hr6
   clear hal6 g6 hr6 hO6 hg6 HI hk1 hy htk hkl hlt
   go_wp2_with (at_builtin;refine Z6 (by rfl) (.tmp 14) (.tmp 18) 22 rfl _ _ _ _ rfl rfl HR6.out ?_)
   exact⟨⟨k1,some ⟨ga6,0,none⟩,_,cc6,rfl,rfl,by rw[←HK1.out.1];exact HK1.out.2,HI6⟩,by rw[←HK1.out.1];exact Zh HK1.out.2⟩
  ·obtain rfl:k=n:=Nat.le_antisymm hkn (Nat.le_of_not_lt hlt)
   have Zr:¬k<k:=Nat.lt_irrefl k
   have HO:=hD0 (show Z9 wr w0.heap.size (.slice sa sb sc) (Yj t l)∧Nw w0 wr from by
    have:=HI.out.own
    rw[List.take_of_length_le (by rw[HN.out];exact Nat.le_refl k)] at this
    exact⟨this,HI.out.nw⟩)
   clear hlt HI
   go_wp2
   go_ret
   exact⟨_,rfl,HO.out.1,HO.out.2⟩
theorem V6{x:Int × Int}:∀ {o:List (Int × Int)} {k:Nat},k≤o.length→(∀j,(h:j<o.length)→j<k→V3 o[j] x)→(∀h:k<o.length,¬V3 o[k] x)→((∃h:k<o.length,o[k]=x)→Yy x o=o)∧((¬∃h:k<o.length,o[k]=x)→Yy x o=o.take k++x::o.drop k)
 | [],k,hk,_,_=>by
  obtain rfl:k=0:=by simpa using hk
  exact⟨fun⟨h,_⟩=>absurd h (Nat.lt_irrefl 0),fun _=>rfl⟩
 | a::t,0,_,_,h2=>by
  have n1:¬V3 a x:=h2 (Nat.succ_pos _)
  unfold Yy
  rw[if_neg n1]
  constructor
  ·rintro⟨_,e⟩
   rw[if_pos (show a=x from e)]
  ·intro n
   rw[if_neg (show ¬a=x from fun e=>n ⟨Nat.succ_pos _,e⟩)]
   rfl
 | a::t,k+1,hk,h1,h2=>by
  have l1:V3 a x:=h1 0 (Nat.succ_pos _) (Nat.succ_pos _)
  obtain⟨i1,i2⟩:=V6 (x:=x) (o:=t) (k:=k) (Nat.le_of_succ_le_succ hk) (fun j hj hjk=>h1 (j+1) (Nat.succ_lt_succ hj) (Nat.succ_lt_succ hjk)) (fun h=>h2 (Nat.succ_lt_succ h))
  unfold Yy
  rw[if_pos l1]
  constructor
  ·rintro⟨h,e⟩
   rw[i1 ⟨Nat.lt_of_succ_lt_succ h,e⟩]
  ·intro n
   rw[i2 (fun⟨h,e⟩=>n ⟨Nat.succ_lt_succ h,e⟩)]
   rfl
theorem Z4f{l:List (Int × Int)}{i:Nat}(h:i<l.length):sortE (l.take (i+1))=Yy l[i] (sortE (l.take i)):=by
 unfold sortE
 rw[List.take_succ_eq_append_getElem h,List.foldl_append]
 rfl
theorem Z40{l:List (Int × Int)}{t:Int}{i:Nat}(h:i<l.length):Zj (l.take (i+1)) t=Zj (l.take i) t++(if l[i].1≠t∧l[i].2≠t then[l[i]] else[]):=by
 unfold Zj
 rw[List.take_succ_eq_append_getElem h,List.filter_append]
 congr 1
 by_cases c:l[i].1≠t∧l[i].2≠t
 ·rw[if_pos c,List.filter_cons,List.filter_nil]
  simp[c.1,c.2]
 ·rw[if_neg c,List.filter_cons,List.filter_nil]
  by_cases d:l[i].1=t
  ·simp[d]
  ·have e:l[i].2=t:=Classical.byContradiction fun e=>c ⟨d,e⟩
   simp[e]
structure ReI(l:List (Int × Int))(a:Int)(out:List Int):Prop where
 srt:out.Pairwise (·<·)
 rch:∀y∈out,Yk l a y
theorem ReI.nil(l:List (Int × Int))(a:Int):ReI l a []:=⟨List.Pairwise.nil,fun _ h=>nomatch h⟩
def ReC(l:List (Int × Int))(a:Int)(out:List Int)(i:Nat):Prop:=∀j,(h:j<l.length)→j<i→l[j].1=a∨l[j].1∈out→l[j].2∈out
theorem ReC.succ{l:List (Int × Int)}{a:Int}{out:List Int}{i:Nat}(h:ReC l a out i)(hi:i<l.length)(k:l[i].1=a∨l[i].1∈out→l[i].2∈out):ReC l a out (i+1):=fun j hj hji q=>by
 rcases Nat.lt_or_ge j i with c | c
 ·exact h j hj c q
 ·obtain rfl:j=i:=by omega
  exact k q
theorem Z5f{l:List (Int × Int)}{a b:Int}{n:Nat}(w:Way l a n b):(n=1∧(a,b)∈l)∨∃m x,n=m+1∧Way l a m x∧(x,b)∈l:=by
 induction w with
 | one h=>exact .inl ⟨rfl,h⟩
 | @step a x b n h r ih =>
  rcases ih with⟨e,k⟩ | ⟨m,y,e,k1,k2⟩
  ·exact .inr ⟨1,x,by rw[e],.one h,k⟩
  ·exact .inr ⟨m+1,y,by rw[e],.step h k1,k2⟩
def Lev(l:List (Int × Int))(a:Int)(n:Nat)(x:Int):Prop:=(n=0∧x=a)∨(0<n∧Vj l a x n)
theorem Z31{l:List (Int × Int)}{a x y:Int}{n:Nat}(h:Lev l a n x)(e:(x,y)∈l):Way l a (n+1) y:=by
 rcases h with⟨rfl,rfl⟩ | ⟨_,f⟩
 ·exact .one e
 ·exact U2 f.1 e
theorem Z0c{l:List (Int × Int)}{a y:Int}{n:Nat}(h:Vj l a y (n+1)):∃x,Lev l a n x∧(x,y)∈l:=by
 rcases Z5f h.1 with⟨e,k⟩ | ⟨m,x,e,k1,k2⟩
 ·obtain rfl:n=0:=by omega
  exact⟨a,.inl ⟨rfl,rfl⟩,k⟩
 ·obtain rfl:n=m:=by omega
  refine⟨x,.inr ⟨Yu k1,k1,fun j w=>?_⟩,k2⟩
  have:=h.2 _ (U2 w k2)
  omega
theorem Z72{l:List (Int × Int)}{a:Int}(d:Nat):∀ {n:Nat} {y:Int},Vj l a y (n+1+d)→∃x,Vj l a x (n+1):=by
 induction d with
 | zero=>intro n y h;exact⟨y,h⟩
 | succ d ih =>
  intro n y h
  obtain⟨x,q,_⟩:=Z0c (n:=n+1+d) h
  rcases q with⟨e,_⟩ | ⟨_,f⟩
  ·omega
  ·exact ih f
def Z6e(l:List (Int × Int))(a b f:Int):Prop:=(∃n:Nat,f=n∧0<n∧Vj l a b n)∨(f = -1∧¬Yk l a b)
theorem Z6e.of{l:List (Int × Int)}{a b f:Int}(h:Z6e l a b f){n:Nat}(hn:0<n):f=n↔Vj l a b n:=by
 rcases h with⟨m,e,_,hf⟩ | ⟨e,hr⟩
 ·constructor
  ·intro k
   obtain rfl:m=n:=by omega
   exact hf
  ·intro k
   rw[e,Z0e hf k]
 ·constructor
  ·intro k;omega
  ·intro k;exact absurd (Z08 k.1) hr
structure LvI(l:List (Int × Int))(a b:Int)(n:Nat)(now seen:List Int):Prop where
 ino:∀x,x∈now↔Lev l a n x
 ise:∀y,y∈seen↔∃m,m≤n∧Way l a m y
 nd:seen.Nodup
 nb:∀m,m≤n→¬Way l a m b
theorem LvI.start(l:List (Int × Int))(a b:Int):LvI l a b 0 [a] [] :=
 ⟨fun x=>by simp[Lev],fun y=>⟨fun h=>(nomatch h),fun⟨m,h1,w⟩=>absurd (Yu w) (by omega)⟩,List.nodup_nil,fun m h w=>absurd (Yu w) (by omega)⟩
theorem LvI.done{l:List (Int × Int)}{a b:Int}{n:Nat}{seen:List Int}(h:LvI l a b n [] seen):¬Yk l a b:=fun r=>by
 obtain⟨m,f⟩:=Zah r
 have hm:n<m:=Nat.lt_of_not_le fun q=>h.nb m q f.1
 cases n with
 | zero=>exact nomatch (h.ino a).2 (.inl ⟨rfl,rfl⟩)
 | succ n =>
  obtain⟨x,hx⟩:=Z72 (m-(n+1)) (n:=n) (y:=b) (by rw[Nat.add_sub_cancel' (Nat.le_of_lt hm)];exact f)
  exact nomatch (h.ino x).2 (.inr ⟨Nat.succ_pos _,hx⟩)
structure LvJ(l:List (Int × Int))(a b:Int)(n:Nat)(now seen0 seen next:List Int)(i:Nat):Prop where
 top:LvI l a b n now seen0
 sn:seen=seen0++next
 mem:∀y,y∈next↔(∃j,∃h:j<l.length,j<i∧l[j].1∈now∧l[j].2=y)∧y∉seen0
 nd:seen.Nodup
 nb:∀j,(h:j<l.length)→j<i→l[j].1∈now→l[j].2≠b
theorem LvJ.start{l:List (Int × Int)}{a b:Int}{n:Nat}{now seen:List Int}(h:LvI l a b n now seen):LvJ l a b n now seen seen [] 0 :=
 ⟨h,by simp,fun y=>⟨fun q=>(nomatch q),fun⟨⟨j,_,q,_⟩,_⟩=>absurd q (Nat.not_lt_zero j)⟩,h.nd,fun j _ q=>absurd q (Nat.not_lt_zero j)⟩
theorem LvJ.skip{l:List (Int × Int)}{a b:Int}{n:Nat}{now seen0 seen next:List Int}{i:Nat}(h:LvJ l a b n now seen0 seen next i)(hi:i<l.length)(k:l[i].1∈now→l[i].2∈seen):LvJ l a b n now seen0 seen next (i+1):=by
 refine⟨h.top,h.sn,fun y=>?_,h.nd,fun j hj hji hn e=>?_⟩
 ·rw[h.mem y]
  constructor
  ·rintro⟨⟨j,hj,q,r⟩,s⟩
   exact⟨⟨j,hj,by omega,r⟩,s⟩
  ·rintro⟨⟨j,hj,q,r1,r2⟩,s⟩
   rcases Nat.lt_or_ge j i with c | c
   ·exact⟨⟨j,hj,c,r1,r2⟩,s⟩
   ·obtain rfl:j=i:=by omega
    have:=k r1
    rw[r2,h.sn,List.mem_append] at this
    exact(h.mem y).1 (this.resolve_left s)
 ·rcases Nat.lt_or_ge j i with c | c
  ·exact h.nb j hj c hn e
  ·obtain rfl:j=i:=by omega
   have:=k hn
   rw[h.sn,List.mem_append] at this
   rcases this with q | q
   ·obtain⟨m,h1,h2⟩:=(h.top.ise _).1 q
    rw[e] at h2
    exact h.top.nb m h1 h2
   ·obtain⟨⟨j',hj',c',r1,r2⟩,_⟩:=(h.mem _).1 q
    exact h.nb j' hj' c' r1 (by rw[r2,e])
theorem LvJ.push{l:List (Int × Int)}{a b:Int}{n:Nat}{now seen0 seen next:List Int}{i:Nat}(h:LvJ l a b n now seen0 seen next i)(hi:i<l.length)(h1:l[i].1∈now)(h2:l[i].2∉seen)(h3:l[i].2≠b):LvJ l a b n now seen0 (seen++[l[i].2]) (next++[l[i].2]) (i+1):=by
 have n0:l[i].2∉seen0:=fun q=>h2 (by rw[h.sn,List.mem_append];exact .inl q)
 refine⟨h.top,by rw[h.sn,List.append_assoc],fun y=>?_,?_,fun j hj hji hn e=>?_⟩
 ·rw[List.mem_append,List.mem_singleton,h.mem y]
  constructor
  ·rintro(⟨⟨j,hj,q,r⟩,s⟩ | rfl)
   ·exact⟨⟨j,hj,by omega,r⟩,s⟩
   ·exact⟨⟨i,hi,Nat.lt_succ_self i,h1,rfl⟩,n0⟩
  ·rintro⟨⟨j,hj,q,r1,r2⟩,s⟩
   rcases Nat.lt_or_ge j i with c | c
   ·exact .inl ⟨⟨j,hj,c,r1,r2⟩,s⟩
   ·obtain rfl:j=i:=by omega
    exact .inr r2.symm
 ·rw[List.nodup_append]
  exact⟨h.nd,by simp,fun x hx y hy e=>h2 (by rw[List.mem_singleton.1 hy] at e;rw[←e];exact hx)⟩
 ·rcases Nat.lt_or_ge j i with c | c
  ·exact h.nb j hj c hn e
  ·obtain rfl:j=i:=by omega
   exact h3 e
theorem LvJ.found{l:List (Int × Int)}{a b:Int}{n:Nat}{now seen0 seen next:List Int}{i:Nat}(h:LvJ l a b n now seen0 seen next i)(hi:i<l.length)(h1:l[i].1∈now)(h3:l[i].2=b):Vj l a b (n+1):=by
 have hl:(l[i].1,l[i].2)∈l:=gM0 hi
 rw[h3] at hl
 exact⟨Z31 ((h.top.ino _).1 h1) hl,fun m w=>Nat.lt_of_not_le fun q=>h.top.nb m q w⟩
theorem LvJ.next{l:List (Int × Int)}{a b:Int}{n:Nat}{now seen0 seen next:List Int}(h:LvJ l a b n now seen0 seen next l.length):LvI l a b (n+1) next seen:=by
 have hnx:∀y,y∈next↔Vj l a y (n+1):=fun y=>by
  rw[h.mem y]
  constructor
  ·rintro⟨⟨j,hj,_,r1,r2⟩,s⟩
   have hl:(l[j].1,l[j].2)∈l:=gM0 hj
   rw[r2] at hl
   exact⟨Z31 ((h.top.ino _).1 r1) hl,fun m w=>Nat.lt_of_not_le fun q=>s ((h.top.ise y).2 ⟨m,q,w⟩)⟩
  ·intro f
   obtain⟨x,hx,e⟩:=Z0c f
   obtain⟨j,hj,ej⟩:=List.getElem_of_mem e
   refine⟨⟨j,hj,hj,by rw[ej];exact(h.top.ino x).2 hx,by rw[ej]⟩,fun q=>?_⟩
   obtain⟨m,hm,w⟩:=(h.top.ise y).1 q
   have:=f.2 m w
   omega
 refine⟨fun y=>?_,fun y=>?_,h.nd,fun m hm w=>?_⟩
 ·rw[hnx y]
  exact⟨fun f=>.inr ⟨Nat.succ_pos n,f⟩,fun f=>f.elim (fun⟨e,_⟩=>absurd e (Nat.succ_ne_zero n)) (fun⟨_,f⟩=>f)⟩
 ·rw[h.sn,List.mem_append,hnx y]
  constructor
  ·rintro(q | q)
   ·obtain⟨m,hm,w⟩:=(h.top.ise y).1 q
    exact⟨m,by omega,w⟩
   ·exact⟨n+1,Nat.le_refl _,q.1⟩
  ·rintro⟨m,hm,w⟩
   by_cases c:∃k,k≤n∧Way l a k y
   ·exact .inl ((h.top.ise y).2 c)
   ·have:m=n+1:=by
     rcases Nat.lt_or_ge n m with q | q
     ·omega
     ·exact absurd ⟨m,q,w⟩ c
    subst this
    exact .inr ⟨w,fun k w'=>Nat.lt_of_not_le fun q=>c ⟨k,q,w'⟩⟩
 ·rcases Nat.lt_or_ge n m with q | q
  ·obtain rfl:m=n+1:=by omega
   obtain⟨k,x,e,w1,w2⟩:∃k x,n+1=k+1∧Lev l a k x∧(x,b)∈l:=by
    have f:Vj l a b (n+1):=⟨w,fun k w'=>Nat.lt_of_not_le fun q=>h.top.nb k q w'⟩
    obtain⟨x,hx,e⟩:=Z0c f
    exact⟨n,x,rfl,hx,e⟩
   obtain rfl:k=n:=by omega
   obtain⟨j,hj,ej⟩:=List.getElem_of_mem w2
   exact h.nb j hj hj (by rw[ej];exact(h.top.ino x).2 w1) (by rw[ej])
  ·exact h.top.nb m q w
def CyI(s:List (Int × Int))(i:Nat):Prop:=∀j,(h:j<s.length)→j<i→¬Yk s s[j].1 s[j].1
theorem CyI.zero(s:List (Int × Int)):CyI s 0:=fun j _ h=>absurd h (Nat.not_lt_zero j)
theorem CyI.succ{s:List (Int × Int)}{i:Nat}(h:CyI s i)(hi:i<s.length)(n:¬Yk s s[i].1 s[i].1):CyI s (i+1):=fun j hj hji=>by
 rcases Nat.lt_or_ge j i with c | c
 ·exact h j hj c
 ·obtain rfl:j=i:=by omega
  exact n
theorem CyI.done{s:List (Int × Int)}(h:CyI s s.length):¬∃v,Yk s v v:=fun⟨v,r⟩=>by
 obtain⟨y,e⟩:=Yz r
 obtain⟨j,hj,ej⟩:=List.getElem_of_mem e
 refine h j hj hj ?_
 rw[ej];exact r
theorem CyI.least{s:List (Int × Int)}(hs:Zn s){i:Nat}(h:CyI s i)(hi:i<s.length){v:Int}(r:Yk s v v):s[i].1≤v:=by
 obtain⟨y,e⟩:=Yz r
 obtain⟨j,hj,ej⟩:=List.getElem_of_mem e
 rcases Nat.lt_trichotomy j i with c | c | c
 ·exact absurd (by rw[ej];exact r) (h j hj c)
 ·subst c;rw[ej];exact Int.le_refl _
 ·have:=List.pairwise_iff_getElem.1 hs i j hi hj c
  rw[ej] at this
  unfold V3 at this
  simp only at this
  omega
structure GrI(s:List (Int × Int))(a:Int)(N:Nat)(r:List Int)(last:Int)(n:Nat):Prop where
 far:Vj s last a n
 pos:0<n
 len:r.length+n=N
 la:(a::r).getLast?=some last
 all:∀t,Greedy s a last n t→Greedy s a a N (r++t)
theorem GrI.start{s:List (Int × Int)}{a:Int}{N:Nat}(f:Vj s a a N):GrI s a N [] a N:=⟨f,Yu f.1,by simp,rfl,fun t g=>g⟩
theorem GrI.step{s:List (Int × Int)}(hs:Zn s){a:Int}{N:Nat}{r:List Int}{last:Int}{n:Nat}(h:GrI s a N r last (n+2)){k:Nat}(hk:k<s.length)(h1:s[k].1=last)(h2:Vj s s[k].2 a (n+1))(h3:∀j,(hj:j<s.length)→j<k→¬(s[j].1=last∧Vj s s[j].2 a (n+1))):GrI s a N (r++[s[k].2]) s[k].2 (n+1):=by
 refine⟨h2,Nat.succ_pos n,by have:=h.len;rw[List.length_append,List.length_singleton];omega,by rw[←List.cons_append,List.getLast?_concat],fun t g=>?_⟩
 rw[List.append_assoc]
 refine h.all _ (.step ?_ h2 (fun y hy f=>?_) g)
 ·rw[←h1];exact gM0 hk
 ·obtain⟨j,hj,ej⟩:=List.getElem_of_mem hy
  have hjk:k≤j:=Nat.le_of_not_lt fun q=>h3 j hj q ⟨by rw[ej],by rw[ej];exact f⟩
  rcases Nat.lt_or_eq_of_le hjk with c | c
  ·have:=List.pairwise_iff_getElem.1 hs k j hk hj c
   rw[ej] at this
   unfold V3 at this
   simp only[h1] at this
   omega
  ·subst c;rw[ej];exact Int.le_refl _
theorem GrI.has{s:List (Int × Int)}{a:Int}{N:Nat}{r:List Int}{last:Int}{n:Nat}(h:GrI s a N r last (n+2)):¬∀j,(hj:j<s.length)→¬(s[j].1=last∧Vj s s[j].2 a (n+1)):=fun q=>by
 obtain⟨x,e,f⟩:=Z74 h.far
 obtain⟨j,hj,ej⟩:=List.getElem_of_mem e
 exact q j hj ⟨by rw[ej],by rw[ej];exact f⟩
theorem GrI.done{s:List (Int × Int)}{a:Int}{N:Nat}{r:List Int}{last:Int}(h:GrI s a N r last 1)(hm:∀v,Yk s v v→a≤v)(f:Vj s a a N):Yl s (a::r) true:=by
 have hN:N=r.length+1:=h.len.symm
 have g:Greedy s a a N r:=by
  have:=h.all [] (.last (by
   rcases Z5f h.far.1 with⟨_,k⟩ | ⟨m,x,e,k1,_⟩
   ·exact k
   ·have:=Yu k1;omega))
  rwa [List.append_nil] at this
 subst hN
 exact⟨⟨fun _=>⟨a,Z08 f.1⟩,fun _=>rfl⟩,(fun q=>nomatch q),fun _=>⟨a,r,rfl,Z08 f.1,hm,f,g⟩⟩
theorem Yl.unsort{l:List (Int × Int)}{c:List Int}{b:Bool}(h:Yl (sortE l) c b):Yl l c b:=U7 (fun _=>V2) h
theorem Zbf(v:Value)(q:List (Int × Int))(w:World)(hl:q.length≤100000)(h:Zk w v q) :
  Calls prog 13 #[v] w fun e w'=>∃v',e=.returned v'∧Nw w w'∧Z9 w' w.heap.size v' q:=by
 obtain⟨v',w1,hrun,hO,hN⟩:=Yp Y6 h hl
 obtain⟨a,c,rfl,h⟩:=h
 have HR:=hD0 hrun
 have HO:=hD0 (aI0 hN hO)
 clear hrun hO hN h
 go_enter func13,ntmps13
 go_wp2_with (at_builtin;refine Z6 (by rfl) (.tmp 3) (.tmp 4) 22 rfl _ _ _ _ rfl rfl HR.out ?_)
 go_ret
 exact⟨_,rfl,HO.out.1,HO.out.2⟩
theorem Z5a{w0:World}{v:Value}{l:List Int}(h:IS w0 v l)(hl:l.length≤100000)(x:Int) :
  Calls prog 61 #[v,.int .i64 x] w0 fun e w'=>e=.returned (.bool (decide (x∈l)))∧Nw w0 w':=by
 have HL:=hD0 h
 obtain⟨la,lc,rfl,h1⟩:=h.box
 have H1:=hD0 h1
 obtain⟨n,hn⟩:∃n,l.length=n:=⟨_,rfl⟩
 have HN:=hD0 hn
 rw[hn] at hl ⊢
 obtain⟨B,hB⟩:∃b,decide (x∈l)=b:=⟨_,rfl⟩
 have HB:=hD0 hB
 rw[hB]
 clear h h1 hn hB
 go_enter func61,ntmps61
 go_wp2_with fail
 go_loopw [5] (fun v wr=>∃k:Nat,v=.int .i64 k∧k≤n∧Hid (x∉l.take k∧Nw w0 wr)) (fun v _=>n-(intOf v).toNat)
 case atStart=>exact⟨0,rfl,Nat.zero_le _,hD0 ⟨by simp,Nw.refl _⟩⟩
 case round =>
  obtain⟨k,rfl,hk,HG⟩:=hrel
  by_cases hlt:k<n
  ·have hkl:k<l.length:=by rw[HN.out];exact hlt
   obtain⟨lg,rfl,_⟩:=H1.out (by omega)
   have cy:=Z1y (HL.out.nw HG.out.2) hkl
   obtain⟨y,hy⟩:∃y,l[k]=y:=⟨_,rfl⟩
   rw[hy] at cy
   have HY:=hD0 (show ∃h:k<l.length,l[k]=y from⟨hkl,hy⟩)
   have Zr:=Zp hlt
   have hw:=Zo k (k+1) (Nat.le_trans (Nat.le_of_lt hlt) (Nat.le_trans hl (by decide))) rfl
   obtain⟨k1,hk1⟩:∃m,k+1=m:=⟨_,rfl⟩
   have HK1:=hD0 (aI0 hk1 hlt)
   rw[hk1] at hw
   clear hk1 hkl hy hlt
   by_cases e:y=x
   ·have d1:(y==x)=true:=by simpa using e
    have HT:=hD0 (show B=true from by
     obtain⟨h1,h2⟩:=HY.out
     rw[←HB.out,decide_eq_true_iff,←e,←h2]
     exact gM0 h1)
    clear e
    go_wp2_with fail
    go_ret
    exact⟨by rw[HT.out];rfl,HG.out.2⟩
   ·have d1:(y==x)=false:=by simpa using e
    have HT:=hD0 (show x∉l.take k1 from by
     obtain⟨h1,h2⟩:=HY.out
     rw[←HK1.out.1,List.take_succ_eq_append_getElem h1,List.mem_append,List.mem_singleton,h2]
     exact fun q=>q.elim HG.out.1 (fun q=>e q.symm))
    clear e
    go_wp2_with fail
    exact⟨⟨k1,rfl,by rw[←HK1.out.1];exact HK1.out.2,hD0 ⟨HT.out,HG.out.2⟩⟩,by rw[←HK1.out.1];exact Zh HK1.out.2⟩
  ·obtain rfl:k=n:=Nat.le_antisymm hk (Nat.le_of_not_lt hlt)
   have Zr:¬k<k:=Nat.lt_irrefl k
   have HT:=hD0 (show B=false from by
    rw[←HB.out,decide_eq_false_iff_not]
    have:=HG.out.1
    rwa [List.take_of_length_le (by rw[HN.out];exact Nat.le_refl _)] at this)
   clear hlt
   go_wp2_with fail
   go_ret
   exact⟨by rw[HT.out];rfl,HG.out.2⟩
theorem Z66{w0:World}(a b:Int × Int) :
  Calls prog 60 #[egV a,egV b] w0 fun e w'=>e=.returned (.bool (decide (V3 a b)))∧Nw w0 w':=by
 obtain⟨a1,a2⟩:=a
 obtain⟨b1,b2⟩:=b
 have hN:Nw w0 ((w0.alloc (.cells #[.int .i64 a1,.int .i64 a2] 36)).alloc (.cells #[.int .i64 b1,.int .i64 b2] 36)):=((Nw.refl w0).alloc _).alloc _
 have HN:=hD0 hN
 clear hN
 rcases Int.lt_trichotomy a1 b1 with h | h | h
 ·have d:decide (a1<b1)=true:=decide_eq_true h
  have HE:=hD0 (show decide (V3 (a1,a2) (b1,b2))=true from decide_eq_true (.inl h))
  rw[HE.out]
  clear h
  go_enter func60,ntmps60
  go_wp2_with fail
  go_ret
  exact⟨rfl,HN.out⟩
 ·subst h
  have d:decide (a1<a1)=false:=decide_eq_false (Int.lt_irrefl _)
  obtain⟨c,hc⟩:∃c,decide (a2<b2)=c:=⟨_,rfl⟩
  have HE:=hD0 (show decide (V3 (a1,a2) (a1,b2))=c from by
   rw[←hc]
   unfold V3
   simp[Int.lt_irrefl])
  rw[HE.out]
  go_enter func60,ntmps60
  go_wp2_with fail
  go_ret
  exact⟨rfl,HN.out⟩
 ·have d:decide (a1<b1)=false:=by rw[decide_eq_false_iff_not];omega
  have d2:(a1==b1)=false:=by rw[beq_eq_false_iff_ne];omega
  have HE:=hD0 (show decide (V3 (a1,a2) (b1,b2))=false from by
   rw[decide_eq_false_iff_not]
   unfold V3
   simp only
   omega)
  rw[HE.out]
  clear h
  go_enter func60,ntmps60
  go_wp2_with fail
  go_ret
  exact⟨rfl,HN.out⟩
def Z9e:Value→Nat
 | .slice _ n _=>n
 | _=>0
structure ReW(W0:World)(l:List (Int × Int))(a:Int)(out:List Int)(v:Value)(w:World):Prop where
 is:IS w v out
 nw:Nw W0 w
 inv:ReI l a out
structure ReJ(W0:World)(l:List (Int × Int))(a:Int)(out0 out:List Int)(more:Bool)(i:Nat)(v:Value)(w:World):Prop where
 rw_:ReW W0 l a out v w
 no:more=false→out.length=out0.length∧ReC l a out i
 yes:more=true→out0.length<out.length
theorem Z6s(R:Rq)(w:World):Calls prog 113 #[rqV R] w fun e w'=>e=.returned (.bool (R.md != 0))∧Nw w w':=by
 obtain⟨a,b,m,n,s⟩:=R
 unfold rqV
 go_enter func113,ntmps113
 go_wp2
 go_ret
 exact⟨rfl,(Nw.refl _).alloc _⟩
theorem Z6t(R:Rq)(w:World):Calls prog 64 #[rqV R] w fun e w'=>e=.returned (.bool (decide (0<R.sn)))∧Nw w w':=by
 obtain⟨a,b,m,n,s⟩:=R
 unfold rqV
 go_enter func64,ntmps64
 go_wp2
 go_ret
 exact⟨rfl,(Nw.refl _).alloc _⟩
def V7(w:World)(f:Value)(p:Rq→Bool):Prop:=∃(g:Nat) (lb:Array Value),f=.func (.func g) #[] lb∧(∀args w,(callFunc g args).run prog w=.ok (.enter g args) w)∧∀(R:Rq) (w1:World),Nw w w1→Calls prog g (#[rqV R]++lb) w1 fun e w'=>e=.returned (.bool (p R))∧Nw w1 w'
theorem V7.nw{w w':World}{f:Value}{p:Rq→Bool}(h:V7 w f p)(g:Nw w w'):V7 w' f p:=by
 obtain⟨k,lb,e,eg,hc⟩:=h
 exact⟨k,lb,e,eg,fun R w1 h1=>hc R w1 (g.trans h1)⟩
theorem Z6u(i:Int)(R:Rq)(p:Nat)(w:World)(h:w.cell? ⟨p,0,none⟩=some (.int .i64 i)):Calls prog 97 #[rqV R,.pointer (some ⟨p,0,none⟩)] w fun e w'=>e=.returned (.bool (R.id==i))∧Nw w w':=by
 obtain⟨a,b,m,n,s⟩:=R
 unfold rqV
 have hp:=World.block_lt_of_cell? _ _ h
 go_enter func97,ntmps97
 go_wp2
 go_ret
 exact⟨rfl,(Nw.refl _).alloc _⟩
theorem Z8o(i:Int)(w:World):Calls prog 78 #[.int .i64 i] w fun e w'=>∃p,e=.returned (.func (.func 97) #[] #[.pointer (some ⟨p,0,none⟩)])∧Nw w w'∧w'.cell? ⟨p,0,none⟩=some (.int .i64 i):=by
 go_enter func78,ntmps78
 go_wp2
 go_ret
 exact⟨_,rfl,(Nw.refl _).alloc _,Z2 (Z4 w _)⟩
theorem V7.withID{w:World}{i:Int}{p:Nat}(h:w.cell? ⟨p,0,none⟩=some (.int .i64 i)):V7 w (.func (.func 97) #[] #[.pointer (some ⟨p,0,none⟩)]) (fun R=>R.id==i) :=
 ⟨_,_,rfl,enters_of func97 (by kernel_rfl) rfl,fun R w1 g=>Z6u i R p w1 (g.kp h)⟩
def Z4q:Value→Prop
 | .slice _ n c=>n≤c
 | _=>True
def HR1(X:Hq × Int)(w:World)(e:Ending)(w':World):Prop:=∃v',e=.returned (.tuple #[hdV X.1.t X.1.r v' X.1.W,.int .i64 X.2])∧Nw w w'∧Ur w' v' X.1.q∧Z4q v'
theorem Uh(w:World)(o1 o2:Obj):((w.alloc o1).alloc o2).heap[w.heap.size]?=some o1∧((w.alloc o1).alloc o2).heap[w.heap.size+1]?=some o2∧Nw w ((w.alloc o1).alloc o2)∧((w.alloc o1).alloc o2).heap.size=w.heap.size+1+1:=by
 have hs:(w.alloc o1).heap.size=w.heap.size+1:=by simp
 refine⟨((Nw.refl _).alloc o2).at' (Z4 w o1),?_,((Nw.refl w).alloc _).alloc _,by simp⟩
 have:=Z4 (w.alloc o1) o2
 rwa [hs] at this
def hoI(a b:Rq):Int:=if (a.md != 0)=(b.md != 0)then 0 else if (a.md != 0)=true then -1 else 1
def cmI(a b:Int):Int:=if a<b then -1 else if b<a then 1 else 0
def toI(a b:Rq):Int:=if hoI a b≠0 then hoI a b else cmI a.sn b.sn
theorem nwS{w:World}:∀a b,Nw w a→Nw a b→Nw w b:=fun _ _ h g=>h.trans g
theorem Nw.drewQ{w a:World}(h:Nw w a):Nw w a.drew:=h.drewN 1
theorem Z3z(A B:Rq)(w:World):Calls prog 98 #[rqV A,rqV B] w fun e w'=>e=.returned (.int .i64 (hoI A B))∧Nw w w':=by
 have HA:=hD0 (Z6s A)
 have HB:=hD0 (Z6s B)
 obtain⟨V,hV⟩:∃V,hoI A B=V:=⟨_,rfl⟩
 have hV2:=hV
 rw[hV]
 unfold hoI at hV2
 generalize (A.md != 0)=x at *
 generalize (B.md != 0)=y at *
 clear hV
 have HV:=hD0 hV2
 clear hV2
 obtain⟨a,b,m,n,s⟩:=A
 obtain⟨a',b',m',n',s'⟩:=B
 unfold rqV at *
 have HX:=hD0 (Uh w (.cells #[.int .i64 a,.int .i64 b,.int .i64 m,.int .i64 n,.int .i64 s] 56) (.cells #[.int .i64 a',.int .i64 b',.int .i64 m',.int .i64 n',.int .i64 s'] 56))
 go_enter func98,ntmps98
 go_wp2_with fail
 generalize (w.alloc (.cells #[.int .i64 a,.int .i64 b,.int .i64 m,.int .i64 n,.int .i64 s] 56)).alloc (.cells #[.int .i64 a',.int .i64 b',.int .i64 m',.int .i64 n',.int .i64 s'] 56)=w1 at *
 obtain⟨p,hp⟩:∃p,w.heap.size=p:=⟨_,rfl⟩
 rw[hp] at HX ⊢
 have hl1:=hlt HX.out.1
 have hl2:=hlt HX.out.2.1
 have c0:=Z2 (j:=0) HX.out.1
 have c1:=Z2 (j:=1) HX.out.1
 have c2:=Z2 (j:=2) HX.out.1
 have c3:=Z2 (j:=3) HX.out.1
 have c4:=Z2 (j:=4) HX.out.1
 have d0:=Z2 (j:=0) HX.out.2.1
 have d1:=Z2 (j:=1) HX.out.2.1
 have d2:=Z2 (j:=2) HX.out.2.1
 have d3:=Z2 (j:=3) HX.out.2.1
 have d4:=Z2 (j:=4) HX.out.2.1
 have HN:=hD0 HX.out.2.2.1
 clear HX hp hl1 hl2
 refine Zv (Nw w1) (by kernel_rfl) (by kernel_rfl) (Nw.refl _).drewQ ?_
 have e0:∀d:Wd (Nw w1),d.w.cell? _=_:=fun d=>d.h.kp c0
 have e1:∀d:Wd (Nw w1),d.w.cell? _=_:=fun d=>d.h.kp c1
 have e2:∀d:Wd (Nw w1),d.w.cell? _=_:=fun d=>d.h.kp c2
 have e3:∀d:Wd (Nw w1),d.w.cell? _=_:=fun d=>d.h.kp c3
 have e4:∀d:Wd (Nw w1),d.w.cell? _=_:=fun d=>d.h.kp c4
 have f0:∀d:Wd (Nw w1),d.w.cell? _=_:=fun d=>d.h.kp d0
 have f1:∀d:Wd (Nw w1),d.w.cell? _=_:=fun d=>d.h.kp d1
 have f2:∀d:Wd (Nw w1),d.w.cell? _=_:=fun d=>d.h.kp d2
 have f3:∀d:Wd (Nw w1),d.w.cell? _=_:=fun d=>d.h.kp d3
 have f4:∀d:Wd (Nw w1),d.w.cell? _=_:=fun d=>d.h.kp d4
 have hne:Nonempty (Wd (Nw w1)):=⟨⟨_,Nw.refl w1⟩⟩
 repeat (first | go_big_quiet_step ((first | (with_reducible exact Vf nwS (HA.out _)) | (with_reducible exact Vf nwS (HB.out _)))) | quiet_step ((first | (with_reducible exact Vf nwS (HA.out _)) | (with_reducible exact Vf nwS (HB.out _)))))
 refine wpQuiet_nil ?_
 intro d
 have h6:=d.h
 clear e0 e1 e2 e3 e4 f0 f1 f2 f3 f4 hne
 revert h6
 generalize d.w=w6
 intro h6
 replace c0:=h6.kp c0
 replace c1:=h6.kp c1
 replace c2:=h6.kp c2
 replace c3:=h6.kp c3
 replace c4:=h6.kp c4
 replace HN:=hD0 (HN.out.trans h6)
 clear h6 d0 d1 d2 d3 d4
 cases x<;>cases y
 ·have e:V=0:=by simpa using HV.out.symm
  subst e
  go_wp2
  go_ret
  exact⟨rfl,HN.out⟩
 ·have e:V=1:=by simpa using HV.out.symm
  subst e
  go_wp2_with (go_at_call 113;refine(HA.out _).mono ?_;rintro e w' ⟨rfl,g⟩)
  go_ret
  exact⟨rfl,HN.out.trans g⟩
 ·have e:V = -1:=by simpa using HV.out.symm
  subst e
  go_wp2_with (go_at_call 113;refine(HA.out _).mono ?_;rintro e w' ⟨rfl,g⟩)
  go_ret
  exact⟨rfl,HN.out.trans g⟩
 ·have e:V=0:=by simpa using HV.out.symm
  subst e
  go_wp2
  go_ret
  exact⟨rfl,HN.out⟩
theorem Zbv(a:Int)(w:World):Calls prog 52 #[.int .i64 a] w fun e w'=>e=.returned (.bool false)∧w=w':=by
 go_enter func52,ntmps52
 go_wp2
 go_ret
 exact⟨rfl,rfl⟩
theorem Z6r(a b:Int)(w:World):Calls prog 34 #[.int .i64 a,.int .i64 b] w fun e w'=>e=.returned (.int .i64 (cmI a b))∧Nw w w':=by
 have HN:=hD0 Zbv
 unfold cmI
 by_cases h1:a<b
 ·rw[if_pos h1]
  go_enter func34,ntmps34
  go_wp2_with (go_at_call 52;refine(HN.out _ _).mono ?_;rintro e w' ⟨rfl,rfl⟩)
  go_ret
  exact⟨rfl,Nw.refl _⟩
 rw[if_neg h1]
 by_cases h2:b<a
 ·rw[if_pos h2]
  go_enter func34,ntmps34
  go_wp2_with (go_at_call 52;refine(HN.out _ _).mono ?_;rintro e w' ⟨rfl,rfl⟩)
  go_ret
  exact⟨rfl,Nw.refl _⟩
 ·rw[if_neg h2]
  go_enter func34,ntmps34
  go_wp2_with (go_at_call 52;refine(HN.out _ _).mono ?_;rintro e w' ⟨rfl,rfl⟩)
  go_ret
  exact⟨rfl,Nw.refl _⟩
theorem dOr(x y:Int)(b:Nat)(w:World)(h0:w.cell? ⟨b,0,none⟩=some (.int .i64 x))(h1:w.cell? ⟨b,1,none⟩=some (.int .i64 y)) :
  Calls prog 32 #[.slice (some ⟨b,0,none⟩) 2 2] w fun e w'=>e=.returned (.int .i64 (if x≠0 then x else y))∧Nw w w':=by
 have hp:=World.block_lt_of_cell? _ _ h0
 by_cases hx:x=0
 ·have dx:(x != 0)=false:=by simpa using hx
  rw[if_neg (by simpa using hx)]
  by_cases hy:y=0
  ·have dy:(y != 0)=false:=by simpa using hy
   subst hx hy
   go_enter func32,ntmps32
   go_wp2
   refine wp_loop_rounds 3 ?_
   repeat (rw[rounds_succ];go_wp2)
   go_ret
   exact⟨rfl,Nw.refl _⟩
  ·have dy:(y != 0)=true:=by simpa using hy
   clear hy
   go_enter func32,ntmps32
   go_wp2
   refine wp_loop_rounds 3 ?_
   repeat (rw[rounds_succ];go_wp2)
   go_ret
   exact⟨rfl,Nw.refl _⟩
 ·have dx:(x != 0)=true:=by simpa using hx
  rw[if_pos (by simpa using hx)]
  clear hx
  go_enter func32,ntmps32
  go_wp2
  refine wp_loop_rounds 3 ?_
  repeat (rw[rounds_succ];go_wp2)
  go_ret
  exact⟨rfl,Nw.refl _⟩
theorem Z8n(A B:Rq)(w:World):Calls prog 80 #[rqV A,rqV B] w fun e w'=>e=.returned (.int .i64 (toI A B))∧Nw w w':=by
 have HH:=hD0 (Z3z A B)
 have HC:=hD0 (Z6r A.sn B.sn)
 unfold toI
 generalize hoI A B=x at *
 obtain⟨y,hy⟩:∃y,cmI A.sn B.sn=y:=⟨_,rfl⟩
 rw[hy] at HC ⊢
 clear hy
 obtain⟨V,hV⟩:∃V,(if x≠0 then x else y)=V:=⟨_,rfl⟩
 have HO:=hD0 (dOr x y)
 rw[hV] at HO ⊢
 clear hV
 obtain⟨a,b,m,n,s⟩:=A
 obtain⟨a',b',m',n',s'⟩:=B
 unfold rqV at *
 simp only at HC
 have HX:=hD0 (Uh w (.cells #[.int .i64 a,.int .i64 b,.int .i64 m,.int .i64 n,.int .i64 s] 56) (.cells #[.int .i64 a',.int .i64 b',.int .i64 m',.int .i64 n',.int .i64 s'] 56))
 go_enter func80,ntmps80
 go_wp2_with fail
 generalize (w.alloc (.cells #[.int .i64 a,.int .i64 b,.int .i64 m,.int .i64 n,.int .i64 s] 56)).alloc (.cells #[.int .i64 a',.int .i64 b',.int .i64 m',.int .i64 n',.int .i64 s'] 56)=w1 at *
 obtain⟨p,hp⟩:∃p,w.heap.size=p:=⟨_,rfl⟩
 rw[hp] at HX ⊢
 have c0:=Z2 (j:=0) HX.out.1
 have c1:=Z2 (j:=1) HX.out.1
 have c2:=Z2 (j:=2) HX.out.1
 have c3:=Z2 (j:=3) HX.out.1
 have c4:=Z2 (j:=4) HX.out.1
 have d0:=Z2 (j:=0) HX.out.2.1
 have d1:=Z2 (j:=1) HX.out.2.1
 have d2:=Z2 (j:=2) HX.out.2.1
 have d3:=Z2 (j:=3) HX.out.2.1
 have d4:=Z2 (j:=4) HX.out.2.1
 have HN:=hD0 HX.out.2.2.1
 clear HX hp
 have e0:∀d,Nw w1 d→d.cell? _=_:=fun d h=>h.kp c0
 have e1:∀d,Nw w1 d→d.cell? _=_:=fun d h=>h.kp c1
 have e2:∀d,Nw w1 d→d.cell? _=_:=fun d h=>h.kp c2
 have e3:∀d,Nw w1 d→d.cell? _=_:=fun d h=>h.kp c3
 have e4:∀d,Nw w1 d→d.cell? _=_:=fun d h=>h.kp c4
 have f0:∀d,Nw w1 d→d.cell? _=_:=fun d h=>h.kp d0
 have f1:∀d,Nw w1 d→d.cell? _=_:=fun d h=>h.kp d1
 have f2:∀d,Nw w1 d→d.cell? _=_:=fun d h=>h.kp d2
 have f3:∀d,Nw w1 d→d.cell? _=_:=fun d h=>h.kp d3
 have f4:∀d,Nw w1 d→d.cell? _=_:=fun d h=>h.kp d4
 clear c0 c1 c2 c3 c4 d0 d1 d2 d3 d4
 refine Uo [some true,some true,some false,some true,some true,some true,some true,none,some false,none,some false,none,some false,none,some true] (Nw w1) (by kernel_rfl) (by kernel_rfl) (by kernel_rfl) (Nw.refl _).drewQ ?_
 have g1:=(Nw.refl w1).drewQ
 obtain⟨w2,hw2⟩:∃w2,w1.drew=w2:=⟨_,rfl⟩
 rw[hw2] at g1 ⊢
 clear hw2
 repeat (first
  | (refine HW.off ?_)
  | (refine HW.go (fun K hK=>?_);go_simp;(first | (go_at_call 98;(with_reducible refine(HH.out _).mono ?_);rintro e wy ⟨rfl,g2⟩) | (go_at_call 34;(with_reducible refine(HC.out _).mono ?_);rintro e wy ⟨rfl,g2⟩));refine hK.out _ _ (g1.trans g2) ?_;intro _;replace g1:=g1.trans g2;clear hK K g2)
  | (refine HW.take' ?_;apply Exists.intro;refine⟨Or.inl ⟨by rfl,?_⟩,?_⟩;(intro x hx;go_simp;first | done | with_reducible rfl);(try simp only[Act.put,List.setIfInBounds_toArray,List.set_cons_zero,List.set_cons_succ])))
 refine HW.go (fun K hK=>?_)
 go_simp
 have hb:=Z4 wy (.cells #[.int .i64 x,.int .i64 y] 3)
 have g3:=g1.alloc (.cells #[.int .i64 x,.int .i64 y] 3)
 have o0:=Z2 (j:=0) hb
 have o1:=Z2 (j:=1) hb
 refine hK.out _ _ g3 ?_
 intro _
 clear hK K
 refine HW.off ?_
 refine HW.go (fun K hK=>?_)
 go_simp
 go_at_call 32
 refine(HO.out _ _ o0 o1).mono ?_
 rintro e wz ⟨rfl,g4⟩
 have g5:=g3.trans g4
 refine hK.out _ _ g5 ?_
 intro _
 clear hK K
 refine HW.take' ?_
 apply Exists.intro
 refine⟨Or.inl ⟨by rfl,?_⟩,?_⟩
 ·(intro x hx;go_simp;first | done | with_reducible rfl)
 (try simp only[Act.put,List.setIfInBounds_toArray,List.set_cons_zero,List.set_cons_succ])
 refine HW.end_ ?_
 refine NoPanic.normal ?_
 go_wp2
 go_ret
 exact⟨rfl,HN.out.trans g5⟩
structure RqB(w:World)(p:Nat)(a b m n s:Int):Prop where
 lt:p<w.heap.size
 c0:w.cell? ⟨p,0,none⟩=some (.int .i64 a)
 c1:w.cell? ⟨p,1,none⟩=some (.int .i64 b)
 c2:w.cell? ⟨p,2,none⟩=some (.int .i64 m)
 c3:w.cell? ⟨p,3,none⟩=some (.int .i64 n)
 c4:w.cell? ⟨p,4,none⟩=some (.int .i64 s)
theorem RqB.nw{w w':World}{p:Nat}{a b m n s:Int}(h:RqB w p a b m n s)(g:Nw w w'):RqB w' p a b m n s :=
 ⟨lL0 h.lt g.sz,g.kp h.c0,g.kp h.c1,g.kp h.c2,g.kp h.c3,g.kp h.c4⟩
theorem RqB.of{w:World}{p:Nat}{a b m n s:Int}{T:TypeId}{fr:Nat × Nat}(h:w.heap[p]?=some (.cells #[.int .i64 a,.int .i64 b,.int .i64 m,.int .i64 n,.int .i64 s] T fr)):RqB w p a b m n s :=
 ⟨hlt h,Z2 h,Z2 h,Z2 h,Z2 h,Z2 h⟩
theorem RqB.made(w:World)(a b m n s:Int)(T:TypeId):RqB (w.alloc (.cells #[.int .i64 a,.int .i64 b,.int .i64 m,.int .i64 n,.int .i64 s] T)) w.heap.size a b m n s:=RqB.of (Z4 w _)
theorem Z8m(S R:Rq)(p:Nat)(w:World)(h:RqB w p S.id S.txn S.md S.wt S.sn):Calls prog 79 #[rqV R,.pointer (some ⟨p,0,none⟩)] w fun e w'=>e=.returned (.bool (decide (0<R.sn)&&decide (toI R S<0)))∧Nw w w':=by
 have HWt:=hD0 (Z6t R)
 have HT:=hD0 (Z8n R S)
 generalize toI R S=x at *
 obtain⟨y,hd⟩:∃y,decide (x<0)=y:=⟨_,rfl⟩
 rw[hd]
 generalize decide (0<R.sn)=z at *
 obtain⟨a,b,m,n,s⟩:=R
 obtain⟨a',b',m',n',s'⟩:=S
 unfold rqV at *
 simp only at h
 have hl:w.heap.size<(w.alloc (.cells #[.int .i64 a,.int .i64 b,.int .i64 m,.int .i64 n,.int .i64 s] 56)).heap.size:=by simp
 have hb:=RqB.made w a b m n s 56
 have hN:=(Nw.refl w).alloc (.cells #[.int .i64 a,.int .i64 b,.int .i64 m,.int .i64 n,.int .i64 s] 56)
 obtain⟨w1,hw1⟩:∃w1,w.alloc (.cells #[.int .i64 a,.int .i64 b,.int .i64 m,.int .i64 n,.int .i64 s] 56)=w1:=⟨_,rfl⟩
 rw[hw1] at hb hN hl
 have HW1:=hD0 hw1
 clear hw1
 obtain⟨hl0,c0,c1,c2,c3,c4⟩:=h.nw hN
 have hBB:=hD0 (aI0 (h.nw hN) hb)
 obtain⟨hl2,d0,d1,d2,d3,d4⟩:=hb
 have HN:=hD0 hN
 clear hN h
 cases z
 ·go_enter func79,ntmps79
  go_wp2_with fail
  rw[HW1.out]
  go_wp2_with (go_at_call 64;refine(HWt.out _).mono ?_;rintro e w2 ⟨rfl,g⟩)
  go_ret
  exact⟨rfl,HN.out.trans g⟩
 ·go_enter func79,ntmps79
  go_wp2_with fail
  rw[HW1.out]
  go_wp2_with fail
  go_at_call 64
  refine(HWt.out _).mono ?_
  rintro e w2 ⟨rfl,g⟩
  clear hl0 c0 c1 c2 c3 c4 hl2 d0 d1 d2 d3 d4
  obtain⟨hl0,c0,c1,c2,c3,c4⟩:=hBB.out.1.nw g
  obtain⟨hl2,d0,d1,d2,d3,d4⟩:=hBB.out.2.nw g
  have HN2:=hD0 (HN.out.trans g)
  clear HN hl g hBB
  go_wp2_with (go_at_call 80;refine(HT.out _).mono ?_;rintro e w3 ⟨rfl,g3⟩)
  go_ret
  exact⟨rfl,HN2.out.trans g3⟩
theorem Z6q(S:Rq)(w:World):Calls prog 65 #[rqV S] w fun e w'=>∃p,e=.returned (.func (.func 79) #[] #[.pointer (some ⟨p,0,none⟩)])∧Nw w w'∧RqB w' p S.id S.txn S.md S.wt S.sn:=by
 obtain⟨a',b',m',n',s'⟩:=S
 unfold rqV
 go_enter func65,ntmps65
 go_wp2
 go_ret
 exact⟨_,rfl,(Nw.refl _).alloc _,RqB.made _ _ _ _ _ _ _⟩
theorem V7.ahead{w:World}{S:Rq}{p:Nat}(h:RqB w p S.id S.txn S.md S.wt S.sn):V7 w (.func (.func 79) #[] #[.pointer (some ⟨p,0,none⟩)]) (fun R=>decide (0<R.sn)&&decide (toI R S<0)) :=
 ⟨_,_,rfl,enters_of func79 (by kernel_rfl) rfl,fun R w1 g=>Z8m S R p w1 (h.nw g)⟩
structure SmH(w:World)(gf:Nat)(lb:Array Value)(g n a b:Nat)(l:List Int):Prop where
 eg:∀args w,(callFunc gf args).run prog w=.ok (.enter gf args) w
 cell:∀i z,i<n→Nw w z→z.cell? ⟨g,i,none⟩=some (.int .i64 (l.getD i 0))
 call:∀i j,a≤i→i<j→j<b→∃v:Int,decide (v<0)=false∧∀z,Nw w z→Calls prog gf (#[.int .i64 (l.getD j 0),.int .i64 (l.getD i 0)]++lb) z fun e w'=>e=.returned (.int .i64 v)∧Nw z w'
def plc(p:Rq→Bool):List Rq→Int
 | []=>-1
 | a::r=>if p a=true then 0 else if plc p r = -1 then -1 else plc p r+1
theorem Vx(p:Rq→Bool):∀q:List Rq,(plc p q = -1∧∀a∈q,p a=false)∨∃k:Nat,plc p q=k∧∃h:k<q.length,p q[k]=true∧∀i (hi:i<q.length),i<k→p q[i]=false
 | []=>.inl ⟨rfl,by simp⟩
 | a::r=>by
  unfold plc
  cases e:p a with
  | true=>exact .inr ⟨0,rfl,by simp,e,fun i _ h=>by omega⟩
  | false =>
   rcases Vx p r with⟨h1,h2⟩ | ⟨k,h1,h2,h3,h4⟩
   ·rw[h1]
    refine .inl ⟨rfl,fun x hx=>?_⟩
    rcases List.mem_cons.1 hx with rfl | hx
    ·exact e
    ·exact h2 x hx
   ·rw[h1]
    refine .inr ⟨k+1,?_,by simpa using h2,h3,fun i hi hik=>?_⟩
    ·simp only[Bool.false_eq_true,if_false]
     rw[if_neg (by omega)];rfl
    ·cases i with
     | zero=>exact e
     | succ i=>exact h4 i (by simpa using hi) (by omega)
theorem Z93{p:Rq→Bool}{q:List Rq}{k:Nat}(hk:k<q.length)(h:p q[k]=true)(hb:∀i (hi:i<q.length),i<k→p q[i]=false):plc p q=k:=by
 rcases Vx p q with⟨_,h2⟩ | ⟨j,h1,h2,h3,h4⟩
 ·rw[h2 _ (gM0 hk)] at h;cases h
 ·rw[h1]
  rcases Nat.lt_trichotomy j k with g | g | g
  ·rw[hb j h2 g] at h3;cases h3
  ·rw[g]
  ·rw[h4 k hk g] at h;cases h
theorem Z7j{p:Rq→Bool}{q:List Rq}(h:∀i (hi:i<q.length),p q[i]=false):plc p q = -1:=by
 rcases Vx p q with⟨h1,_⟩ | ⟨j,h1,h2,h3,_⟩
 ·exact h1
 ·rw[h j h2] at h3;cases h3
theorem Zaa(v f:Value)(p:Rq→Bool)(q:List Rq)(w:World)(hl:q.length≤1000)(h:Ur w v q)(hf:V7 w f p) :
  Calls prog 96 #[v,f] w fun e w'=>e=.returned (.int .i64 (plc p q))∧Nw w w':=by
 obtain⟨g,lb,rfl,eg,hT⟩:=hf
 have HT:=hD0 hT
 clear hT
 obtain⟨a,c,rfl,⟨rfl,_⟩ | ⟨b,o,rfl,hc⟩⟩:=h
 ·go_enter func96,ntmps96
  go_wp2
  refine wp_loop_rounds 1 ?_
  repeat (rw[rounds_succ];go_wp2)
  go_ret
  exact⟨rfl,Nw.refl _⟩
 ·have H:=hD0 hc
  clear hc
  obtain⟨V,hV⟩:∃V,plc p q=V:=⟨_,rfl⟩
  rw[hV]
  have HV:=hD0 hV
  clear hV
  go_enter func96,ntmps96
  go_wp2
  go_loopw [8] (fun i wr=>∃k:Nat,k≤q.length∧i=.int .i64 k∧(∀i (hi:i<q.length),i<k→p q[i]=false)∧Nw w wr) (fun i _=>q.length-(intOf i).toNat)
  case atStart=>exact⟨0,Nat.zero_le _,rfl,fun _ _ h=>by omega,Nw.refl _⟩
  case round =>
   obtain⟨k,hk,rfl,hF,hN⟩:=hrel
   by_cases hlt:k<q.length
   ·have hce:=(H.out.nw hN).cell k hlt
    obtain⟨R,hR⟩:∃R,q[k]=R:=⟨_,rfl⟩
    rw[hR] at hce
    have HC:=hD0 (HT.out R)
    have HS:=hD0 hR
    have HF:=hD0 hF
    have HN:=hD0 hN
    clear hR hF hN
    obtain⟨B,hB⟩:∃B,p R=B:=⟨_,rfl⟩
    rw[hB] at HC
    have HB:=hD0 hB
    clear hB
    obtain⟨b0,b1,b2,b3,b4⟩:=R
    have e0:=hce 0 _ rfl
    have e1:=hce 1 _ rfl
    have e2:=hce 2 _ rfl
    have e3:=hce 3 _ rfl
    have e4:=hce 4 _ rfl
    simp only[Nat.add_zero] at e0
    clear hce
    cases B
    case true =>
     go_wp2_with (go_at_fn g;refine(HC.out _ HN.out).mono ?_;rintro e w1 ⟨rfl,g1⟩)
     go_ret
     exact⟨by rw[←HV.out,Z93 hlt (by rw[HS.out];exact HB.out) HF.out];rfl,HN.out.trans g1⟩
    case false =>
     go_wp2_with (go_at_fn g;refine(HC.out _ HN.out).mono ?_;rintro e w1 ⟨rfl,g1⟩)
     go_roundw
     case rel =>
      refine⟨k+1,by omega,by go_num,fun i hi hik=>?_,HN.out.trans g1⟩
      by_cases q:i<k
      ·exact HF.out i hi q
      ·have:i=k:=by omega
       subst this
       rw[HS.out];exact HB.out
     case measure=>simp[intOf];omega
   ·have HF:=hD0 hF
    have HN:=hD0 hN
    clear hF hN
    go_wp2
    go_ret
    exact⟨by rw[←HV.out,Z7j fun i hi=>HF.out i hi (by omega)];rfl,HN.out⟩
theorem Zb7(t r W:Int)(v f:Value)(p:Rq→Bool)(q:List Rq)(w:World)(hl:q.length≤1000)(h:Ur w v q)(hf:V7 w f p) :
  Calls prog 77 #[hdV t r v W,f] w fun e w'=>e=.returned (.int .i64 (plc p q))∧Nw w w':=by
 have HI:=hD0 (fun(w1:World) (g:Nw w w1)=>Zaa v f p q w1 hl (h.nw g) (hf.nw g))
 obtain⟨a,c,rfl⟩:=h.form
 obtain⟨g,lb,rfl,_⟩:=hf
 unfold hdV
 clear h
 have hN:Nw w (w.alloc (.cells #[.int .i64 t,.int .i64 r,.slice a q.length c,.int .i64 W] 43)):=(Nw.refl w).alloc _
 go_enter func77,ntmps77
 go_wp2_with (go_at_call 96;refine(HI.out _ hN).mono ?_;rintro e w1 ⟨rfl,g1⟩)
 go_ret
 exact⟨rfl,hN.trans g1⟩
section
open Go.RowKit Go.Maps Go.ChangeMaps
section
variable {w w':World} {b n:Nat} {c:Int→Int}
end
theorem dCp(a b:Int)(w:World)(ha:V9 a=true)(hb:V9 b=true):Calls prog 66 #[.int .i64 a,.int .i64 b] w fun e w'=>e=.returned (.bool (cpI a b))∧Nw w w':=by
 have h1:=(Vi a).1 ha
 have h2:=(Vi b).1 hb
 rw[Z9v a b ha hb]
 exact Za8 a b w h1.1 h1.2 h2.1 h2.2
end
theorem Zbd{W:Int}{q:List Rq}(h:Ok W q){m k:Nat}(hm:m<q.length)(hk:k<q.length)(ne:m≠k):q[m].id≠q[k].id:=by
 rcases Nat.lt_or_gt_of_ne ne with g | g
 ·exact(List.pairwise_iff_getElem.1 h.pr m k hm hk g).id
 ·exact fun e=>(List.pairwise_iff_getElem.1 h.pr k m hk hm g).id e.symm
def HR2(X:Hq × Bool × Int)(w:World)(e:Ending)(w':World):Prop:=∃v',e=.returned (.tuple #[hdV X.1.t X.1.r v' X.1.W,.bool X.2.1,.int .i64 X.2.2])∧Nw w w'∧Ur w' v' X.1.q∧Z4q v'
theorem Z7v{α:Type}(q:List α)(k:Nat)(hk:k<q.length):q=q.take k++q[k]::q.drop (k+1):=by rw[←List.drop_eq_getElem_cons hk,List.take_append_drop]
theorem Zbc{a b:Rq}(h1:a.md≠0)(h2:b.md=0):toI a b<0:=by
 have:hoI a b = -1:=by unfold hoI;simp[h1,h2]
 unfold toI;rw[this,if_pos (by decide)];decide
theorem Zbb{a b:Rq}(h1:a.md=0)(h2:b.md≠0):¬toI a b<0:=by
 have:hoI a b=1:=by unfold hoI;simp[h1,h2]
 unfold toI;rw[this,if_pos (by decide)];decide
theorem Z9y{a b:Rq}(h:a.md=0↔b.md=0):toI a b=cmI a.sn b.sn:=by
 have e:(a.md != 0)=(b.md != 0):=by
  by_cases z:a.md=0
  ·rw[z,h.1 z]
  ·have y:b.md≠0:=fun e=>z (h.2 e)
   rw[bne_iff_ne.2 z,bne_iff_ne.2 y]
 have:hoI a b=0:=by unfold hoI;rw[if_pos e]
 unfold toI;rw[this];simp
theorem Z9u{a b:Int}:cmI a b<0↔a<b:=by
 unfold cmI
 by_cases h1:a<b
 ·rw[if_pos h1];exact⟨fun _=>h1,fun _=>by decide⟩
 ·rw[if_neg h1]
  by_cases h2:b<a
  ·rw[if_pos h2];exact⟨fun e=>by omega,fun e=>absurd e h1⟩
  ·rw[if_neg h2];exact⟨fun e=>by omega,fun e=>absurd e h1⟩
theorem Z5h{a b:Rq}:toI a b<0↔(a.md≠0∧b.md=0)∨((a.md=0↔b.md=0)∧a.sn<b.sn):=by
 by_cases z:a.md=0
 ·by_cases y:b.md=0
  ·rw[Z9y (by simp[z,y]),Z9u];simp[z,y]
  ·have:=Zbb z y
   simp[this,z,y]
 ·by_cases y:b.md=0
  ·have:=Zbc z y
   simp[this,z,y]
  ·rw[Z9y (by simp[z,y]),Z9u];simp[z,y]
def Z68(q:List Rq)(x:Int):Rq:=q.getD x.toNat ⟨0,0,0,0,0⟩
def tC(q:List Rq)(x y:Int):Int:=toI (Z68 q x) (Z68 q y)
abbrev Zc4(p:Rq→Bool)(l:List Rq):List Rq:=l.filter fun s=>!p s
structure Del(p:Rq→Bool)(w wr:World)(g0 g n cap a b:Nat)(l R:List Rq):Prop where
 ab:a<b
 bn:b≤l.length
 len:R.length=l.length
 front:R.take a=Zc4 p (l.take b)
 rest:R.drop b=l.drop b
 row:Z9q wr g0 (.slice (some ⟨g,0,none⟩) n cap) R
 tch:Zf (fun k=>k=g) w wr
section
variable {p:Rq→Bool} {w wr wr':World} {g0 g n cap a b:Nat} {l R:List Rq}
end
end Go.Proofs.YtbnpnccpobkodaaGreat
