/- Texts merged: WcM, WcN, WcO, KeysL, WcP -/
import Derived.Test.YtobnolgphljoeaaWaitsCyclesB6
import Derived.Sort.OwnSortedInts
import Derived.Shelf.SlLaysZI
import Derived.Shelf.SlIterI.Nil
set_option linter.unusedVariables false
set_option maxRecDepth 100000
set_option maxHeartbeats 16000000
namespace Go.Proofs.Ytobnolgphljoeaa
open Go.RowKit _root_.Go.Proofs.Try
section
open Go.RowKit Go.Sort Go.Shelf
theorem Vm(x y:Int × Int)(w:World):Calls prog 40 #[.agg (Y1 x).toArray,.agg (Y1 y).toArray] w fun e w'=>e=.returned (.int .i64 (Z07 x y))∧GG w w':=by
 obtain⟨t,r⟩:=x
 obtain⟨t',r'⟩:=y
 simp only[Y1,Z07]
 go_enter func40,ntmps40
 go_wp2
 go_region_held3 (fun w'=>Z2b w t r t' r' w') (first | assumption | exact Z0k w t r t' r' _ | exact Yv (by assumption) (by assumption) | exact Yv ((GG.refl _).alloc _) (by assumption) | exact Yv (GG.refl _).drew (by assumption))
  (first | (go_at_call 42;refine(Ue _ _ _).mono ?_;rintro e w' ⟨rfl,rfl⟩) | (go_at_call 41;refine(Z4b _ (cP t t') (cP r r') _ (by simp[go_sem]) (by simp[go_sem])).mono ?_;rintro e w' ⟨rfl,rfl⟩))
 all_goals
  rename_i hS
  go_wp2
  go_ret
  exact⟨rfl,hS.2.2⟩
theorem Z1f:∀args w,(callFunc 40 args).run prog w=.ok (.enter 40 args) w:=enters_of func40 (by kernel_rfl) rfl
structure OnI(W0:World)(l:List (Int × Int))(v:Value)(k:Nat)(out:List (Int × Int))(w:World):Prop where
 own:Y4 w W0.heap.size v out
 nw:Nw W0 w
 on:Zw l k out
theorem U0{W0:World}{v:Value}{l:List (Int × Int)}(h:Yc W0 v l)(hl:l.length≤1000)(hw:Z19 l) :
  Calls prog 43 #[v] W0 fun e w'=>∃v' out,e=.returned v'∧Y4 w' W0.heap.size v' out∧Nw W0 w'∧Zw l l.length out:=by
 have HW:=hD0 hw
 obtain⟨ea,ec,rfl,hed⟩:=h
 have HD:=hD0 hed
 obtain⟨n,hn⟩:∃n,l.length=n:=⟨_,rfl⟩
 have HN:=hD0 hn
 rw[hn] at hl ⊢
 clear hw hed hn
 go_enter func43,ntmps43
 go_wp2_with fail
 go_loopw [3,8] (fun v3 v8 wr=>∃(k:Nat) (out:List (Int × Int)) (a:Option Addr) (b c:Nat),v3=.slice a b c∧v8=.int .i64 k∧k≤n∧Hid (OnI W0 l (.slice a b c) k out wr)) (fun _ v8 _=>n-(intOf v8).toNat)
 case atStart=>exact⟨0,[],none,0,0,rfl,rfl,Nat.zero_le _,World.ownsRow_nil _ _ _ _,Nw.refl _,Zw.start l⟩
 case round =>
  obtain⟨k,out,sa,sb,sc,rfl,rfl,hkn,HI⟩:=hrel
  by_cases hlt:k<n
  ·have hkl:k<l.length:=by rw[HN.out];exact hlt
   have hlt':=Zo hlt
   rcases HD.out with⟨q,_⟩ | ⟨eb,eo,rfl,hrc⟩
   ·rw[q] at hkl;simp at hkl
   ·have hrw:=hrc.nw HI.out.nw
    obtain⟨x0,x1⟩:=hrw.eg hkl
    have hebl:=hrw.lt
    obtain⟨e,he⟩:∃e,l[k]=e:=⟨_,rfl⟩
    rw[he] at x0 x1
    obtain⟨ex,ey⟩:=e
    simp only at x0 x1
    have hw:=Y2 k (k+1) (Nat.le_trans (Nat.le_of_lt hlt) (Nat.le_trans hl (by decide))) rfl
    obtain⟨k1,hk1⟩:∃m,k+1=m:=⟨_,rfl⟩
    have HK1:=hD0 hk1
    rw[hk1] at hw
    have HE:=hD0 he
    clear hk1 he
    go_upto_region 5 with fail
    have hal:=Z9 wr (.cells #[.int .i64 ex,.int .i64 ey] 30)
    have g4:Nw wr (wr.alloc (.cells #[.int .i64 ex,.int .i64 ey] 30)):=(Nw.refl wr).alloc _
    obtain⟨w4,hw4⟩:∃x,wr.alloc (.cells #[.int .i64 ex,.int .i64 ey] 30)=x:=⟨_,rfl⟩
    obtain⟨B,hB⟩:∃B,wr.heap.size=B:=⟨_,rfl⟩
    rw[hB] at hal ⊢
    rw[hw4] at hal g4 ⊢
    have HI4:=hD0 (show OnI W0 l (.slice sa sb sc) k out w4 from⟨onw HI.out.own g4,HI.out.nw.trans g4,HI.out.on⟩)
    have HAL:=hD0 hal
    have tB0:∀x,Nw w4 x→x.cell? ⟨B,0,none⟩=some (.int .i64 ex):=fun x g=>g.kp (Z7 (j:=0) HAL.out)
    have tB1:∀x,Nw w4 x→x.cell? ⟨B,1,none⟩=some (.int .i64 ey):=fun x g=>g.kp (Z7 (j:=1) HAL.out)
    clear hal hw4 hB x0 x1 hebl hrw
    by_cases hz:k=0
    ·subst hz
     have HO:=hD0 (show Zw l (0+1) (out++[(ex,ey)]) from by
      have:=HI4.out.on.push HW.out hkl (.inl rfl)
      rwa [HE.out] at this)
     obtain rfl:k1=1:=HK1.out.symm
     clear g4
     refine Z4 [] (Nw w4) (by kernel_rfl) ?_
     change Z5 _ _ _ _ _ _ 11 #[false,false,false,false,false,false,false,false,false,false,false] _ w4.drew
     obtain⟨y4,hy4⟩:∃y,w4.drew=y:=⟨_,rfl⟩
     rw[hy4]
     have hS0:Nw w4 y4:=by rw[←hy4];exact(Nw.refl w4).dr
     clear hy4
     refine Z0 0 rfl (by kernel_rfl) (by kernel_rfl) (by kernel_rfl) (fun v c a w h=>h) ?_
     (first | (refine⟨undef,Or.inr ⟨by rfl,rfl⟩,?_⟩) | (apply Exists.intro;refine⟨Or.inl ⟨by rfl,?_⟩,?_⟩;(intro x hx';go_simp;first | done | with_reducible rfl)))
     (try simp only[Act.put,List.getElem_toArray,List.getElem_cons_zero,List.getElem_cons_succ,List.setIfInBounds_toArray,List.set_cons_zero,List.set_cons_succ])
     refine Z0 1 rfl (by kernel_rfl) (by kernel_rfl) (by kernel_rfl) (fun v c a w h=>h) ?_
     (first | (refine⟨undef,Or.inr ⟨by rfl,rfl⟩,?_⟩) | (apply Exists.intro;refine⟨Or.inl ⟨by rfl,?_⟩,?_⟩;(intro x hx';go_simp;first | done | with_reducible rfl)))
     (try simp only[Act.put,List.getElem_toArray,List.getElem_cons_zero,List.getElem_cons_succ,List.setIfInBounds_toArray,List.set_cons_zero,List.set_cons_succ])
     refine Z0 2 rfl (by kernel_rfl) (by kernel_rfl) (by kernel_rfl) (fun v c a w h=>h) ?_
     (first | (refine⟨undef,Or.inr ⟨by rfl,rfl⟩,?_⟩) | (apply Exists.intro;refine⟨Or.inl ⟨by rfl,?_⟩,?_⟩;(intro x hx';go_simp;first | done | with_reducible rfl)))
     (try simp only[Act.put,List.getElem_toArray,List.getElem_cons_zero,List.getElem_cons_succ,List.setIfInBounds_toArray,List.set_cons_zero,List.set_cons_succ])
     refine Z1 3 rfl (by kernel_rfl) (by kernel_rfl) (by kernel_rfl) (by kernel_rfl) (fun v c a w h=>h) hS0 ?_
     (first | (refine⟨undef,Or.inr ⟨by rfl,rfl⟩,?_⟩) | (apply Exists.intro;refine⟨Or.inl ⟨by rfl,?_⟩,?_⟩;(intro x hx';go_simp;first | done | with_reducible rfl)))
     (try simp only[Act.put,List.getElem_toArray,List.getElem_cons_zero,List.getElem_cons_succ,List.setIfInBounds_toArray,List.set_cons_zero,List.set_cons_succ])
     refine Z0 4 rfl (by kernel_rfl) (by kernel_rfl) (by kernel_rfl) (fun v c a w h=>h) ?_
     (first | (refine⟨undef,Or.inr ⟨by rfl,rfl⟩,?_⟩) | (apply Exists.intro;refine⟨Or.inl ⟨by rfl,?_⟩,?_⟩;(intro x hx';go_simp;first | done | with_reducible rfl)))
     (try simp only[Act.put,List.getElem_toArray,List.getElem_cons_zero,List.getElem_cons_succ,List.setIfInBounds_toArray,List.set_cons_zero,List.set_cons_succ])
     refine Z0 5 rfl (by kernel_rfl) (by kernel_rfl) (by kernel_rfl) (fun v c a w h=>h) ?_
     (first | (refine⟨undef,Or.inr ⟨by rfl,rfl⟩,?_⟩) | (apply Exists.intro;refine⟨Or.inl ⟨by rfl,?_⟩,?_⟩;(intro x hx';go_simp;first | done | with_reducible rfl)))
     (try simp only[Act.put,List.getElem_toArray,List.getElem_cons_zero,List.getElem_cons_succ,List.setIfInBounds_toArray,List.set_cons_zero,List.set_cons_succ])
     refine Z0 6 rfl (by kernel_rfl) (by kernel_rfl) (by kernel_rfl) (fun v c a w h=>h) ?_
     (first | (refine⟨undef,Or.inr ⟨by rfl,rfl⟩,?_⟩) | (apply Exists.intro;refine⟨Or.inl ⟨by rfl,?_⟩,?_⟩;(intro x hx';go_simp;first | done | with_reducible rfl)))
     (try simp only[Act.put,List.getElem_toArray,List.getElem_cons_zero,List.getElem_cons_succ,List.setIfInBounds_toArray,List.set_cons_zero,List.set_cons_succ])
     refine Z0 7 rfl (by kernel_rfl) (by kernel_rfl) (by kernel_rfl) (fun v c a w h=>h) ?_
     (first | (refine⟨undef,Or.inr ⟨by rfl,rfl⟩,?_⟩) | (apply Exists.intro;refine⟨Or.inl ⟨by rfl,?_⟩,?_⟩;(intro x hx';go_simp;first | done | with_reducible rfl)))
     (try simp only[Act.put,List.getElem_toArray,List.getElem_cons_zero,List.getElem_cons_succ,List.setIfInBounds_toArray,List.set_cons_zero,List.set_cons_succ])
     refine Z1 8 rfl (by kernel_rfl) (by kernel_rfl) (by kernel_rfl) (by kernel_rfl) (fun v c a w h=>h) hS0 ?_
     (first | (refine⟨undef,Or.inr ⟨by rfl,rfl⟩,?_⟩) | (apply Exists.intro;refine⟨Or.inl ⟨by rfl,?_⟩,?_⟩;(intro x hx';go_simp;first | done | with_reducible rfl)))
     (try simp only[Act.put,List.getElem_toArray,List.getElem_cons_zero,List.getElem_cons_succ,List.setIfInBounds_toArray,List.set_cons_zero,List.set_cons_succ])
     refine Z0 9 rfl (by kernel_rfl) (by kernel_rfl) (by kernel_rfl) (fun v c a w h=>h) ?_
     (first | (refine⟨undef,Or.inr ⟨by rfl,rfl⟩,?_⟩) | (apply Exists.intro;refine⟨Or.inl ⟨by rfl,?_⟩,?_⟩;(intro x hx';go_simp;first | done | with_reducible rfl)))
     (try simp only[Act.put,List.getElem_toArray,List.getElem_cons_zero,List.getElem_cons_succ,List.setIfInBounds_toArray,List.set_cons_zero,List.set_cons_succ])
     refine Z0 10 rfl (by kernel_rfl) (by kernel_rfl) (by kernel_rfl) (fun v c a w h=>h) ?_
     (first | (refine⟨undef,Or.inr ⟨by rfl,rfl⟩,?_⟩) | (apply Exists.intro;refine⟨Or.inl ⟨by rfl,?_⟩,?_⟩;(intro x hx';go_simp;first | done | with_reducible rfl)))
     (try simp only[Act.put,List.getElem_toArray,List.getElem_cons_zero,List.getElem_cons_succ,List.setIfInBounds_toArray,List.set_cons_zero,List.set_cons_succ])
     refine Z2 (by kernel_rfl) ?_ _
     refine NoPanic.normal ?_
     (try simp only[Act.put,List.getElem_toArray,List.getElem_cons_zero,List.getElem_cons_succ,List.setIfInBounds_toArray,List.set_cons_zero,List.set_cons_succ])
     have hal6:=Z9 y4 (.cells #[.int .i64 ex,.int .i64 ey] 30)
     have g6:Nw y4 (y4.alloc (.cells #[.int .i64 ex,.int .i64 ey] 30)):=(Nw.refl y4).alloc _
     obtain⟨v',w6,hr6,hO6,hg6,_,ga6,cc6,rfl⟩:=Yi.push V5 (onw (onw HI4.out.own hS0) g6) (ex,ey) y4.heap.size 1 (fun j u hu=>by
      rw[Z7 hal6]
      simpa [Y1] using hu) (by have:=HI4.out.on.len;omega) ((HI4.out.nw.trans hS0).trans g6).sz
     have HI6:=hD0 (show OnI W0 l (.slice (some ⟨ga6,0,none⟩) (out.length+1) cc6) 1 (out++[(ex,ey)]) w6 from⟨hO6,((HI4.out.nw.trans hS0).trans g6).gro hg6 (fun b e=>oge HI4.out.own e),HO.out⟩)
     have HR6:=hD0 hr6
     have hb0:=tB0 y4 hS0
     have hb1:=tB1 y4 hS0
     have hBl:=lL0 (Go.Proofs.Ytobnolgphljoeaa.hlt HAL.out) hS0.sz
     clear hal6 g6 hr6 hO6 hg6 hS0 tB0 tB1 HI4
     go_wp2_with (at_builtin;refine Zu (by rfl) (.tmp 24) (.tmp 26) 22 rfl _ _ _ _ rfl rfl HR6.out ?_)
     go_roundw
     case rel=>exact⟨1,out++[(ex,ey)],some ⟨ga6,0,none⟩,out.length+1,cc6,rfl,rfl,hlt,HI6⟩
     case measure=>(show n-(1:Int).toNat<n-((0:Nat):Int).toNat;omega)
    ·obtain⟨j,hj⟩:∃j,k=j+1:=⟨k-1,by omega⟩
     have hjl:j<l.length:=by omega
     have hrw4:=hrc.nw (HI.out.nw.trans g4)
     obtain⟨y0,y1⟩:=hrw4.eg hjl
     have hdj:=Yd k j (Nat.le_trans (Nat.le_of_lt hlt) (Nat.le_trans hl (by decide))) hj
     have hjn':(j:Int)<(n:Int):=by omega
     have hjn:j<n:=by omega
     have hz1:((k:Int)==0)=false:=by simp;omega
     have hz2:(k==0)=false:=by simp;omega
     obtain⟨f,hf⟩:∃f,l[j]=f:=⟨_,rfl⟩
     rw[hf] at y0 y1
     obtain⟨fx,fy⟩:=f
     simp only at y0 y1
     have ty0:∀x,Nw w4 x→x.cell? ⟨eb,eo+j*2,none⟩=some (.int .i64 fx):=fun x g=>g.kp y0
     have ty1:∀x,Nw w4 x→x.cell? ⟨eb,eo+j*2+1,none⟩=some (.int .i64 fy):=fun x g=>g.kp y1
     have HF:=hD0 (show ∃hj:j<l.length,k=j+1∧l[j]=(fx,fy) from⟨hjl,hj,hf⟩)
     clear g4 hrw4 y0 y1 hj hjl hf hz
     by_cases hxy:ex=fx∧ey=fy
     ·obtain⟨hx1,hy1⟩:=hxy
      subst hx1
      subst hy1
      refine Z4 [] (Nw w4) (by kernel_rfl) ?_
      change Z5 _ _ _ _ _ _ 11 #[false,false,false,false,false,false,false,false,false,false,false] _ w4.drew
      obtain⟨y4,hy4⟩:∃y,w4.drew=y:=⟨_,rfl⟩
      rw[hy4]
      have hS0:Nw w4 y4:=by rw[←hy4];exact(Nw.refl w4).dr
      clear hy4
      refine Z0 0 rfl (by kernel_rfl) (by kernel_rfl) (by kernel_rfl) (fun v c a w h=>h) ?_
      (first | (refine⟨undef,Or.inr ⟨by rfl,rfl⟩,?_⟩) | (apply Exists.intro;refine⟨Or.inl ⟨by rfl,?_⟩,?_⟩;(intro x hx';go_simp;first | done | with_reducible rfl)))
      (try simp only[Act.put,List.getElem_toArray,List.getElem_cons_zero,List.getElem_cons_succ,List.setIfInBounds_toArray,List.set_cons_zero,List.set_cons_succ])
      refine Z0 1 rfl (by kernel_rfl) (by kernel_rfl) (by kernel_rfl) (fun v c a w h=>h) ?_
      (first | (refine⟨undef,Or.inr ⟨by rfl,rfl⟩,?_⟩) | (apply Exists.intro;refine⟨Or.inl ⟨by rfl,?_⟩,?_⟩;(intro x hx';go_simp;first | done | with_reducible rfl)))
      (try simp only[Act.put,List.getElem_toArray,List.getElem_cons_zero,List.getElem_cons_succ,List.setIfInBounds_toArray,List.set_cons_zero,List.set_cons_succ])
      refine Z0 2 rfl (by kernel_rfl) (by kernel_rfl) (by kernel_rfl) (fun v c a w h=>h) ?_
      (first | (refine⟨undef,Or.inr ⟨by rfl,rfl⟩,?_⟩) | (apply Exists.intro;refine⟨Or.inl ⟨by rfl,?_⟩,?_⟩;(intro x hx';go_simp;first | done | with_reducible rfl)))
      (try simp only[Act.put,List.getElem_toArray,List.getElem_cons_zero,List.getElem_cons_succ,List.setIfInBounds_toArray,List.set_cons_zero,List.set_cons_succ])
      refine Z1 3 rfl (by kernel_rfl) (by kernel_rfl) (by kernel_rfl) (by kernel_rfl) (fun v c a w h=>h) hS0 ?_
      (first | (refine⟨undef,Or.inr ⟨by rfl,rfl⟩,?_⟩) | (apply Exists.intro;refine⟨Or.inl ⟨by rfl,?_⟩,?_⟩;(intro x hx';go_simp;first | done | with_reducible rfl)))
      (try simp only[Act.put,List.getElem_toArray,List.getElem_cons_zero,List.getElem_cons_succ,List.setIfInBounds_toArray,List.set_cons_zero,List.set_cons_succ])
      refine Z0 4 rfl (by kernel_rfl) (by kernel_rfl) (by kernel_rfl) (fun v c a w h=>h) ?_
      (first | (refine⟨undef,Or.inr ⟨by rfl,rfl⟩,?_⟩) | (apply Exists.intro;refine⟨Or.inl ⟨by rfl,?_⟩,?_⟩;(intro x hx';go_simp;first | done | with_reducible rfl)))
      (try simp only[Act.put,List.getElem_toArray,List.getElem_cons_zero,List.getElem_cons_succ,List.setIfInBounds_toArray,List.set_cons_zero,List.set_cons_succ])
      refine Z0 5 rfl (by kernel_rfl) (by kernel_rfl) (by kernel_rfl) (fun v c a w h=>h) ?_
      (first | (refine⟨undef,Or.inr ⟨by rfl,rfl⟩,?_⟩) | (apply Exists.intro;refine⟨Or.inl ⟨by rfl,?_⟩,?_⟩;(intro x hx';go_simp;first | done | with_reducible rfl)))
      (try simp only[Act.put,List.getElem_toArray,List.getElem_cons_zero,List.getElem_cons_succ,List.setIfInBounds_toArray,List.set_cons_zero,List.set_cons_succ])
      refine Z0 6 rfl (by kernel_rfl) (by kernel_rfl) (by kernel_rfl) (fun v c a w h=>h) ?_
      (first | (refine⟨undef,Or.inr ⟨by rfl,rfl⟩,?_⟩) | (apply Exists.intro;refine⟨Or.inl ⟨by rfl,?_⟩,?_⟩;(intro x hx';go_simp;first | done | with_reducible rfl)))
      (try simp only[Act.put,List.getElem_toArray,List.getElem_cons_zero,List.getElem_cons_succ,List.setIfInBounds_toArray,List.set_cons_zero,List.set_cons_succ])
      refine Z0 7 rfl (by kernel_rfl) (by kernel_rfl) (by kernel_rfl) (fun v c a w h=>h) ?_
      (first | (refine⟨undef,Or.inr ⟨by rfl,rfl⟩,?_⟩) | (apply Exists.intro;refine⟨Or.inl ⟨by rfl,?_⟩,?_⟩;(intro x hx';go_simp;first | done | with_reducible rfl)))
      (try simp only[Act.put,List.getElem_toArray,List.getElem_cons_zero,List.getElem_cons_succ,List.setIfInBounds_toArray,List.set_cons_zero,List.set_cons_succ])
      refine Z1 8 rfl (by kernel_rfl) (by kernel_rfl) (by kernel_rfl) (by kernel_rfl) (fun v c a w h=>h) hS0 ?_
      (first | (refine⟨undef,Or.inr ⟨by rfl,rfl⟩,?_⟩) | (apply Exists.intro;refine⟨Or.inl ⟨by rfl,?_⟩,?_⟩;(intro x hx';go_simp;first | done | with_reducible rfl)))
      (try simp only[Act.put,List.getElem_toArray,List.getElem_cons_zero,List.getElem_cons_succ,List.setIfInBounds_toArray,List.set_cons_zero,List.set_cons_succ])
      refine Z0 9 rfl (by kernel_rfl) (by kernel_rfl) (by kernel_rfl) (fun v c a w h=>h) ?_
      (first | (refine⟨undef,Or.inr ⟨by rfl,rfl⟩,?_⟩) | (apply Exists.intro;refine⟨Or.inl ⟨by rfl,?_⟩,?_⟩;(intro x hx';go_simp;first | done | with_reducible rfl)))
      (try simp only[Act.put,List.getElem_toArray,List.getElem_cons_zero,List.getElem_cons_succ,List.setIfInBounds_toArray,List.set_cons_zero,List.set_cons_succ])
      refine Z0 10 rfl (by kernel_rfl) (by kernel_rfl) (by kernel_rfl) (fun v c a w h=>h) ?_
      (first | (refine⟨undef,Or.inr ⟨by rfl,rfl⟩,?_⟩) | (apply Exists.intro;refine⟨Or.inl ⟨by rfl,?_⟩,?_⟩;(intro x hx';go_simp;first | done | with_reducible rfl)))
      (try simp only[Act.put,List.getElem_toArray,List.getElem_cons_zero,List.getElem_cons_succ,List.setIfInBounds_toArray,List.set_cons_zero,List.set_cons_succ])
      refine Z2 (by kernel_rfl) ?_ _
      refine NoPanic.normal ?_
      (try simp only[Act.put,List.getElem_toArray,List.getElem_cons_zero,List.getElem_cons_succ,List.setIfInBounds_toArray,List.set_cons_zero,List.set_cons_succ])
      have HS:=hD0 (show OnI W0 l (.slice sa sb sc) k1 out y4 from⟨onw HI4.out.own hS0,HI4.out.nw.trans hS0,by
       obtain⟨hjl,hj,hf⟩:=HF.out
       rw[←HK1.out]
       exact HI4.out.on.skip hkl hjl hj (by rw[HE.out,hf])⟩)
      clear hS0 tB0 tB1 ty0 ty1 HI4
      go_wp2_with fail
      go_roundw
      case rel=>exact⟨k1,out,sa,sb,sc,rfl,rfl,by rw[←HK1.out];exact hlt,HS⟩
      case measure=>rw[←HK1.out];exact Zz hlt
     ·have HO:=hD0 (show Zw l (k+1) (out++[(ex,ey)]) from by
       obtain⟨hjl,hj,hf⟩:=HF.out
       have:=HI4.out.on.push HW.out hkl (.inr ⟨_,hjl,hj,by
        rw[HE.out,hf]
        exact fun q=>hxy ⟨congrArg Prod.fst q,congrArg Prod.snd q⟩⟩)
       rwa [HE.out] at this)
      by_cases hx:ex=fx
      ·subst hx
       have hy1:(ey==fy)=false:=by simpa using fun q=>hxy ⟨rfl,q⟩
       have hy3:¬ey=fy:=fun q=>hxy ⟨rfl,q⟩
       clear hxy
       refine Z4 [] (Nw w4) (by kernel_rfl) ?_
       change Z5 _ _ _ _ _ _ 11 #[false,false,false,false,false,false,false,false,false,false,false] _ w4.drew
       obtain⟨y4,hy4⟩:∃y,w4.drew=y:=⟨_,rfl⟩
       rw[hy4]
       have hS0:Nw w4 y4:=by rw[←hy4];exact(Nw.refl w4).dr
       clear hy4
       refine Z0 0 rfl (by kernel_rfl) (by kernel_rfl) (by kernel_rfl) (fun v c a w h=>h) ?_
       (first | (refine⟨undef,Or.inr ⟨by rfl,rfl⟩,?_⟩) | (apply Exists.intro;refine⟨Or.inl ⟨by rfl,?_⟩,?_⟩;(intro x hx';go_simp;first | done | with_reducible rfl)))
       (try simp only[Act.put,List.getElem_toArray,List.getElem_cons_zero,List.getElem_cons_succ,List.setIfInBounds_toArray,List.set_cons_zero,List.set_cons_succ])
       refine Z0 1 rfl (by kernel_rfl) (by kernel_rfl) (by kernel_rfl) (fun v c a w h=>h) ?_
       (first | (refine⟨undef,Or.inr ⟨by rfl,rfl⟩,?_⟩) | (apply Exists.intro;refine⟨Or.inl ⟨by rfl,?_⟩,?_⟩;(intro x hx';go_simp;first | done | with_reducible rfl)))
       (try simp only[Act.put,List.getElem_toArray,List.getElem_cons_zero,List.getElem_cons_succ,List.setIfInBounds_toArray,List.set_cons_zero,List.set_cons_succ])
       refine Z0 2 rfl (by kernel_rfl) (by kernel_rfl) (by kernel_rfl) (fun v c a w h=>h) ?_
       (first | (refine⟨undef,Or.inr ⟨by rfl,rfl⟩,?_⟩) | (apply Exists.intro;refine⟨Or.inl ⟨by rfl,?_⟩,?_⟩;(intro x hx';go_simp;first | done | with_reducible rfl)))
       (try simp only[Act.put,List.getElem_toArray,List.getElem_cons_zero,List.getElem_cons_succ,List.setIfInBounds_toArray,List.set_cons_zero,List.set_cons_succ])
       refine Z1 3 rfl (by kernel_rfl) (by kernel_rfl) (by kernel_rfl) (by kernel_rfl) (fun v c a w h=>h) hS0 ?_
       (first | (refine⟨undef,Or.inr ⟨by rfl,rfl⟩,?_⟩) | (apply Exists.intro;refine⟨Or.inl ⟨by rfl,?_⟩,?_⟩;(intro x hx';go_simp;first | done | with_reducible rfl)))
       (try simp only[Act.put,List.getElem_toArray,List.getElem_cons_zero,List.getElem_cons_succ,List.setIfInBounds_toArray,List.set_cons_zero,List.set_cons_succ])
       refine Z0 4 rfl (by kernel_rfl) (by kernel_rfl) (by kernel_rfl) (fun v c a w h=>h) ?_
       (first | (refine⟨undef,Or.inr ⟨by rfl,rfl⟩,?_⟩) | (apply Exists.intro;refine⟨Or.inl ⟨by rfl,?_⟩,?_⟩;(intro x hx';go_simp;first | done | with_reducible rfl)))
       (try simp only[Act.put,List.getElem_toArray,List.getElem_cons_zero,List.getElem_cons_succ,List.setIfInBounds_toArray,List.set_cons_zero,List.set_cons_succ])
       refine Z0 5 rfl (by kernel_rfl) (by kernel_rfl) (by kernel_rfl) (fun v c a w h=>h) ?_
       (first | (refine⟨undef,Or.inr ⟨by rfl,rfl⟩,?_⟩) | (apply Exists.intro;refine⟨Or.inl ⟨by rfl,?_⟩,?_⟩;(intro x hx';go_simp;first | done | with_reducible rfl)))
       (try simp only[Act.put,List.getElem_toArray,List.getElem_cons_zero,List.getElem_cons_succ,List.setIfInBounds_toArray,List.set_cons_zero,List.set_cons_succ])
       refine Z0 6 rfl (by kernel_rfl) (by kernel_rfl) (by kernel_rfl) (fun v c a w h=>h) ?_
       (first | (refine⟨undef,Or.inr ⟨by rfl,rfl⟩,?_⟩) | (apply Exists.intro;refine⟨Or.inl ⟨by rfl,?_⟩,?_⟩;(intro x hx';go_simp;first | done | with_reducible rfl)))
       (try simp only[Act.put,List.getElem_toArray,List.getElem_cons_zero,List.getElem_cons_succ,List.setIfInBounds_toArray,List.set_cons_zero,List.set_cons_succ])
       refine Z0 7 rfl (by kernel_rfl) (by kernel_rfl) (by kernel_rfl) (fun v c a w h=>h) ?_
       (first | (refine⟨undef,Or.inr ⟨by rfl,rfl⟩,?_⟩) | (apply Exists.intro;refine⟨Or.inl ⟨by rfl,?_⟩,?_⟩;(intro x hx';go_simp;first | done | with_reducible rfl)))
       (try simp only[Act.put,List.getElem_toArray,List.getElem_cons_zero,List.getElem_cons_succ,List.setIfInBounds_toArray,List.set_cons_zero,List.set_cons_succ])
       refine Z1 8 rfl (by kernel_rfl) (by kernel_rfl) (by kernel_rfl) (by kernel_rfl) (fun v c a w h=>h) hS0 ?_
       (first | (refine⟨undef,Or.inr ⟨by rfl,rfl⟩,?_⟩) | (apply Exists.intro;refine⟨Or.inl ⟨by rfl,?_⟩,?_⟩;(intro x hx';go_simp;first | done | with_reducible rfl)))
       (try simp only[Act.put,List.getElem_toArray,List.getElem_cons_zero,List.getElem_cons_succ,List.setIfInBounds_toArray,List.set_cons_zero,List.set_cons_succ])
       refine Z0 9 rfl (by kernel_rfl) (by kernel_rfl) (by kernel_rfl) (fun v c a w h=>h) ?_
       (first | (refine⟨undef,Or.inr ⟨by rfl,rfl⟩,?_⟩) | (apply Exists.intro;refine⟨Or.inl ⟨by rfl,?_⟩,?_⟩;(intro x hx';go_simp;first | done | with_reducible rfl)))
       (try simp only[Act.put,List.getElem_toArray,List.getElem_cons_zero,List.getElem_cons_succ,List.setIfInBounds_toArray,List.set_cons_zero,List.set_cons_succ])
       refine Z0 10 rfl (by kernel_rfl) (by kernel_rfl) (by kernel_rfl) (fun v c a w h=>h) ?_
       (first | (refine⟨undef,Or.inr ⟨by rfl,rfl⟩,?_⟩) | (apply Exists.intro;refine⟨Or.inl ⟨by rfl,?_⟩,?_⟩;(intro x hx';go_simp;first | done | with_reducible rfl)))
       (try simp only[Act.put,List.getElem_toArray,List.getElem_cons_zero,List.getElem_cons_succ,List.setIfInBounds_toArray,List.set_cons_zero,List.set_cons_succ])
       refine Z2 (by kernel_rfl) ?_ _
       refine NoPanic.normal ?_
       (try simp only[Act.put,List.getElem_toArray,List.getElem_cons_zero,List.getElem_cons_succ,List.setIfInBounds_toArray,List.set_cons_zero,List.set_cons_succ])
       have hal6:=Z9 y4 (.cells #[.int .i64 ex,.int .i64 ey] 30)
       have g6:Nw y4 (y4.alloc (.cells #[.int .i64 ex,.int .i64 ey] 30)):=(Nw.refl y4).alloc _
       obtain⟨v',w6,hr6,hO6,hg6,_,ga6,cc6,rfl⟩:=Yi.push V5 (onw (onw HI4.out.own hS0) g6) (ex,ey) y4.heap.size 1 (fun j u hu=>by
        rw[Z7 hal6]
        simpa [Y1] using hu) (by have:=HI4.out.on.len;omega) ((HI4.out.nw.trans hS0).trans g6).sz
       have HI6:=hD0 (show OnI W0 l (.slice (some ⟨ga6,0,none⟩) (out.length+1) cc6) k1 (out++[(ex,ey)]) w6 from⟨hO6,((HI4.out.nw.trans hS0).trans g6).gro hg6 (fun b e=>oge HI4.out.own e),by rw[←HK1.out];exact HO.out⟩)
       have HR6:=hD0 hr6
       have hb0:=tB0 y4 hS0
       have hb1:=tB1 y4 hS0
       have hBl:=lL0 (Go.Proofs.Ytobnolgphljoeaa.hlt HAL.out) hS0.sz
       clear hal6 g6 hr6 hO6 hg6 hS0 tB0 tB1 HI4 ty0 ty1
       go_wp2_with (at_builtin;refine Zu (by rfl) (.tmp 24) (.tmp 26) 22 rfl _ _ _ _ rfl rfl HR6.out ?_)
       go_roundw
       case rel=>exact⟨k1,out++[(ex,ey)],some ⟨ga6,0,none⟩,out.length+1,cc6,rfl,rfl,by rw[←HK1.out];exact hlt,HI6⟩
       case measure=>rw[←HK1.out];exact Zz hlt
      ·have hx1:(ex==fx)=false:=by simpa using hx
       clear hxy
       refine Z4 [] (Nw w4) (by kernel_rfl) ?_
       change Z5 _ _ _ _ _ _ 11 #[false,false,false,false,false,false,false,false,false,false,false] _ w4.drew
       obtain⟨y4,hy4⟩:∃y,w4.drew=y:=⟨_,rfl⟩
       rw[hy4]
       have hS0:Nw w4 y4:=by rw[←hy4];exact(Nw.refl w4).dr
       clear hy4
       refine Z0 0 rfl (by kernel_rfl) (by kernel_rfl) (by kernel_rfl) (fun v c a w h=>h) ?_
       (first | (refine⟨undef,Or.inr ⟨by rfl,rfl⟩,?_⟩) | (apply Exists.intro;refine⟨Or.inl ⟨by rfl,?_⟩,?_⟩;(intro x hx';go_simp;first | done | with_reducible rfl)))
       (try simp only[Act.put,List.getElem_toArray,List.getElem_cons_zero,List.getElem_cons_succ,List.setIfInBounds_toArray,List.set_cons_zero,List.set_cons_succ])
       refine Z0 1 rfl (by kernel_rfl) (by kernel_rfl) (by kernel_rfl) (fun v c a w h=>h) ?_
       (first | (refine⟨undef,Or.inr ⟨by rfl,rfl⟩,?_⟩) | (apply Exists.intro;refine⟨Or.inl ⟨by rfl,?_⟩,?_⟩;(intro x hx';go_simp;first | done | with_reducible rfl)))
       (try simp only[Act.put,List.getElem_toArray,List.getElem_cons_zero,List.getElem_cons_succ,List.setIfInBounds_toArray,List.set_cons_zero,List.set_cons_succ])
       refine Z0 2 rfl (by kernel_rfl) (by kernel_rfl) (by kernel_rfl) (fun v c a w h=>h) ?_
       (first | (refine⟨undef,Or.inr ⟨by rfl,rfl⟩,?_⟩) | (apply Exists.intro;refine⟨Or.inl ⟨by rfl,?_⟩,?_⟩;(intro x hx';go_simp;first | done | with_reducible rfl)))
       (try simp only[Act.put,List.getElem_toArray,List.getElem_cons_zero,List.getElem_cons_succ,List.setIfInBounds_toArray,List.set_cons_zero,List.set_cons_succ])
       refine Z1 3 rfl (by kernel_rfl) (by kernel_rfl) (by kernel_rfl) (by kernel_rfl) (fun v c a w h=>h) hS0 ?_
       (first | (refine⟨undef,Or.inr ⟨by rfl,rfl⟩,?_⟩) | (apply Exists.intro;refine⟨Or.inl ⟨by rfl,?_⟩,?_⟩;(intro x hx';go_simp;first | done | with_reducible rfl)))
       (try simp only[Act.put,List.getElem_toArray,List.getElem_cons_zero,List.getElem_cons_succ,List.setIfInBounds_toArray,List.set_cons_zero,List.set_cons_succ])
       refine Z0 4 rfl (by kernel_rfl) (by kernel_rfl) (by kernel_rfl) (fun v c a w h=>h) ?_
       (first | (refine⟨undef,Or.inr ⟨by rfl,rfl⟩,?_⟩) | (apply Exists.intro;refine⟨Or.inl ⟨by rfl,?_⟩,?_⟩;(intro x hx';go_simp;first | done | with_reducible rfl)))
       (try simp only[Act.put,List.getElem_toArray,List.getElem_cons_zero,List.getElem_cons_succ,List.setIfInBounds_toArray,List.set_cons_zero,List.set_cons_succ])
       refine Z0 5 rfl (by kernel_rfl) (by kernel_rfl) (by kernel_rfl) (fun v c a w h=>h) ?_
       (first | (refine⟨undef,Or.inr ⟨by rfl,rfl⟩,?_⟩) | (apply Exists.intro;refine⟨Or.inl ⟨by rfl,?_⟩,?_⟩;(intro x hx';go_simp;first | done | with_reducible rfl)))
       (try simp only[Act.put,List.getElem_toArray,List.getElem_cons_zero,List.getElem_cons_succ,List.setIfInBounds_toArray,List.set_cons_zero,List.set_cons_succ])
       refine Z0 6 rfl (by kernel_rfl) (by kernel_rfl) (by kernel_rfl) (fun v c a w h=>h) ?_
       (first | (refine⟨undef,Or.inr ⟨by rfl,rfl⟩,?_⟩) | (apply Exists.intro;refine⟨Or.inl ⟨by rfl,?_⟩,?_⟩;(intro x hx';go_simp;first | done | with_reducible rfl)))
       (try simp only[Act.put,List.getElem_toArray,List.getElem_cons_zero,List.getElem_cons_succ,List.setIfInBounds_toArray,List.set_cons_zero,List.set_cons_succ])
       refine Z0 7 rfl (by kernel_rfl) (by kernel_rfl) (by kernel_rfl) (fun v c a w h=>h) ?_
       (first | (refine⟨undef,Or.inr ⟨by rfl,rfl⟩,?_⟩) | (apply Exists.intro;refine⟨Or.inl ⟨by rfl,?_⟩,?_⟩;(intro x hx';go_simp;first | done | with_reducible rfl)))
       (try simp only[Act.put,List.getElem_toArray,List.getElem_cons_zero,List.getElem_cons_succ,List.setIfInBounds_toArray,List.set_cons_zero,List.set_cons_succ])
       refine Z1 8 rfl (by kernel_rfl) (by kernel_rfl) (by kernel_rfl) (by kernel_rfl) (fun v c a w h=>h) hS0 ?_
       (first | (refine⟨undef,Or.inr ⟨by rfl,rfl⟩,?_⟩) | (apply Exists.intro;refine⟨Or.inl ⟨by rfl,?_⟩,?_⟩;(intro x hx';go_simp;first | done | with_reducible rfl)))
       (try simp only[Act.put,List.getElem_toArray,List.getElem_cons_zero,List.getElem_cons_succ,List.setIfInBounds_toArray,List.set_cons_zero,List.set_cons_succ])
       refine Z0 9 rfl (by kernel_rfl) (by kernel_rfl) (by kernel_rfl) (fun v c a w h=>h) ?_
       (first | (refine⟨undef,Or.inr ⟨by rfl,rfl⟩,?_⟩) | (apply Exists.intro;refine⟨Or.inl ⟨by rfl,?_⟩,?_⟩;(intro x hx';go_simp;first | done | with_reducible rfl)))
       (try simp only[Act.put,List.getElem_toArray,List.getElem_cons_zero,List.getElem_cons_succ,List.setIfInBounds_toArray,List.set_cons_zero,List.set_cons_succ])
       refine Z0 10 rfl (by kernel_rfl) (by kernel_rfl) (by kernel_rfl) (fun v c a w h=>h) ?_
       (first | (refine⟨undef,Or.inr ⟨by rfl,rfl⟩,?_⟩) | (apply Exists.intro;refine⟨Or.inl ⟨by rfl,?_⟩,?_⟩;(intro x hx';go_simp;first | done | with_reducible rfl)))
       (try simp only[Act.put,List.getElem_toArray,List.getElem_cons_zero,List.getElem_cons_succ,List.setIfInBounds_toArray,List.set_cons_zero,List.set_cons_succ])
       refine Z2 (by kernel_rfl) ?_ _
       refine NoPanic.normal ?_
       (try simp only[Act.put,List.getElem_toArray,List.getElem_cons_zero,List.getElem_cons_succ,List.setIfInBounds_toArray,List.set_cons_zero,List.set_cons_succ])
       have hal6:=Z9 y4 (.cells #[.int .i64 ex,.int .i64 ey] 30)
       have g6:Nw y4 (y4.alloc (.cells #[.int .i64 ex,.int .i64 ey] 30)):=(Nw.refl y4).alloc _
       obtain⟨v',w6,hr6,hO6,hg6,_,ga6,cc6,rfl⟩:=Yi.push V5 (onw (onw HI4.out.own hS0) g6) (ex,ey) y4.heap.size 1 (fun j u hu=>by
        rw[Z7 hal6]
        simpa [Y1] using hu) (by have:=HI4.out.on.len;omega) ((HI4.out.nw.trans hS0).trans g6).sz
       have HI6:=hD0 (show OnI W0 l (.slice (some ⟨ga6,0,none⟩) (out.length+1) cc6) k1 (out++[(ex,ey)]) w6 from⟨hO6,((HI4.out.nw.trans hS0).trans g6).gro hg6 (fun b e=>oge HI4.out.own e),by rw[←HK1.out];exact HO.out⟩)
       have HR6:=hD0 hr6
       have hb0:=tB0 y4 hS0
       have hb1:=tB1 y4 hS0
       have hBl:=lL0 (Go.Proofs.Ytobnolgphljoeaa.hlt HAL.out) hS0.sz
       clear hal6 g6 hr6 hO6 hg6 hS0 tB0 tB1 HI4 ty0 ty1
       go_wp2_with (at_builtin;refine Zu (by rfl) (.tmp 24) (.tmp 26) 22 rfl _ _ _ _ rfl rfl HR6.out ?_)
       go_roundw
       case rel=>exact⟨k1,out++[(ex,ey)],some ⟨ga6,0,none⟩,out.length+1,cc6,rfl,rfl,by rw[←HK1.out];exact hlt,HI6⟩
       case measure=>rw[←HK1.out];exact Zz hlt
  ·obtain rfl:k=n:=Nat.le_antisymm hkn (Nat.le_of_not_lt hlt)
   have hlt':¬k<k:=Nat.lt_irrefl k
   clear hlt
   go_wp2
   go_ret
   exact⟨_,out,rfl,HI.out.own,HI.out.nw,HI.out.on⟩
theorem Weak.of{l:List (Int × Int)}(h:l.Pairwise fun a b=>ltOf Z07 b a=false):Z19 l:=h.imp (fun {a b} q=>by
 rw[V1] at q
 exact of_decide_eq_false q)
theorem Yg{w:World}{v:Value}{l:List (Int × Int)}(h:Yc w v l)(hl:l.length≤1000) :
  Calls prog 20 #[v] w fun e w'=>∃v',e=.returned v'∧Y4 w' w.heap.size v' (sortE l)∧Nw w w':=by
 have HC:=hD0 (Z34 v l w (Nat.le_trans hl (by decide)) h)
 obtain⟨a,c,rfl⟩:=h.form
 have HL:=hD0 hl
 clear h hl
 go_enter func20,ntmps20
 go_wp2_with fail
 refine HC.out.mono ?_
 rintro e w1 ⟨v1,rfl,g1,hO1⟩
 rcases Va hO1 with⟨rfl,hz⟩ | ⟨g,cap,rfl⟩
 ·have hl0:l=[]:=List.length_eq_zero_iff.1 hz
  have HS:=hD0 (AnyF.slices_SortFunc_none (P:=prog) { Try.sortE with } none 0 (.func (.func 40) #[] #[]) w1)
  have HOn:=hD0 (U0 (W0:=w1) (v:=.slice none 0 0) (l:=[]) (Rd.nil w1) (by simp) List.Pairwise.nil)
  have HG:=hD0 (aI0 g1 hl0)
  clear g1 hl0 hO1 hz HC
  go_wp2_with fail
  refine Calls.mono HS.out ?_
  rintro e w2 ⟨rfl,rfl⟩
  go_wp2_with fail
  refine HOn.out.mono ?_
  rintro e w3 ⟨v3,out,rfl,hO,hN,hP⟩
  have HE:=hD0 (show Y4 w3 w.heap.size v3 (sortE l)∧Nw w w3 from by
   have e:out=[]:=by
    have:=hP.len
    exact List.length_eq_zero_iff.1 (Nat.le_zero.1 this)
   rw[HG.out.2]
   subst e
   exact⟨Z3d hO (fun b q=>by have:=oge hO q;have:=HG.out.1.sz;omega),HG.out.1.trans hN⟩)
  clear hO hN hP
  go_wp2
  go_ret
  exact⟨_,rfl,HE.out.1,HE.out.2⟩
 ·have HS:=hD0 (Z16 V5 (ρ:=_) { Try.sortE with } (by intro w;kernel_rfl) (by intro w;kernel_rfl) Z07 Z1a 40 Z1f Vm _ g cap l w1 hO1 (Nat.le_trans HL.out (by decide)))
  have HG:=hD0 (aI0 g1 (oge hO1 (g:=g) rfl))
  clear g1 hO1 HC
  go_wp2_with fail
  refine Calls.mono HS.out ?_
  rintro e w2 ⟨rfl,l2,hp,hs,hO2,ht⟩
  have hl2:l2.length=l.length:=hp.length_eq
  have hO2':=hO2
  rw[hl2] at hO2'
  have g2:Nw w w2:=Zh HG.out.1 ht (fun i e=>by subst e;exact HG.out.2)
  have HOn:=hD0 (U0 (W0:=w2) (v:=.slice (some ⟨g,0,none⟩) l2.length cap) (l:=l2) (Y4.at_ hO2) (by rw[hl2];exact HL.out) (Weak.of hs))
  rw[hl2] at HOn
  have HG2:=hD0 (aI0 g2 (aI0 hp hl2))
  clear g2 hp hs hO2 hO2' ht hl2 HS HG
  go_wp2_with fail
  refine HOn.out.mono ?_
  rintro e w3 ⟨v3,out,rfl,hO,hN,hP⟩
  have HE:=hD0 (show Y4 w3 w.heap.size v3 (sortE l)∧Nw w w3 from by
   have e:=hP.done (Nat.le_of_eq HG2.out.2.2) HG2.out.2.1
   subst e
   exact⟨Z3d hO (fun b q=>by have:=oge hO q;have:=HG2.out.1.sz;omega),HG2.out.1.trans hN⟩)
  clear hO hN hP
  go_wp2
  go_ret
  exact⟨_,rfl,HE.out.1,HE.out.2⟩
end
section
open Go.RowKit Go.Sort
theorem Z2p{w:World}{g n cap:Nat}{x:Int}{r:List Int}(h:IS w (.slice (some ⟨g,0,none⟩) n cap) (x::r))(hl:r.length≤1000) :
  Calls prog 46 #[.slice (if cap=1 then some ⟨g,0,none⟩else some ⟨g,1,none⟩) r.length (cap-1)] w fun e w'=>e=.returned (.tuple #[])∧IS w' (.slice (some ⟨g,0,none⟩) n cap) (x::r.reverse)∧Zf (fun k=>k=g) w w':=by
 have hn:=h.nlen
 subst hn
 cases r with
 | nil =>
  refine(Try.slices_Reverse_int_empty (if cap=1 then some ⟨g,0,none⟩else some ⟨g,1,none⟩) (cap-1) w).mono ?_
  rintro e w' ⟨rfl,rfl⟩
  exact⟨rfl,h,Zf.refl _ _⟩
 | cons y r =>
  have hcap:(x::y::r).length≤cap:=by
   rcases h.2 with⟨q,_⟩ | ⟨g',cap',cur,q,_,_,q4,_⟩
   ·simp at q
   ·simp only[Value.slice.injEq] at q
    omega
  have hc1:¬cap=1:=by simp at hcap;omega
  rw[if_neg hc1]
  have hH:Holds (Value.int .i64) w g 1 (y::r).toArray:=by
   intro j hj
   have hj':j<(y::r).length:=by simpa using hj
   have hc:=h.cell (j+1) (by simp at hj' ⊢;omega)
   refine⟨?_,h.frozen (1+j)⟩
   rw[show 1+j=j+1 by omega,hc]
   have e1:(x::y::r).getD (j+1) 0=(y::r)[j]:=by
    rw[List.getD_eq_getElem?_getD,List.getElem?_cons_succ,List.getElem?_eq_getElem hj'];rfl
   have e2:(y::r).toArray[j]! = (y::r)[j]:=by
    rw[getElem!_pos (y::r).toArray j hj];simp
   rw[e1,e2]
  refine(Try.slices_Reverse_int g 1 (cap-1) (y::r) w hH (by omega)).mono ?_
  rintro e w' ⟨rfl,m,rfl⟩
  rcases h.2 with⟨q,_⟩ | ⟨g',cap',cur,q,q0,hb,q4,q5,q6,q7⟩
  ·simp at q
  ·simp only[Value.slice.injEq,Option.some.injEq,Addr.mk.injEq,and_true,true_and] at q
   obtain⟨rfl,rfl⟩:=q
   have hb':(putRow (Value.int .i64) (Sort.ahead w m) g 1 (y::r).reverse.toArray).heap[g]?=some (.cells (putCells (Value.int .i64) 1 (y::r).reverse.toArray cur) 3 (0,0)):=by
    simp[putRow,mapBlock,Sort.ahead,Array.getElem?_modify,hb,onCells]
   have hlen:(x::(y::r).reverse).length=(x::y::r).length:=by simp
   refine⟨rfl,?_,⟨rfl,rfl,rfl,by simp[putRow,mapBlock,Sort.ahead],fun k hk hne=>?_⟩⟩
   ·unfold IS
    rw[hlen]
    refine⟨by simp,.inr ⟨g,cap,_,rfl,q0,hb',q4,q5,by simp[putCells,q6],?_⟩⟩
    apply List.ext_getElem?
    intro j
    by_cases hj:j<(x::y::r).length
    ·have hj1:j<(x::y::r).length*1:=by omega
     rw[List.getElem?_take_of_lt hj1,Array.getElem?_toList]
     have hjc:j<cur.size:=by omega
     rw[show(putCells (Value.int .i64) 1 (y::r).reverse.toArray cur)[j]?=some (if 1≤j∧j<1+(y::r).reverse.toArray.size then Value.int .i64 ((y::r).reverse.toArray[j-1]!)else cur[j]) by
      rw[Array.getElem?_eq_getElem (by simpa [putCells] using hjc)]
      simp[putCells]]
     cases j with
     | zero =>
      rw[if_neg (by omega)]
      have:=congrArg (fun l=>l[0]?) q7
      rw[List.getElem?_take_of_lt (by simp),Array.getElem?_toList,Array.getElem?_eq_getElem hjc] at this
      simpa using this
     | succ j =>
      have hj2:j<(y::r).reverse.length:=by simpa using hj
      rw[if_pos ⟨by omega,by simp at hj2 ⊢;omega⟩]
      simp only[List.map_cons,List.getElem?_cons_succ,Nat.add_sub_cancel]
      rw[List.getElem?_map,List.getElem?_eq_getElem hj2]
      have e2:(y::r).reverse.toArray[j]! = (y::r).reverse[j]:=by
       rw[getElem!_pos (y::r).reverse.toArray j (by simpa using hj2)];simp
      rw[e2];rfl
    ·rw[List.getElem?_take_eq_none (by omega),List.getElem?_eq_none (by simp at hj ⊢;omega)]
   ·have:g≠k:=fun e=>hne e.symm
    simp[putRow,mapBlock,Sort.ahead,Array.getElem?_modify,this]
theorem Ur{a:Int}{W:List (List Int)}(hn:(W.map (Zd a)).Nodup){r:List Int}(hr:r∈W):Y3 a W (Zd a r)=some (Zd a r.tail):=by
 unfold Y3
 have:W.find? (fun q=>Zd a q==Zd a r)=some r:=by
  induction W with
  | nil=>cases hr
  | cons q W ih =>
   rw[List.map_cons,List.nodup_cons] at hn
   rw[List.find?_cons]
   by_cases e:Zd a q=Zd a r
   ·have:(Zd a q==Zd a r)=true:=by simpa using e
    rw[this]
    rcases List.mem_cons.1 hr with k | k
    ·rw[k]
    ·exact absurd (e▸List.mem_map.2 ⟨r,k,rfl⟩) hn.1
   ·have:(Zd a q==Zd a r)=false:=by simpa using e
    rw[this]
    rcases List.mem_cons.1 hr with k | k
    ·exact absurd (by rw[k]) e
    ·exact ih hn.2 k
 rw[this];rfl
def Z3u:Value→Nat
 | .slice _ n _=>n
 | _=>0
structure RoI(W0:World)(mb:Nat)(f:Int→Option Int)(N:Nat)(a:Int)(r:List Int)(g cap j:Nat)(w:World):Prop where
 is:IS w (.slice (some ⟨g,0,none⟩) (j+1) cap) (a::r.take j)
 nw:Nw W0 w
 mp:Za w mb f N
 lo:W0.heap.size≤g
theorem Z14{W0:World}{mb N:Nat}{f:Int→Option Int}(hm:Za W0 mb f N)(a:Int)(ha:Z8 a)(r:List Int)(hl:r.length≤1000)(h0:f a=some (Zd a r))(hf:∀j,(hj:j<r.length)→Z8 r[j]∧r[j]≠a∧f r[j]=some (Zd a (r.drop (j+1)))) :
  Calls prog 24 #[.map (some mb),.int .i64 a] W0 fun e w'=>∃v',e=.returned v'∧IS w' v' (a::r.reverse)∧Nw W0 w':=by
 have HF:=hD0 hf
 have HM:=hD0 hm
 have g1:Nw W0 (W0.alloc (.cells #[.int .i64 a] 3)):=(Nw.refl W0).alloc _
 have hlk:=(hm.nw g1).look_val ha h0
 have HI0:Hid (RoI W0 mb f N a r W0.heap.size 1 0 (W0.alloc (.cells #[.int .i64 a] 3))):=hD0 ⟨by
  have:=World.ownsRow_lit (base:=0) (size:=1) (e:=3) W0 #[.int .i64 a] 1 (Nat.zero_le _) (by decide) (by simp)
  simpa [IS] using this,g1,hm.nw g1,Nat.le_refl _⟩
 obtain⟨w1,hw1⟩:∃x,W0.alloc (.cells #[.int .i64 a] 3)=x:=⟨_,rfl⟩
 rw[hw1] at hlk HI0
 have HW1:=hD0 hw1
 obtain⟨x0,hx0⟩:∃x,Zd a r=x:=⟨_,rfl⟩
 have HX0:=hD0 hx0
 rw[hx0] at hlk
 clear hf hm g1 hw1 hx0 h0 ha
 go_enter func24,ntmps24
 go_upto_region 2 with fail
 rw[HW1.out]
 go_wp2_with fail
 go_loopw [5,6] (fun v5 v6 wr=>∃(j g cap:Nat) (x:Int),v5=.slice (some ⟨g,0,none⟩) (j+1) cap∧v6=.int .i64 x∧j≤r.length∧Hid (Zd a (r.drop j)=x)∧Hid (RoI W0 mb f N a r g cap j wr)) (fun v5 _ _=>r.length+1-Z3u v5)
 case atStart=>exact⟨0,_,_,x0,rfl,rfl,Nat.zero_le _,hD0 HX0.out,HI0⟩
 case round =>
  clear HI0
  obtain⟨j,g,cap,x,rfl,rfl,hj,HX,HI⟩:=hrel
  by_cases hlt:j<r.length
  ·have hx:x=r[j]:=by
    rw[←HX.out,←List.getElem_cons_drop hlt];rfl
   obtain⟨hxf,hxa,hpx⟩:=HF.out j hlt
   rw[←hx] at hxf hxa hpx
   have hne1:(x==a)=false:=by simpa using hxa
   have hne2:(x != a)=true:=by simpa using hxa
   obtain⟨v',w2,hr2,hI2,ht2,hk2,g2,cap2,rfl⟩:=IS.push wr _ (a::r.take j) x HI.out.is (by simp[List.length_take];omega)
   have hlen:(a::r.take j).length+1=j+1+1:=by simp[List.length_take];omega
   have hlk:=(HI.out.mp.tch ht2 (fun e=>by
    have e':g=mb:=Option.some.inj e
    obtain⟨es,c,q⟩:=HI.out.mp.obj
    obtain⟨c',q'⟩:=Zl HI.out.is (g:=g) rfl
    rw[e',q] at q';cases q')).look_val hxf hpx
   have HI2:=hD0 (show RoI W0 mb f N a r g2 cap2 (j+1) w2 from⟨by
    have e:a::r.take (j+1)=(a::r.take j)++[x]:=by rw[List.take_succ_eq_append_getElem hlt,hx];rfl
    rw[e,←hlen];exact hI2,Zh HI.out.nw ht2 (fun i e=>by rw[←Option.some.inj e];exact HI.out.lo),HI.out.mp.tch ht2 (fun e=>by
    have e':g=mb:=Option.some.inj e
    obtain⟨es,c,q⟩:=HI.out.mp.obj
    obtain⟨c',q'⟩:=Zl HI.out.is (g:=g) rfl
    rw[e',q] at q';cases q'),by
    rcases hk2 g2 rfl with e | e
    ·rw[←Option.some.inj e];exact HI.out.lo
    ·exact Nat.le_trans HI.out.nw.sz e⟩)
   have HR2:=hD0 hr2
   obtain⟨y,hy⟩:∃y,Zd a (r.drop (j+1))=y:=⟨_,rfl⟩
   have HY:=hD0 hy
   rw[hy] at hlk
   rw[hlen] at HR2
   clear hr2 hI2 ht2 hk2 hxf hpx hx hlen hy HI
   go_wp2_with (at_builtin;refine Zu (by rfl) (.tmp 18) (.tmp 20) 24 rfl _ _ _ _ rfl rfl HR2.out ?_)
   go_roundw
   case rel=>exact⟨j+1,g2,cap2,y,rfl,rfl,hlt,hD0 HY.out,HI2⟩
   case measure=>show r.length+1-(j+1+1)<r.length+1-(j+1);omega
  ·obtain rfl:j=r.length:=by omega
   have hx:x=a:=by rw[←HX.out,List.drop_length];rfl
   subst hx
   have his:=HI.out.is
   rw[List.take_length] at his
   have hcap:r.length+1≤cap:=by
    rcases his.2 with⟨q,_⟩ | ⟨g',cap',cur,q,_,_,q4,_⟩
    ·simp at q
    ·simp only[Value.slice.injEq] at q
     simp at q4
     omega
   have HRv:=hD0 (Z2p his hl)
   have hc1:1≤r.length+1:=by omega
   have hc2:(1:Int)≤(r.length:Int)+1:=by omega
   have HZ:=hD0 (aI0 HI.out.nw HI.out.lo)
   clear his HI hlt
   by_cases hc:cap=1
   ·subst hc
    obtain rfl:r=[]:=List.length_eq_zero_iff.1 (by omega)
    simp only[if_true,Nat.sub_self,List.length_nil,Nat.zero_add] at HRv hcap hc1 hc2
    clear hj hcap hc1 hc2
    go_wp2_with fail
    refine HRv.out.mono ?_
    rintro e w3 ⟨rfl,hI3,ht3⟩
    have HE:=hD0 (aI0 hI3 (Zh HZ.out.1 ht3 (fun i e=>by rw[e];exact HZ.out.2)))
    clear hI3 ht3 HRv
    go_wp2
    go_ret
    exact⟨_,rfl,HE.out.1,HE.out.2⟩
   ·rw[if_neg hc] at HRv
    obtain⟨nr,hnr⟩:∃n,r.length=n:=⟨_,rfl⟩
    rw[hnr] at HRv hcap hc1 hc2 hl ⊢
    clear hj hnr HF
    go_wp2_with fail
    refine HRv.out.mono ?_
    rintro e w3 ⟨rfl,hI3,ht3⟩
    have HE:=hD0 (aI0 hI3 (Zh HZ.out.1 ht3 (fun i e=>by rw[e];exact HZ.out.2)))
    clear hI3 ht3 HRv
    go_wp2
    go_ret
    exact⟨_,rfl,HE.out.1,HE.out.2⟩
theorem Z24{w:World}{B:Nat}{a:Int}(h:w.cell? ⟨B,0,none⟩=some (.int .i64 a)):Z06 w (.func (.func 23) #[] #[.pointer (some ⟨B,0,none⟩)]) (fun x=>x==a):=by
 refine⟨23,_,rfl,enters_of func23 (by kernel_rfl) rfl,fun x w1 g=>?_⟩
 have hc:=g.kp h
 simp only[List.append_toArray,List.cons_append,List.nil_append]
 go_enter func23,ntmps23
 go_wp2
 go_ret
 exact⟨rfl,Nw.refl _⟩
theorem Z25(w:World):Z06 w (.func (.func 25) #[] #[]) (fun _=>false):=by
 refine⟨25,_,rfl,enters_of func25 (by kernel_rfl) rfl,fun x w1 g=>?_⟩
 simp only[List.append_toArray,List.append_nil]
 go_enter func25,ntmps25
 go_wp2
 go_ret
 exact⟨rfl,Nw.refl _⟩
theorem Z0h{l:List (Int × Int)}(hF:∀e∈l,Z8 e.1∧Z8 e.2):∀e∈sortE l,Z8 e.1∧Z8 e.2:=fun e he=>hF e (Zv.1 he)
theorem Uc{w:World}{v:Value}{l:List (Int × Int)}(h:Yc w v l)(hl:l.length≤1000)(hF:∀e∈l,Z8 e.1∧Z8 e.2) :
  Calls prog 9 #[v] w fun e w'=>∃b,e=.returned (.bool b)∧(b=false↔∃x,Y0 l x x)∧Nw w w':=by
 have HS:=hD0 (Yg h hl)
 have hls:=Nat.le_trans (Yt l) hl
 have HA:=hD0 (aI0 hF hls)
 obtain⟨a,c,rfl⟩:=h.form
 clear h hF hls
 go_enter func9,ntmps9
 go_wp2_with fail
 refine HS.out.mono ?_
 rintro e w1 ⟨v1,rfl,hO,g1⟩
 have HL:=hD0 (Yx (Y4.at_ hO) (Yb l) HA.out.2 (Z0h HA.out.1))
 have HG:=hD0 g1
 clear hO g1 HS
 go_wp2_with fail
 refine HL.out.mono ?_
 rintro e w2 ⟨fd,ls,rfl,hR,g2⟩
 have HR:=hD0 (aI0 (show(!fd)=false↔∃x,Y0 l x x from by
  have:=hR.1
  constructor
  ·intro q
   obtain⟨x,r⟩:=this.1 (by simpa using q)
   exact⟨x,(Zx (fun _=>Zv)).1 r⟩
  ·rintro⟨x,r⟩
   have:=this.2 ⟨x,(Zx (fun _=>Zv)).2 r⟩
   rw[this];rfl) (HG.out.trans g2))
 clear hR g2 HL
 go_wp2
 go_ret
 exact⟨_,rfl,HR.out.1,HR.out.2⟩
end
section
open Go.RowKit Go.Sort
theorem Z22{E:List (Int × Int)}{a:Int}{W:List (List Int)}(hs:Zc E)(hr:Y0 E a a)(h:SrP E a (fun x=>x==a) W) :
  ∃r,Lst E a a r∧r.length≤E.length∧Y3 a W a=some (Zd a r)∧∀j,(hj:j<r.length)→(∃e∈E,e.2=r[j])∧r[j]≠a∧Y3 a W r[j]=some (Zd a (r.drop (j+1))):=by
 rcases h with⟨h,h1,b,h2⟩ | ⟨W1,y,r,h,i,rfl,b,h1,h2,h3,h4,h5⟩
 ·exfalso
  obtain⟨q,hq,e⟩:=List.mem_map.1 ((b.reach h1 a).2 hr)
  have:=h2 q hq
  rw[e] at this
  simp at this
 ·have hy:y=a:=by simpa using h4
  subst hy
  have hrm:r∈([]::W1):=List.mem_of_getElem? h1
  have hnd:((W1++[y::r]).map (Zd y)).Nodup:=by
   rw[List.map_append,List.map_singleton]
   exact List.nodup_append.2 ⟨b.nd,by simp,fun x hx z hz e=>by
    rw[List.mem_singleton.1 hz] at e
    exact h3 ((show x=y from e)▸hx)⟩
  refine⟨r,b.first hs h1 h2 h3,b.wlen hrm,Ur (r:=y::r) hnd (by simp),fun j hj=>?_⟩
  have hs1:=b.suf r.length r rfl hrm j hj
  have hd:Zd y (r.drop j)=r[j]:=by rw[←List.getElem_cons_drop hj];rfl
  have hm:r[j]∈W1.map (Zd y):=List.mem_map.2 ⟨_,hs1,hd⟩
  refine⟨b.inE _ hm,fun e=>h3 (e▸hm),?_⟩
  have:=Ur hnd (List.mem_append_left [y::r] hs1)
  rw[hd,List.tail_drop] at this
  exact this
theorem Vs{w:World}{v:Value}{l:List (Int × Int)}(h:Yc w v l)(hl:l.length≤1000)(hF:∀e∈l,Z8 e.1∧Z8 e.2) :
  Calls prog 8 #[v] w fun e w'=>∃v' c b,e=.returned (.tuple #[v',.bool b])∧IS w' v' c∧Yq l c b∧Nw w w':=by
 have HS:=hD0 (Yg h hl)
 have hls:=Nat.le_trans (Yt l) hl
 have HA:=hD0 (aI0 hF hls)
 obtain⟨a,c,rfl⟩:=h.form
 clear h hF hls
 go_enter func8,ntmps8
 go_wp2_with fail
 refine HS.out.mono ?_
 rintro e w1 ⟨v1,rfl,hO,g1⟩
 obtain⟨E,hE⟩:∃E,sortE l=E:=⟨_,rfl⟩
 have HE:=hD0 (aI0 (show Zc E from hE▸Yb l) (aI0 (show E.length≤1000 from hE▸HA.out.2) (aI0 (show ∀e∈E,Z8 e.1∧Z8 e.2 from hE▸Z0h HA.out.1) (show ∀x,x∈E↔x∈l from fun x=>hE▸Zv))))
 rw[hE] at hO
 have HO:=hD0 (Y4.at_ hO)
 have HL:=hD0 (Yx HO.out HE.out.1 HE.out.2.1 HE.out.2.2.1)
 have HG:=hD0 g1
 clear hO g1 HS hE
 go_wp2_with fail
 refine HL.out.mono ?_
 rintro e w2 ⟨fd,ls,rfl,hR,g2⟩
 have HR:=hD0 (aI0 hR (HG.out.trans g2))
 have HO2:=hD0 (HO.out.nw g2)
 clear hR g2 HL HO HG
 cases fd with
 | false =>
  have HZ:=hD0 (Vr HE.out.2.2.2 (Z2d (fun q=>by have:=HR.out.1.1.2 q;cases this)))
  go_wp2_with fail
  go_ret2
  exact⟨_,[],false,rfl,IS.nil _,HZ.out,HR.out.2.alloc _⟩
 | true =>
  obtain⟨hr1,hr2⟩:=HR.out.1.2 rfl
  have HLs:=hD0 (aI0 hr1 hr2)
  have hfit:Z8 ls:=by
   obtain⟨y,hy⟩:=Vc hr1
   exact(HE.out.2.2.1 _ hy).1
  have hal:=Z9 w2 (.cells #[.int .i64 ls] 3)
  have g3:Nw w2 (w2.alloc (.cells #[.int .i64 ls] 3)):=(Nw.refl w2).alloc _
  obtain⟨w3,hw3⟩:∃x,w2.alloc (.cells #[.int .i64 ls] 3)=x:=⟨_,rfl⟩
  have HW3:=hD0 hw3
  rw[hw3] at hal g3
  obtain⟨B,hB⟩:∃B,w2.heap.size=B:=⟨_,rfl⟩
  have HB:=hD0 hB
  rw[hB] at hal
  have HAL:=hD0 hal
  have HT:=hD0 (Z24 (a:=ls) (Z7 (j:=0) hal))
  have HSe:=hD0 (Vf (HO2.out.nw g3) HE.out.1 HE.out.2.1 HE.out.2.2.1 ls hfit HT.out)
  have HG3:=hD0 (aI0 (HR.out.2.trans g3) hfit)
  have hb0:=Z7 (j:=0) hal
  have hBl:=hlt hal
  clear hr1 hr2 hal g3 hw3 HO2 HT hfit hB
  go_upto_region 5 with fail
  rw[HW3.out,HB.out]
  go_wp2_with fail
  refine HSe.out.mono ?_
  rintro e w4 ⟨mb,W,rfl,g4,hmb,hm,hsr⟩
  obtain⟨r,q1,q2,q3,q4⟩:=Z22 HE.out.1 HLs.out.1 hsr
  have HRo:=hD0 (Z14 hm ls HG3.out.2 r (Nat.le_trans q2 HE.out.2.1) q3 (fun j hj=>by
   obtain⟨⟨e,he,e1⟩,e2,e3⟩:=q4 j hj
   exact⟨e1▸(HE.out.2.2.1 e he).2,e2,e3⟩))
  have HQ:=hD0 (aI0 (Vr HE.out.2.2.2 (Z2e HLs.out.1 HLs.out.2 q1)) (HG3.out.1.trans g4))
  have hb4:=g4.kp hb0
  have hBl4:=lL0 hBl g4.sz
  clear g4 hmb hm hsr q1 q2 q3 q4 HSe hb0 hBl
  go_wp2_with fail
  refine HRo.out.mono ?_
  rintro e w5 ⟨v5,rfl,h5,g5⟩
  have HZ:=hD0 (aI0 h5 (HQ.out.2.trans g5))
  clear h5 g5 HRo
  go_wp2
  go_ret2
  exact⟨_,_,true,rfl,HZ.out.1,HQ.out.1,HZ.out.2⟩
end
end Go.Proofs.Ytobnolgphljoeaa
namespace Go.Proofs
open _root_.Go.Proofs.Try
open Go.Shelf
def Try.keysL_ren:Go.Shelf.Ren:=⟨fun | 7=>27 | 10=>49 | n=>n,fun | 23=>53 | 26=>3 | 3=>3 | 28=>59 | 0=>0 | 27=>58 | 33=>55 | 4=>4 | n=>n,fun | n=>n⟩
theorem Try.keysL:Go.Proofs.SlLaysZI.n7 prog Try.keysL_ren:={
 mixed:=by kernel_rfl
 f7:=⟨Try.f27.name,by decide,func27.trans (congrArg some (by kernel_rfl))⟩
 f10:=⟨Try.f49.name,by decide,func49.trans (congrArg some (by kernel_rfl))⟩
 t0:=underlying0
 a0:=Try.isAgg0
 z0:=Try.sizeOf0
 v0:=Try.zeroValue0
 t4:=underlying4
 a4:=Try.isAgg4
 z4:=Try.sizeOf4
 v4:=Try.zeroValue4
 t23:=underlying53
 a23:=Try.isAgg53
 z23:=Try.sizeOf53
 v23:=Try.zeroValue53
 t26:=underlying3
 a26:=Try.isAgg3
 z26:=Try.sizeOf3
 v26:=Try.zeroValue3
 t27:=underlying58
 a27:=Try.isAgg58
 z27:=Try.sizeOf58
 v27:=Try.zeroValue58
 t28:=underlying59
 a28:=Try.isAgg59
 z28:=Try.sizeOf59
 v28:=Try.zeroValue59
 t33:=underlying55
 a33:=Try.isAgg55
 z33:=Try.sizeOf55
 v33:=Try.zeroValue55 }
def Try.sortedL_ren:Go.Shelf.Ren:=⟨fun | 6=>26 | 8=>47 | 9=>48 | 11=>67 | 13=>61 | 12=>68 | 23=>85 | 24=>86 | 14=>90 | 15=>91 | 16=>92 | 17=>93 | 18=>94 | 19=>95 | 20=>96 | 21=>97 | 22=>98 | 25=>108 | 26=>104 | 27=>105 | 28=>109 | 29=>110 | 30=>62 | 31=>113 | n=>n,fun | 26=>3 | 28=>59 | 24=>24 | 0=>0 | 3=>3 | 37=>91 | 48=>111 | 50=>113 | 4=>4 | 40=>105 | 39=>104 | 45=>51 | 5=>5 | 9=>9 | 51=>125 | 55=>129 | 57=>133 | 58=>134 | 33=>55 | n=>n,fun | n=>n⟩
theorem Try.sortedL:Go.Proofs.SlLaysZI.n6 prog Try.sortedL_ren:={
 mixed:=by kernel_rfl
 f6:=⟨Try.f26.name,by decide,func26.trans (congrArg some (by kernel_rfl))⟩
 f8:=⟨Try.f47.name,by decide,func47.trans (congrArg some (by kernel_rfl))⟩
 f11:=⟨Try.f67.name,by decide,func67.trans (congrArg some (by kernel_rfl))⟩
 t0:=underlying0
 a0:=Try.isAgg0
 z0:=Try.sizeOf0
 v0:=Try.zeroValue0
 t24:=underlying24
 a24:=Try.isAgg24
 z24:=Try.sizeOf24
 v24:=Try.zeroValue24
 t26:=underlying3
 a26:=Try.isAgg3
 z26:=Try.sizeOf3
 v26:=Try.zeroValue3
 t28:=underlying59
 a28:=Try.isAgg59
 z28:=Try.sizeOf59
 v28:=Try.zeroValue59
 i26:=by kernel_rfl }
end Go.Proofs
namespace Go.Proofs.Ytobnolgphljoeaa
open Go.RowKit _root_.Go.Proofs.Try
section
open Go.RowKit Go.Sort Go.Maps Go.Shelf
theorem Z3h(m:Nat):AnyZI.SortsIn prog Try.sortedL_ren Fence.wide m :=
  ⟨fun blk off cap ss W hH hblk hsz=>callsIn_wide.2 (Try.slices_Sort_int blk off cap ss W hH hblk hsz),
   fun p cap W=>callsIn_wide.2 (Try.slices_Sort_int_none p cap W)⟩
theorem Z38(mb:Option Nat)(w:World):Calls prog 27 #[.map mb] w fun e w'=>e=.returned (.func (.func 49) #[] #[.pointer (some ⟨w.heap.size,0,none⟩)])∧w'=w.alloc (.cells #[.map mb] 53) :=
  (callsIn_wide (n:=5)).1 (AnyZI.keys_in Try.keysL Fence.wide 5 trivial rfl mb w)
theorem Z1n{ss K:List Int}(hp:ss.Perm K)(hn:K.Nodup):(ss.mergeSort fun x y=>decide (x≤y)).Pairwise (·<·)∧∀y,y∈(ss.mergeSort fun x y=>decide (x≤y))↔y∈K:=by
  have hs:(ss.mergeSort fun x y=>decide (x≤y)).Pairwise (·≤·):=by
    have:=List.pairwise_mergeSort (le:=fun(x y:Int)=>decide (x≤y)) (fun a b c h1 h2=>by simp at *;omega) (fun a b=>by simp;omega) ss
    exact this.imp (fun h=>by simpa using h)
  have hpm:(ss.mergeSort fun x y=>decide (x≤y)).Perm K:=(List.mergeSort_perm ss _).trans hp
  have hnd:=hpm.nodup_iff.2 hn
  refine⟨?_,fun y=>hpm.mem_iff⟩
  rw[List.nodup_iff_pairwise_ne] at hnd
  exact hs.imp₂ (fun a b h1 h2=>by omega) hnd
theorem Z21{w:World}{B mb N:Nat}{f:Int→Option Int}{K:List Int}(hm:Za w mb f N)(hB:w.cell? ⟨B,0,none⟩=some (.map (some mb)))(hBl:B<w.heap.size)(hn:K.Nodup)(hK:∀x,x∈K↔f x≠none)(hN:N≤1000000) :
    Calls prog 26 #[.func (.func 49) #[] #[.pointer (some ⟨B,0,none⟩)]] w fun e w'=>∃v l,e=.returned v∧IS w' v l∧l.Pairwise (·<·)∧(∀y,y∈l↔y∈K)∧Nw w w':=by
  obtain⟨D,o,h2,h3,h4⟩:=hm
  have hperm:K.Perm (intKeys D):=CollectedI.perm (left:=fun _=>false) ⟨hn,fun x=>by rw[hK x,h2 x];cases f x<;>simp⟩ o Z0c underlying3 (fun _=>rfl)
  have hmax:Maps.size D≤maxLen:=by unfold maxLen;omega
  have hbytes:Maps.size D*8≤140737488355328:=by omega
  have hseq:SeqGives Fence.wide 2 prog 49 #[.pointer (some ⟨B,0,none⟩)] encZ (fun ss=>ss.Perm (intKeys D)) (Maps.size D) w :=
    AnyZI.keys_gives (ρ:=Try.keysL_ren) { Try.keysL with } Fence.wide _ trivial rfl (by omega) B mb (Maps.size D) D _ hBl hB o
  have cS:=AnyZI.sorted_in Try.sortedL Fence.wide 5 trivial trivial trivial trivial rfl (by omega) (Z3h _) (enters_of func48 (by kernel_rfl) rfl) 49 #[.pointer (some ⟨B,0,none⟩)] trivial (enters_of func49 (by kernel_rfl) rfl) _ _ hmax hbytes _ hseq
  change CallsIn _ _ prog 26 _ _ _ at cS
  refine((callsIn_wide (n:=5)).1 cS).mono ?_
  rintro e w' ⟨v,ss,rfl,hS,hrow,hnil,hb⟩
  obtain⟨k1,k2⟩:=Z1n (hS.trans hperm.symm) hn
  refine⟨v,_,rfl,?_,k1,k2,hb⟩
  have hl:(ss.mergeSort fun x y=>decide (x≤y)).length=ss.length:=List.length_mergeSort _
  have hr:w'.ownsRow w.heap.size 3 1 v (ss.mergeSort fun x y=>decide (x≤y)).length ((ss.mergeSort fun x y=>decide (x≤y)).map (Value.int .i64)):=by rw[hl];exact hrow
  exact Z3d hr (fun _ _=>Nat.zero_le _)
theorem Z0l{w:World}{v:Value}{l:List (Int × Int)}(h:Yc w v l)(hl:l.length≤1000)(hF:∀e∈l,Z8 e.1∧Z8 e.2)(a:Int)(ha:Z8 a) :
    Calls prog 10 #[v,.int .i64 a] w fun e w'=>∃v' c,e=.returned v'∧IS w' v' c∧Z32 l a c∧Nw w w':=by
  have HS:=hD0 (Yg h hl)
  have hls:=Nat.le_trans (Yt l) hl
  have HA:=hD0 (aI0 hF (aI0 hls ha))
  obtain⟨ea,ec,rfl⟩:=h.form
  clear h hF hls ha
  go_enter func10,ntmps10
  go_wp2_with fail
  refine HS.out.mono ?_
  rintro e w1 ⟨v1,rfl,hO,g1⟩
  have HSe:=hD0 (Vf (Y4.at_ hO) (Yb l) HA.out.2.1 (Z0h HA.out.1) a HA.out.2.2 (Z25 w1))
  have HG:=hD0 g1
  clear hO g1 HS
  go_wp2_with fail
  refine HSe.out.mono ?_
  rintro e w2 ⟨mb,W,rfl,g2,hmb,hm,hsr⟩
  have hb:∃h,W.length<h∧BI (sortE l) a W h 0:=by
    rcases hsr with⟨h,h1,b,_⟩ | ⟨_,_,_,_,_,_,_,_,_,_,q,_⟩
    · exact⟨h,h1,b⟩
    · cases q
  obtain⟨hh,h1,b⟩:=hb
  have HK:=hD0 (Z38 (some mb) w2)
  have g3:Nw w2 (w2.alloc (.cells #[.map (some mb)] 53)):=(Nw.refl w2).alloc _
  have hal:=Z9 w2 (.cells #[.map (some mb)] 53)
  have HSo:=hD0 (Z21 (B:=w2.heap.size) (K:=W.map (Zd a)) (hm.nw g3) (Z7 (j:=0) hal) (hlt hal) b.nd (fun x=>by
    have:=Zq (a:=a) (W:=W) (x:=x)
    constructor
    · intro k q;exact this.1 q k
    · intro q;exact Classical.not_not.1 (fun k=>q (this.2 k))) (by have:=b.size;have:=HA.out.2.1;omega))
  have HR:=hD0 (aI0 (show ∀y,y∈W.map (Zd a)↔Y0 l a y from fun y=>(b.reach h1 y).trans (Zx fun _=>Zv)) ((HG.out.trans g2).trans g3))
  clear g2 hmb hm hsr h1 b g3 hal HSe HG
  go_wp2_with fail
  refine HK.out.mono ?_
  rintro e w3 ⟨rfl,rfl⟩
  go_wp2_with fail
  refine HSo.out.mono ?_
  rintro e w4 ⟨v4,c,rfl,hI,hp,hmem,g4⟩
  have HZ:=hD0 (aI0 hI (aI0 (show Z32 l a c from⟨hp,fun y=>(hmem y).trans (HR.out.1 y)⟩) (HR.out.2.trans g4)))
  clear hI hp hmem g4 HSo HK
  go_wp2
  go_ret
  exact⟨_,c,rfl,HZ.out.1,HZ.out.2.1,HZ.out.2.2⟩
end
end Go.Proofs.Ytobnolgphljoeaa
