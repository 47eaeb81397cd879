/- Texts merged: WcM, WbC, WdI, WdG, QuT, R1 -/
import Derived.Test.YtobnolgphljoeaaWaitsHeadsB2
set_option linter.unusedVariables false
set_option maxRecDepth 100000
set_option maxHeartbeats 16000000
namespace Go.Proofs.Ytobnolgphljoeaa
open Go.RowKit _root_.Go.Proofs.Try
section
open Go.RowKit Go.Sort Go.Shelf
theorem Z0k(x y:Int × Int)(w:World):Calls prog 40 #[.agg (Yn x).toArray,.agg (Yn y).toArray] w fun e w'=>e=.returned (.int .i64 (Z2u x y))∧GG w w':=by
 obtain⟨t,r⟩:=x
 obtain⟨t',r'⟩:=y
 simp only[Yn,Z2u]
 go_enter func40,ntmps40
 go_wp2
 go_region_held3 (fun w'=>Z6u w t r t' r' w') (first | assumption | exact Z39 w t r t' r' _ | exact Vy (by assumption) (by assumption) | exact Vy ((GG.refl _).alloc _) (by assumption) | exact Vy (GG.refl _).drew (by assumption))
  (first | (go_at_call 42;refine(Z1q _ _ _).mono ?_;rintro e w' ⟨rfl,rfl⟩) | (go_at_call 41;refine(Zaf _ (cP t t') (cP r r') _ (by simp[go_sem]) (by simp[go_sem])).mono ?_;rintro e w' ⟨rfl,rfl⟩))
 all_goals
  rename_i hS
  go_wp2
  go_ret
  exact⟨rfl,hS.2.2⟩
theorem Z5g:∀args w,(callFunc 40 args).run prog w=.ok (.enter 40 args) w:=enters_of func40 (by kernel_rfl) rfl
structure OnI(W0:World)(l:List (Int × Int))(v:Value)(k:Nat)(out:List (Int × Int))(w:World):Prop where
 own:Zo w W0.heap.size v out
 nw:Nw W0 w
 on:Yb l k out
theorem Z0z{W0:World}{v:Value}{l:List (Int × Int)}(h:V6 W0 v l)(hl:l.length≤5000)(hw:Z4z l) :
  Calls prog 43 #[v] W0 fun e w'=>∃v' out,e=.returned v'∧Zo w' W0.heap.size v' out∧Nw W0 w'∧Yb l l.length out:=by
 have HW:=hD0 hw
 obtain⟨ea,ec,rfl,hed⟩:=h
 have HD:=hD0 hed
 obtain⟨n,hn⟩:∃n,l.length=n:=⟨_,rfl⟩
 have HN:=hD0 hn
 rw[hn] at hl ⊢
 clear hw hed hn
 go_enter func43,ntmps43
 go_wp2_with fail
 go_loopw [3,8] (fun v3 v8 wr=>∃(k:Nat) (out:List (Int × Int)) (a:Option Addr) (b c:Nat),v3=.slice a b c∧v8=.int .i64 k∧k≤n∧Hid (OnI W0 l (.slice a b c) k out wr)) (fun _ v8 _=>n-(intOf v8).toNat)
 case atStart=>exact⟨0,[],none,0,0,rfl,rfl,Nat.zero_le _,World.ownsRow_nil _ _ _ _,Nw.refl _,Yb.start l⟩
 case round =>
  obtain⟨k,out,sa,sb,sc,rfl,rfl,hkn,HI⟩:=hrel
  by_cases hlt:k<n
  ·have hkl:k<l.length:=by rw[HN.out];exact hlt
   have Yc:=Zx hlt
   rcases HD.out with⟨q,_⟩ | ⟨eb,eo,rfl,hrc⟩
   ·rw[q] at hkl;simp at hkl
   ·have hrw:=hrc.nw HI.out.nw
    obtain⟨x0,x1⟩:=hrw.eg hkl
    have hebl:=hrw.lt
    obtain⟨e,he⟩:∃e,l[k]=e:=⟨_,rfl⟩
    rw[he] at x0 x1
    obtain⟨ex,ey⟩:=e
    simp only at x0 x1
    have hw:=Zw k (k+1) (Nat.le_trans (Nat.le_of_lt hlt) (Nat.le_trans hl (by decide))) rfl
    obtain⟨k1,hk1⟩:∃m,k+1=m:=⟨_,rfl⟩
    have HK1:=hD0 hk1
    rw[hk1] at hw
    have HE:=hD0 he
    clear hk1 he
    go_upto_region 5 with fail
    have hal:=Z5 wr (.cells #[.int .i64 ex,.int .i64 ey] 30)
    have g4:Nw wr (wr.alloc (.cells #[.int .i64 ex,.int .i64 ey] 30)):=(Nw.refl wr).alloc _
    obtain⟨w4,hw4⟩:∃x,wr.alloc (.cells #[.int .i64 ex,.int .i64 ey] 30)=x:=⟨_,rfl⟩
    obtain⟨B,hB⟩:∃B,wr.heap.size=B:=⟨_,rfl⟩
    rw[hB] at hal ⊢
    rw[hw4] at hal g4 ⊢
    have HI4:=hD0 (show OnI W0 l (.slice sa sb sc) k out w4 from⟨onw HI.out.own g4,HI.out.nw.trans g4,HI.out.on⟩)
    have HAL:=hD0 hal
    have tB0:∀x,Nw w4 x→x.cell? ⟨B,0,none⟩=some (.int .i64 ex):=fun x g=>g.kp (Z2 (j:=0) HAL.out)
    have tB1:∀x,Nw w4 x→x.cell? ⟨B,1,none⟩=some (.int .i64 ey):=fun x g=>g.kp (Z2 (j:=1) HAL.out)
    clear hal hw4 hB x0 x1 hebl hrw
    by_cases hz:k=0
    ·subst hz
     have HO:=hD0 (show Yb l (0+1) (out++[(ex,ey)]) from by
      have:=HI4.out.on.push HW.out hkl (.inl rfl)
      rwa [HE.out] at this)
     obtain rfl:k1=1:=HK1.out.symm
     clear g4
     refine Z6 [] (Nw w4) (by kernel_rfl) ?_
     change Z7 _ _ _ _ _ _ 11 #[false,false,false,false,false,false,false,false,false,false,false] _ w4.drew
     obtain⟨y4,hy4⟩:∃y,w4.drew=y:=⟨_,rfl⟩
     rw[hy4]
     have hS0:Nw w4 y4:=by rw[←hy4];exact(Nw.refl w4).dr
     clear hy4
     refine Z0 0 rfl (by kernel_rfl) (by kernel_rfl) (by kernel_rfl) (fun v c a w h=>h) ?_
     (first | (refine⟨undef,Or.inr ⟨by rfl,rfl⟩,?_⟩) | (apply Exists.intro;refine⟨Or.inl ⟨by rfl,?_⟩,?_⟩;(intro x hx';go_simp;first | done | with_reducible rfl)))
     (try simp only[Act.put,List.getElem_toArray,List.getElem_cons_zero,List.getElem_cons_succ,List.setIfInBounds_toArray,List.set_cons_zero,List.set_cons_succ])
     refine Z0 1 rfl (by kernel_rfl) (by kernel_rfl) (by kernel_rfl) (fun v c a w h=>h) ?_
     (first | (refine⟨undef,Or.inr ⟨by rfl,rfl⟩,?_⟩) | (apply Exists.intro;refine⟨Or.inl ⟨by rfl,?_⟩,?_⟩;(intro x hx';go_simp;first | done | with_reducible rfl)))
     (try simp only[Act.put,List.getElem_toArray,List.getElem_cons_zero,List.getElem_cons_succ,List.setIfInBounds_toArray,List.set_cons_zero,List.set_cons_succ])
     refine Z0 2 rfl (by kernel_rfl) (by kernel_rfl) (by kernel_rfl) (fun v c a w h=>h) ?_
     (first | (refine⟨undef,Or.inr ⟨by rfl,rfl⟩,?_⟩) | (apply Exists.intro;refine⟨Or.inl ⟨by rfl,?_⟩,?_⟩;(intro x hx';go_simp;first | done | with_reducible rfl)))
     (try simp only[Act.put,List.getElem_toArray,List.getElem_cons_zero,List.getElem_cons_succ,List.setIfInBounds_toArray,List.set_cons_zero,List.set_cons_succ])
     refine Z1 3 rfl (by kernel_rfl) (by kernel_rfl) (by kernel_rfl) (by kernel_rfl) (fun v c a w h=>h) hS0 ?_
     (first | (refine⟨undef,Or.inr ⟨by rfl,rfl⟩,?_⟩) | (apply Exists.intro;refine⟨Or.inl ⟨by rfl,?_⟩,?_⟩;(intro x hx';go_simp;first | done | with_reducible rfl)))
     (try simp only[Act.put,List.getElem_toArray,List.getElem_cons_zero,List.getElem_cons_succ,List.setIfInBounds_toArray,List.set_cons_zero,List.set_cons_succ])
     refine Z0 4 rfl (by kernel_rfl) (by kernel_rfl) (by kernel_rfl) (fun v c a w h=>h) ?_
     (first | (refine⟨undef,Or.inr ⟨by rfl,rfl⟩,?_⟩) | (apply Exists.intro;refine⟨Or.inl ⟨by rfl,?_⟩,?_⟩;(intro x hx';go_simp;first | done | with_reducible rfl)))
     (try simp only[Act.put,List.getElem_toArray,List.getElem_cons_zero,List.getElem_cons_succ,List.setIfInBounds_toArray,List.set_cons_zero,List.set_cons_succ])
     refine Z0 5 rfl (by kernel_rfl) (by kernel_rfl) (by kernel_rfl) (fun v c a w h=>h) ?_
     (first | (refine⟨undef,Or.inr ⟨by rfl,rfl⟩,?_⟩) | (apply Exists.intro;refine⟨Or.inl ⟨by rfl,?_⟩,?_⟩;(intro x hx';go_simp;first | done | with_reducible rfl)))
     (try simp only[Act.put,List.getElem_toArray,List.getElem_cons_zero,List.getElem_cons_succ,List.setIfInBounds_toArray,List.set_cons_zero,List.set_cons_succ])
     refine Z0 6 rfl (by kernel_rfl) (by kernel_rfl) (by kernel_rfl) (fun v c a w h=>h) ?_
     (first | (refine⟨undef,Or.inr ⟨by rfl,rfl⟩,?_⟩) | (apply Exists.intro;refine⟨Or.inl ⟨by rfl,?_⟩,?_⟩;(intro x hx';go_simp;first | done | with_reducible rfl)))
     (try simp only[Act.put,List.getElem_toArray,List.getElem_cons_zero,List.getElem_cons_succ,List.setIfInBounds_toArray,List.set_cons_zero,List.set_cons_succ])
     refine Z0 7 rfl (by kernel_rfl) (by kernel_rfl) (by kernel_rfl) (fun v c a w h=>h) ?_
     (first | (refine⟨undef,Or.inr ⟨by rfl,rfl⟩,?_⟩) | (apply Exists.intro;refine⟨Or.inl ⟨by rfl,?_⟩,?_⟩;(intro x hx';go_simp;first | done | with_reducible rfl)))
     (try simp only[Act.put,List.getElem_toArray,List.getElem_cons_zero,List.getElem_cons_succ,List.setIfInBounds_toArray,List.set_cons_zero,List.set_cons_succ])
     refine Z1 8 rfl (by kernel_rfl) (by kernel_rfl) (by kernel_rfl) (by kernel_rfl) (fun v c a w h=>h) hS0 ?_
     (first | (refine⟨undef,Or.inr ⟨by rfl,rfl⟩,?_⟩) | (apply Exists.intro;refine⟨Or.inl ⟨by rfl,?_⟩,?_⟩;(intro x hx';go_simp;first | done | with_reducible rfl)))
     (try simp only[Act.put,List.getElem_toArray,List.getElem_cons_zero,List.getElem_cons_succ,List.setIfInBounds_toArray,List.set_cons_zero,List.set_cons_succ])
     refine Z0 9 rfl (by kernel_rfl) (by kernel_rfl) (by kernel_rfl) (fun v c a w h=>h) ?_
     (first | (refine⟨undef,Or.inr ⟨by rfl,rfl⟩,?_⟩) | (apply Exists.intro;refine⟨Or.inl ⟨by rfl,?_⟩,?_⟩;(intro x hx';go_simp;first | done | with_reducible rfl)))
     (try simp only[Act.put,List.getElem_toArray,List.getElem_cons_zero,List.getElem_cons_succ,List.setIfInBounds_toArray,List.set_cons_zero,List.set_cons_succ])
     refine Z0 10 rfl (by kernel_rfl) (by kernel_rfl) (by kernel_rfl) (fun v c a w h=>h) ?_
     (first | (refine⟨undef,Or.inr ⟨by rfl,rfl⟩,?_⟩) | (apply Exists.intro;refine⟨Or.inl ⟨by rfl,?_⟩,?_⟩;(intro x hx';go_simp;first | done | with_reducible rfl)))
     (try simp only[Act.put,List.getElem_toArray,List.getElem_cons_zero,List.getElem_cons_succ,List.setIfInBounds_toArray,List.set_cons_zero,List.set_cons_succ])
     refine Z3 (by kernel_rfl) ?_ _
     refine NoPanic.normal ?_
     (try simp only[Act.put,List.getElem_toArray,List.getElem_cons_zero,List.getElem_cons_succ,List.setIfInBounds_toArray,List.set_cons_zero,List.set_cons_succ])
     have hal6:=Z5 y4 (.cells #[.int .i64 ex,.int .i64 ey] 30)
     have g6:Nw y4 (y4.alloc (.cells #[.int .i64 ex,.int .i64 ey] 30)):=(Nw.refl y4).alloc _
     obtain⟨v',w6,hr6,hO6,hg6,_,ga6,cc6,rfl⟩:=Yy.push Va (onw (onw HI4.out.own hS0) g6) (ex,ey) y4.heap.size 1 (fun j u hu=>by
      rw[Z2 hal6]
      simpa [Yn] using hu) (by have:=HI4.out.on.len;omega) ((HI4.out.nw.trans hS0).trans g6).sz
     have HI6:=hD0 (show OnI W0 l (.slice (some ⟨ga6,0,none⟩) (out.length+1) cc6) 1 (out++[(ex,ey)]) w6 from⟨hO6,((HI4.out.nw.trans hS0).trans g6).gro hg6 (fun b e=>oge HI4.out.own e),HO.out⟩)
     have HR6:=hD0 hr6
     have hb0:=tB0 y4 hS0
     have hb1:=tB1 y4 hS0
     have hBl:=lL0 (Go.Proofs.Ytobnolgphljoeaa.hlt HAL.out) hS0.sz
     clear hal6 g6 hr6 hO6 hg6 hS0 tB0 tB1 HI4
     go_wp2_with (at_builtin;refine Zn (by rfl) (.tmp 24) (.tmp 26) 22 rfl _ _ _ _ rfl rfl HR6.out ?_)
     go_roundw
     case rel=>exact⟨1,out++[(ex,ey)],some ⟨ga6,0,none⟩,out.length+1,cc6,rfl,rfl,hlt,HI6⟩
     case measure=>(show n-(1:Int).toNat<n-((0:Nat):Int).toNat;omega)
    ·obtain⟨j,hj⟩:∃j,k=j+1:=⟨k-1,by omega⟩
     have hjl:j<l.length:=by omega
     have hrw4:=hrc.nw (HI.out.nw.trans g4)
     obtain⟨y0,y1⟩:=hrw4.eg hjl
     have hdj:=V7 k j (Nat.le_trans (Nat.le_of_lt hlt) (Nat.le_trans hl (by decide))) hj
     have hjn':(j:Int)<(n:Int):=by omega
     have hjn:j<n:=by omega
     have hz1:((k:Int)==0)=false:=by simp;omega
     have hz2:(k==0)=false:=by simp;omega
     obtain⟨f,hf⟩:∃f,l[j]=f:=⟨_,rfl⟩
     rw[hf] at y0 y1
     obtain⟨fx,fy⟩:=f
     simp only at y0 y1
     have ty0:∀x,Nw w4 x→x.cell? ⟨eb,eo+j*2,none⟩=some (.int .i64 fx):=fun x g=>g.kp y0
     have ty1:∀x,Nw w4 x→x.cell? ⟨eb,eo+j*2+1,none⟩=some (.int .i64 fy):=fun x g=>g.kp y1
     have HF:=hD0 (show ∃hj:j<l.length,k=j+1∧l[j]=(fx,fy) from⟨hjl,hj,hf⟩)
     clear g4 hrw4 y0 y1 hj hjl hf hz
     by_cases hxy:ex=fx∧ey=fy
     ·obtain⟨hx1,hy1⟩:=hxy
      subst hx1
      subst hy1
      refine Z6 [] (Nw w4) (by kernel_rfl) ?_
      change Z7 _ _ _ _ _ _ 11 #[false,false,false,false,false,false,false,false,false,false,false] _ w4.drew
      obtain⟨y4,hy4⟩:∃y,w4.drew=y:=⟨_,rfl⟩
      rw[hy4]
      have hS0:Nw w4 y4:=by rw[←hy4];exact(Nw.refl w4).dr
      clear hy4
      refine Z0 0 rfl (by kernel_rfl) (by kernel_rfl) (by kernel_rfl) (fun v c a w h=>h) ?_
      (first | (refine⟨undef,Or.inr ⟨by rfl,rfl⟩,?_⟩) | (apply Exists.intro;refine⟨Or.inl ⟨by rfl,?_⟩,?_⟩;(intro x hx';go_simp;first | done | with_reducible rfl)))
      (try simp only[Act.put,List.getElem_toArray,List.getElem_cons_zero,List.getElem_cons_succ,List.setIfInBounds_toArray,List.set_cons_zero,List.set_cons_succ])
      refine Z0 1 rfl (by kernel_rfl) (by kernel_rfl) (by kernel_rfl) (fun v c a w h=>h) ?_
      (first | (refine⟨undef,Or.inr ⟨by rfl,rfl⟩,?_⟩) | (apply Exists.intro;refine⟨Or.inl ⟨by rfl,?_⟩,?_⟩;(intro x hx';go_simp;first | done | with_reducible rfl)))
      (try simp only[Act.put,List.getElem_toArray,List.getElem_cons_zero,List.getElem_cons_succ,List.setIfInBounds_toArray,List.set_cons_zero,List.set_cons_succ])
      refine Z0 2 rfl (by kernel_rfl) (by kernel_rfl) (by kernel_rfl) (fun v c a w h=>h) ?_
      (first | (refine⟨undef,Or.inr ⟨by rfl,rfl⟩,?_⟩) | (apply Exists.intro;refine⟨Or.inl ⟨by rfl,?_⟩,?_⟩;(intro x hx';go_simp;first | done | with_reducible rfl)))
      (try simp only[Act.put,List.getElem_toArray,List.getElem_cons_zero,List.getElem_cons_succ,List.setIfInBounds_toArray,List.set_cons_zero,List.set_cons_succ])
      refine Z1 3 rfl (by kernel_rfl) (by kernel_rfl) (by kernel_rfl) (by kernel_rfl) (fun v c a w h=>h) hS0 ?_
      (first | (refine⟨undef,Or.inr ⟨by rfl,rfl⟩,?_⟩) | (apply Exists.intro;refine⟨Or.inl ⟨by rfl,?_⟩,?_⟩;(intro x hx';go_simp;first | done | with_reducible rfl)))
      (try simp only[Act.put,List.getElem_toArray,List.getElem_cons_zero,List.getElem_cons_succ,List.setIfInBounds_toArray,List.set_cons_zero,List.set_cons_succ])
      refine Z0 4 rfl (by kernel_rfl) (by kernel_rfl) (by kernel_rfl) (fun v c a w h=>h) ?_
      (first | (refine⟨undef,Or.inr ⟨by rfl,rfl⟩,?_⟩) | (apply Exists.intro;refine⟨Or.inl ⟨by rfl,?_⟩,?_⟩;(intro x hx';go_simp;first | done | with_reducible rfl)))
      (try simp only[Act.put,List.getElem_toArray,List.getElem_cons_zero,List.getElem_cons_succ,List.setIfInBounds_toArray,List.set_cons_zero,List.set_cons_succ])
      refine Z0 5 rfl (by kernel_rfl) (by kernel_rfl) (by kernel_rfl) (fun v c a w h=>h) ?_
      (first | (refine⟨undef,Or.inr ⟨by rfl,rfl⟩,?_⟩) | (apply Exists.intro;refine⟨Or.inl ⟨by rfl,?_⟩,?_⟩;(intro x hx';go_simp;first | done | with_reducible rfl)))
      (try simp only[Act.put,List.getElem_toArray,List.getElem_cons_zero,List.getElem_cons_succ,List.setIfInBounds_toArray,List.set_cons_zero,List.set_cons_succ])
      refine Z0 6 rfl (by kernel_rfl) (by kernel_rfl) (by kernel_rfl) (fun v c a w h=>h) ?_
      (first | (refine⟨undef,Or.inr ⟨by rfl,rfl⟩,?_⟩) | (apply Exists.intro;refine⟨Or.inl ⟨by rfl,?_⟩,?_⟩;(intro x hx';go_simp;first | done | with_reducible rfl)))
      (try simp only[Act.put,List.getElem_toArray,List.getElem_cons_zero,List.getElem_cons_succ,List.setIfInBounds_toArray,List.set_cons_zero,List.set_cons_succ])
      refine Z0 7 rfl (by kernel_rfl) (by kernel_rfl) (by kernel_rfl) (fun v c a w h=>h) ?_
      (first | (refine⟨undef,Or.inr ⟨by rfl,rfl⟩,?_⟩) | (apply Exists.intro;refine⟨Or.inl ⟨by rfl,?_⟩,?_⟩;(intro x hx';go_simp;first | done | with_reducible rfl)))
      (try simp only[Act.put,List.getElem_toArray,List.getElem_cons_zero,List.getElem_cons_succ,List.setIfInBounds_toArray,List.set_cons_zero,List.set_cons_succ])
      refine Z1 8 rfl (by kernel_rfl) (by kernel_rfl) (by kernel_rfl) (by kernel_rfl) (fun v c a w h=>h) hS0 ?_
      (first | (refine⟨undef,Or.inr ⟨by rfl,rfl⟩,?_⟩) | (apply Exists.intro;refine⟨Or.inl ⟨by rfl,?_⟩,?_⟩;(intro x hx';go_simp;first | done | with_reducible rfl)))
      (try simp only[Act.put,List.getElem_toArray,List.getElem_cons_zero,List.getElem_cons_succ,List.setIfInBounds_toArray,List.set_cons_zero,List.set_cons_succ])
      refine Z0 9 rfl (by kernel_rfl) (by kernel_rfl) (by kernel_rfl) (fun v c a w h=>h) ?_
      (first | (refine⟨undef,Or.inr ⟨by rfl,rfl⟩,?_⟩) | (apply Exists.intro;refine⟨Or.inl ⟨by rfl,?_⟩,?_⟩;(intro x hx';go_simp;first | done | with_reducible rfl)))
      (try simp only[Act.put,List.getElem_toArray,List.getElem_cons_zero,List.getElem_cons_succ,List.setIfInBounds_toArray,List.set_cons_zero,List.set_cons_succ])
      refine Z0 10 rfl (by kernel_rfl) (by kernel_rfl) (by kernel_rfl) (fun v c a w h=>h) ?_
      (first | (refine⟨undef,Or.inr ⟨by rfl,rfl⟩,?_⟩) | (apply Exists.intro;refine⟨Or.inl ⟨by rfl,?_⟩,?_⟩;(intro x hx';go_simp;first | done | with_reducible rfl)))
      (try simp only[Act.put,List.getElem_toArray,List.getElem_cons_zero,List.getElem_cons_succ,List.setIfInBounds_toArray,List.set_cons_zero,List.set_cons_succ])
      refine Z3 (by kernel_rfl) ?_ _
      refine NoPanic.normal ?_
      (try simp only[Act.put,List.getElem_toArray,List.getElem_cons_zero,List.getElem_cons_succ,List.setIfInBounds_toArray,List.set_cons_zero,List.set_cons_succ])
      have HS:=hD0 (show OnI W0 l (.slice sa sb sc) k1 out y4 from⟨onw HI4.out.own hS0,HI4.out.nw.trans hS0,by
       obtain⟨hjl,hj,hf⟩:=HF.out
       rw[←HK1.out]
       exact HI4.out.on.skip hkl hjl hj (by rw[HE.out,hf])⟩)
      clear hS0 tB0 tB1 ty0 ty1 HI4
      go_wp2_with fail
      go_roundw
      case rel=>exact⟨k1,out,sa,sb,sc,rfl,rfl,by rw[←HK1.out];exact hlt,HS⟩
      case measure=>rw[←HK1.out];exact Y1 hlt
     ·have HO:=hD0 (show Yb l (k+1) (out++[(ex,ey)]) from by
       obtain⟨hjl,hj,hf⟩:=HF.out
       have:=HI4.out.on.push HW.out hkl (.inr ⟨_,hjl,hj,by
        rw[HE.out,hf]
        exact fun q=>hxy ⟨congrArg Prod.fst q,congrArg Prod.snd q⟩⟩)
       rwa [HE.out] at this)
      by_cases hx:ex=fx
      ·subst hx
       have hy1:(ey==fy)=false:=by simpa using fun q=>hxy ⟨rfl,q⟩
       have hy3:¬ey=fy:=fun q=>hxy ⟨rfl,q⟩
       clear hxy
       refine Z6 [] (Nw w4) (by kernel_rfl) ?_
       change Z7 _ _ _ _ _ _ 11 #[false,false,false,false,false,false,false,false,false,false,false] _ w4.drew
       obtain⟨y4,hy4⟩:∃y,w4.drew=y:=⟨_,rfl⟩
       rw[hy4]
       have hS0:Nw w4 y4:=by rw[←hy4];exact(Nw.refl w4).dr
       clear hy4
       refine Z0 0 rfl (by kernel_rfl) (by kernel_rfl) (by kernel_rfl) (fun v c a w h=>h) ?_
       (first | (refine⟨undef,Or.inr ⟨by rfl,rfl⟩,?_⟩) | (apply Exists.intro;refine⟨Or.inl ⟨by rfl,?_⟩,?_⟩;(intro x hx';go_simp;first | done | with_reducible rfl)))
       (try simp only[Act.put,List.getElem_toArray,List.getElem_cons_zero,List.getElem_cons_succ,List.setIfInBounds_toArray,List.set_cons_zero,List.set_cons_succ])
       refine Z0 1 rfl (by kernel_rfl) (by kernel_rfl) (by kernel_rfl) (fun v c a w h=>h) ?_
       (first | (refine⟨undef,Or.inr ⟨by rfl,rfl⟩,?_⟩) | (apply Exists.intro;refine⟨Or.inl ⟨by rfl,?_⟩,?_⟩;(intro x hx';go_simp;first | done | with_reducible rfl)))
       (try simp only[Act.put,List.getElem_toArray,List.getElem_cons_zero,List.getElem_cons_succ,List.setIfInBounds_toArray,List.set_cons_zero,List.set_cons_succ])
       refine Z0 2 rfl (by kernel_rfl) (by kernel_rfl) (by kernel_rfl) (fun v c a w h=>h) ?_
       (first | (refine⟨undef,Or.inr ⟨by rfl,rfl⟩,?_⟩) | (apply Exists.intro;refine⟨Or.inl ⟨by rfl,?_⟩,?_⟩;(intro x hx';go_simp;first | done | with_reducible rfl)))
       (try simp only[Act.put,List.getElem_toArray,List.getElem_cons_zero,List.getElem_cons_succ,List.setIfInBounds_toArray,List.set_cons_zero,List.set_cons_succ])
       refine Z1 3 rfl (by kernel_rfl) (by kernel_rfl) (by kernel_rfl) (by kernel_rfl) (fun v c a w h=>h) hS0 ?_
       (first | (refine⟨undef,Or.inr ⟨by rfl,rfl⟩,?_⟩) | (apply Exists.intro;refine⟨Or.inl ⟨by rfl,?_⟩,?_⟩;(intro x hx';go_simp;first | done | with_reducible rfl)))
       (try simp only[Act.put,List.getElem_toArray,List.getElem_cons_zero,List.getElem_cons_succ,List.setIfInBounds_toArray,List.set_cons_zero,List.set_cons_succ])
       refine Z0 4 rfl (by kernel_rfl) (by kernel_rfl) (by kernel_rfl) (fun v c a w h=>h) ?_
       (first | (refine⟨undef,Or.inr ⟨by rfl,rfl⟩,?_⟩) | (apply Exists.intro;refine⟨Or.inl ⟨by rfl,?_⟩,?_⟩;(intro x hx';go_simp;first | done | with_reducible rfl)))
       (try simp only[Act.put,List.getElem_toArray,List.getElem_cons_zero,List.getElem_cons_succ,List.setIfInBounds_toArray,List.set_cons_zero,List.set_cons_succ])
       refine Z0 5 rfl (by kernel_rfl) (by kernel_rfl) (by kernel_rfl) (fun v c a w h=>h) ?_
       (first | (refine⟨undef,Or.inr ⟨by rfl,rfl⟩,?_⟩) | (apply Exists.intro;refine⟨Or.inl ⟨by rfl,?_⟩,?_⟩;(intro x hx';go_simp;first | done | with_reducible rfl)))
       (try simp only[Act.put,List.getElem_toArray,List.getElem_cons_zero,List.getElem_cons_succ,List.setIfInBounds_toArray,List.set_cons_zero,List.set_cons_succ])
       refine Z0 6 rfl (by kernel_rfl) (by kernel_rfl) (by kernel_rfl) (fun v c a w h=>h) ?_
       (first | (refine⟨undef,Or.inr ⟨by rfl,rfl⟩,?_⟩) | (apply Exists.intro;refine⟨Or.inl ⟨by rfl,?_⟩,?_⟩;(intro x hx';go_simp;first | done | with_reducible rfl)))
       (try simp only[Act.put,List.getElem_toArray,List.getElem_cons_zero,List.getElem_cons_succ,List.setIfInBounds_toArray,List.set_cons_zero,List.set_cons_succ])
       refine Z0 7 rfl (by kernel_rfl) (by kernel_rfl) (by kernel_rfl) (fun v c a w h=>h) ?_
       (first | (refine⟨undef,Or.inr ⟨by rfl,rfl⟩,?_⟩) | (apply Exists.intro;refine⟨Or.inl ⟨by rfl,?_⟩,?_⟩;(intro x hx';go_simp;first | done | with_reducible rfl)))
       (try simp only[Act.put,List.getElem_toArray,List.getElem_cons_zero,List.getElem_cons_succ,List.setIfInBounds_toArray,List.set_cons_zero,List.set_cons_succ])
       refine Z1 8 rfl (by kernel_rfl) (by kernel_rfl) (by kernel_rfl) (by kernel_rfl) (fun v c a w h=>h) hS0 ?_
       (first | (refine⟨undef,Or.inr ⟨by rfl,rfl⟩,?_⟩) | (apply Exists.intro;refine⟨Or.inl ⟨by rfl,?_⟩,?_⟩;(intro x hx';go_simp;first | done | with_reducible rfl)))
       (try simp only[Act.put,List.getElem_toArray,List.getElem_cons_zero,List.getElem_cons_succ,List.setIfInBounds_toArray,List.set_cons_zero,List.set_cons_succ])
       refine Z0 9 rfl (by kernel_rfl) (by kernel_rfl) (by kernel_rfl) (fun v c a w h=>h) ?_
       (first | (refine⟨undef,Or.inr ⟨by rfl,rfl⟩,?_⟩) | (apply Exists.intro;refine⟨Or.inl ⟨by rfl,?_⟩,?_⟩;(intro x hx';go_simp;first | done | with_reducible rfl)))
       (try simp only[Act.put,List.getElem_toArray,List.getElem_cons_zero,List.getElem_cons_succ,List.setIfInBounds_toArray,List.set_cons_zero,List.set_cons_succ])
       refine Z0 10 rfl (by kernel_rfl) (by kernel_rfl) (by kernel_rfl) (fun v c a w h=>h) ?_
       (first | (refine⟨undef,Or.inr ⟨by rfl,rfl⟩,?_⟩) | (apply Exists.intro;refine⟨Or.inl ⟨by rfl,?_⟩,?_⟩;(intro x hx';go_simp;first | done | with_reducible rfl)))
       (try simp only[Act.put,List.getElem_toArray,List.getElem_cons_zero,List.getElem_cons_succ,List.setIfInBounds_toArray,List.set_cons_zero,List.set_cons_succ])
       refine Z3 (by kernel_rfl) ?_ _
       refine NoPanic.normal ?_
       (try simp only[Act.put,List.getElem_toArray,List.getElem_cons_zero,List.getElem_cons_succ,List.setIfInBounds_toArray,List.set_cons_zero,List.set_cons_succ])
       have hal6:=Z5 y4 (.cells #[.int .i64 ex,.int .i64 ey] 30)
       have g6:Nw y4 (y4.alloc (.cells #[.int .i64 ex,.int .i64 ey] 30)):=(Nw.refl y4).alloc _
       obtain⟨v',w6,hr6,hO6,hg6,_,ga6,cc6,rfl⟩:=Yy.push Va (onw (onw HI4.out.own hS0) g6) (ex,ey) y4.heap.size 1 (fun j u hu=>by
        rw[Z2 hal6]
        simpa [Yn] using hu) (by have:=HI4.out.on.len;omega) ((HI4.out.nw.trans hS0).trans g6).sz
       have HI6:=hD0 (show OnI W0 l (.slice (some ⟨ga6,0,none⟩) (out.length+1) cc6) k1 (out++[(ex,ey)]) w6 from⟨hO6,((HI4.out.nw.trans hS0).trans g6).gro hg6 (fun b e=>oge HI4.out.own e),by rw[←HK1.out];exact HO.out⟩)
       have HR6:=hD0 hr6
       have hb0:=tB0 y4 hS0
       have hb1:=tB1 y4 hS0
       have hBl:=lL0 (Go.Proofs.Ytobnolgphljoeaa.hlt HAL.out) hS0.sz
       clear hal6 g6 hr6 hO6 hg6 hS0 tB0 tB1 HI4 ty0 ty1
       go_wp2_with (at_builtin;refine Zn (by rfl) (.tmp 24) (.tmp 26) 22 rfl _ _ _ _ rfl rfl HR6.out ?_)
       go_roundw
       case rel=>exact⟨k1,out++[(ex,ey)],some ⟨ga6,0,none⟩,out.length+1,cc6,rfl,rfl,by rw[←HK1.out];exact hlt,HI6⟩
       case measure=>rw[←HK1.out];exact Y1 hlt
      ·have hx1:(ex==fx)=false:=by simpa using hx
       clear hxy
       refine Z6 [] (Nw w4) (by kernel_rfl) ?_
       change Z7 _ _ _ _ _ _ 11 #[false,false,false,false,false,false,false,false,false,false,false] _ w4.drew
       obtain⟨y4,hy4⟩:∃y,w4.drew=y:=⟨_,rfl⟩
       rw[hy4]
       have hS0:Nw w4 y4:=by rw[←hy4];exact(Nw.refl w4).dr
       clear hy4
       refine Z0 0 rfl (by kernel_rfl) (by kernel_rfl) (by kernel_rfl) (fun v c a w h=>h) ?_
       (first | (refine⟨undef,Or.inr ⟨by rfl,rfl⟩,?_⟩) | (apply Exists.intro;refine⟨Or.inl ⟨by rfl,?_⟩,?_⟩;(intro x hx';go_simp;first | done | with_reducible rfl)))
       (try simp only[Act.put,List.getElem_toArray,List.getElem_cons_zero,List.getElem_cons_succ,List.setIfInBounds_toArray,List.set_cons_zero,List.set_cons_succ])
       refine Z0 1 rfl (by kernel_rfl) (by kernel_rfl) (by kernel_rfl) (fun v c a w h=>h) ?_
       (first | (refine⟨undef,Or.inr ⟨by rfl,rfl⟩,?_⟩) | (apply Exists.intro;refine⟨Or.inl ⟨by rfl,?_⟩,?_⟩;(intro x hx';go_simp;first | done | with_reducible rfl)))
       (try simp only[Act.put,List.getElem_toArray,List.getElem_cons_zero,List.getElem_cons_succ,List.setIfInBounds_toArray,List.set_cons_zero,List.set_cons_succ])
       refine Z0 2 rfl (by kernel_rfl) (by kernel_rfl) (by kernel_rfl) (fun v c a w h=>h) ?_
       (first | (refine⟨undef,Or.inr ⟨by rfl,rfl⟩,?_⟩) | (apply Exists.intro;refine⟨Or.inl ⟨by rfl,?_⟩,?_⟩;(intro x hx';go_simp;first | done | with_reducible rfl)))
       (try simp only[Act.put,List.getElem_toArray,List.getElem_cons_zero,List.getElem_cons_succ,List.setIfInBounds_toArray,List.set_cons_zero,List.set_cons_succ])
       refine Z1 3 rfl (by kernel_rfl) (by kernel_rfl) (by kernel_rfl) (by kernel_rfl) (fun v c a w h=>h) hS0 ?_
       (first | (refine⟨undef,Or.inr ⟨by rfl,rfl⟩,?_⟩) | (apply Exists.intro;refine⟨Or.inl ⟨by rfl,?_⟩,?_⟩;(intro x hx';go_simp;first | done | with_reducible rfl)))
       (try simp only[Act.put,List.getElem_toArray,List.getElem_cons_zero,List.getElem_cons_succ,List.setIfInBounds_toArray,List.set_cons_zero,List.set_cons_succ])
       refine Z0 4 rfl (by kernel_rfl) (by kernel_rfl) (by kernel_rfl) (fun v c a w h=>h) ?_
       (first | (refine⟨undef,Or.inr ⟨by rfl,rfl⟩,?_⟩) | (apply Exists.intro;refine⟨Or.inl ⟨by rfl,?_⟩,?_⟩;(intro x hx';go_simp;first | done | with_reducible rfl)))
       (try simp only[Act.put,List.getElem_toArray,List.getElem_cons_zero,List.getElem_cons_succ,List.setIfInBounds_toArray,List.set_cons_zero,List.set_cons_succ])
       refine Z0 5 rfl (by kernel_rfl) (by kernel_rfl) (by kernel_rfl) (fun v c a w h=>h) ?_
       (first | (refine⟨undef,Or.inr ⟨by rfl,rfl⟩,?_⟩) | (apply Exists.intro;refine⟨Or.inl ⟨by rfl,?_⟩,?_⟩;(intro x hx';go_simp;first | done | with_reducible rfl)))
       (try simp only[Act.put,List.getElem_toArray,List.getElem_cons_zero,List.getElem_cons_succ,List.setIfInBounds_toArray,List.set_cons_zero,List.set_cons_succ])
       refine Z0 6 rfl (by kernel_rfl) (by kernel_rfl) (by kernel_rfl) (fun v c a w h=>h) ?_
       (first | (refine⟨undef,Or.inr ⟨by rfl,rfl⟩,?_⟩) | (apply Exists.intro;refine⟨Or.inl ⟨by rfl,?_⟩,?_⟩;(intro x hx';go_simp;first | done | with_reducible rfl)))
       (try simp only[Act.put,List.getElem_toArray,List.getElem_cons_zero,List.getElem_cons_succ,List.setIfInBounds_toArray,List.set_cons_zero,List.set_cons_succ])
       refine Z0 7 rfl (by kernel_rfl) (by kernel_rfl) (by kernel_rfl) (fun v c a w h=>h) ?_
       (first | (refine⟨undef,Or.inr ⟨by rfl,rfl⟩,?_⟩) | (apply Exists.intro;refine⟨Or.inl ⟨by rfl,?_⟩,?_⟩;(intro x hx';go_simp;first | done | with_reducible rfl)))
       (try simp only[Act.put,List.getElem_toArray,List.getElem_cons_zero,List.getElem_cons_succ,List.setIfInBounds_toArray,List.set_cons_zero,List.set_cons_succ])
       refine Z1 8 rfl (by kernel_rfl) (by kernel_rfl) (by kernel_rfl) (by kernel_rfl) (fun v c a w h=>h) hS0 ?_
       (first | (refine⟨undef,Or.inr ⟨by rfl,rfl⟩,?_⟩) | (apply Exists.intro;refine⟨Or.inl ⟨by rfl,?_⟩,?_⟩;(intro x hx';go_simp;first | done | with_reducible rfl)))
       (try simp only[Act.put,List.getElem_toArray,List.getElem_cons_zero,List.getElem_cons_succ,List.setIfInBounds_toArray,List.set_cons_zero,List.set_cons_succ])
       refine Z0 9 rfl (by kernel_rfl) (by kernel_rfl) (by kernel_rfl) (fun v c a w h=>h) ?_
       (first | (refine⟨undef,Or.inr ⟨by rfl,rfl⟩,?_⟩) | (apply Exists.intro;refine⟨Or.inl ⟨by rfl,?_⟩,?_⟩;(intro x hx';go_simp;first | done | with_reducible rfl)))
       (try simp only[Act.put,List.getElem_toArray,List.getElem_cons_zero,List.getElem_cons_succ,List.setIfInBounds_toArray,List.set_cons_zero,List.set_cons_succ])
       refine Z0 10 rfl (by kernel_rfl) (by kernel_rfl) (by kernel_rfl) (fun v c a w h=>h) ?_
       (first | (refine⟨undef,Or.inr ⟨by rfl,rfl⟩,?_⟩) | (apply Exists.intro;refine⟨Or.inl ⟨by rfl,?_⟩,?_⟩;(intro x hx';go_simp;first | done | with_reducible rfl)))
       (try simp only[Act.put,List.getElem_toArray,List.getElem_cons_zero,List.getElem_cons_succ,List.setIfInBounds_toArray,List.set_cons_zero,List.set_cons_succ])
       refine Z3 (by kernel_rfl) ?_ _
       refine NoPanic.normal ?_
       (try simp only[Act.put,List.getElem_toArray,List.getElem_cons_zero,List.getElem_cons_succ,List.setIfInBounds_toArray,List.set_cons_zero,List.set_cons_succ])
       have hal6:=Z5 y4 (.cells #[.int .i64 ex,.int .i64 ey] 30)
       have g6:Nw y4 (y4.alloc (.cells #[.int .i64 ex,.int .i64 ey] 30)):=(Nw.refl y4).alloc _
       obtain⟨v',w6,hr6,hO6,hg6,_,ga6,cc6,rfl⟩:=Yy.push Va (onw (onw HI4.out.own hS0) g6) (ex,ey) y4.heap.size 1 (fun j u hu=>by
        rw[Z2 hal6]
        simpa [Yn] using hu) (by have:=HI4.out.on.len;omega) ((HI4.out.nw.trans hS0).trans g6).sz
       have HI6:=hD0 (show OnI W0 l (.slice (some ⟨ga6,0,none⟩) (out.length+1) cc6) k1 (out++[(ex,ey)]) w6 from⟨hO6,((HI4.out.nw.trans hS0).trans g6).gro hg6 (fun b e=>oge HI4.out.own e),by rw[←HK1.out];exact HO.out⟩)
       have HR6:=hD0 hr6
       have hb0:=tB0 y4 hS0
       have hb1:=tB1 y4 hS0
       have hBl:=lL0 (Go.Proofs.Ytobnolgphljoeaa.hlt HAL.out) hS0.sz
       clear hal6 g6 hr6 hO6 hg6 hS0 tB0 tB1 HI4 ty0 ty1
       go_wp2_with (at_builtin;refine Zn (by rfl) (.tmp 24) (.tmp 26) 22 rfl _ _ _ _ rfl rfl HR6.out ?_)
       go_roundw
       case rel=>exact⟨k1,out++[(ex,ey)],some ⟨ga6,0,none⟩,out.length+1,cc6,rfl,rfl,by rw[←HK1.out];exact hlt,HI6⟩
       case measure=>rw[←HK1.out];exact Y1 hlt
  ·obtain rfl:k=n:=Nat.le_antisymm hkn (Nat.le_of_not_lt hlt)
   have Yc:¬k<k:=Nat.lt_irrefl k
   clear hlt
   go_wp2
   go_ret
   exact⟨_,out,rfl,HI.out.own,HI.out.nw,HI.out.on⟩
theorem Weak.of{l:List (Int × Int)}(h:l.Pairwise fun a b=>ltOf Z2u b a=false):Z4z l:=h.imp (fun {a b} q=>by
 rw[Ub] at q
 exact of_decide_eq_false q)
theorem Z0a{w:World}{v:Value}{l:List (Int × Int)}(h:V6 w v l)(hl:l.length≤5000) :
  Calls prog 20 #[v] w fun e w'=>∃v',e=.returned v'∧Zo w' w.heap.size v' (sortE l)∧Nw w w':=by
 have HC:=hD0 (Z8r v l w (Nat.le_trans hl (by decide)) h)
 obtain⟨a,c,rfl⟩:=h.form
 have HL:=hD0 hl
 clear h hl
 go_enter func20,ntmps20
 go_wp2_with fail
 refine HC.out.mono ?_
 rintro e w1 ⟨v1,rfl,g1,hO1⟩
 rcases Yx hO1 with⟨rfl,hz⟩ | ⟨g,cap,rfl⟩
 ·have hl0:l=[]:=List.length_eq_zero_iff.1 hz
  have HS:=hD0 (AnyF.slices_SortFunc_none (P:=prog) { Try.sortE with } none 0 (.func (.func 40) #[] #[]) w1)
  have HOn:=hD0 (Z0z (W0:=w1) (v:=.slice none 0 0) (l:=[]) (Rd.nil w1) (by simp) List.Pairwise.nil)
  have HG:=hD0 (aI0 g1 hl0)
  clear g1 hl0 hO1 hz HC
  go_wp2_with fail
  refine Calls.mono HS.out ?_
  rintro e w2 ⟨rfl,rfl⟩
  go_wp2_with fail
  refine HOn.out.mono ?_
  rintro e w3 ⟨v3,out,rfl,hO,hN,hP⟩
  have HE:=hD0 (show Zo w3 w.heap.size v3 (sortE l)∧Nw w w3 from by
   have e:out=[]:=by
    have:=hP.len
    exact List.length_eq_zero_iff.1 (Nat.le_zero.1 this)
   rw[HG.out.2]
   subst e
   exact⟨Z95 hO (fun b q=>by have:=oge hO q;have:=HG.out.1.sz;omega),HG.out.1.trans hN⟩)
  clear hO hN hP
  go_wp2
  go_ret
  exact⟨_,rfl,HE.out.1,HE.out.2⟩
 ·have HS:=hD0 (Z4t Va (ρ:=_) { Try.sortE with } (by intro w;kernel_rfl) (by intro w;kernel_rfl) Z2u Z57 40 Z5g Z0k _ g cap l w1 hO1 (Nat.le_trans HL.out (by decide)))
  have HG:=hD0 (aI0 g1 (oge hO1 (g:=g) rfl))
  clear g1 hO1 HC
  go_wp2_with fail
  refine Calls.mono HS.out ?_
  rintro e w2 ⟨rfl,l2,hp,hs,hO2,ht⟩
  have hl2:l2.length=l.length:=hp.length_eq
  have hO2':=hO2
  rw[hl2] at hO2'
  have g2:Nw w w2:=Zg HG.out.1 ht (fun i e=>by subst e;exact HG.out.2)
  have HOn:=hD0 (Z0z (W0:=w2) (v:=.slice (some ⟨g,0,none⟩) l2.length cap) (l:=l2) (Zo.at_ hO2) (by rw[hl2];exact HL.out) (Weak.of hs))
  rw[hl2] at HOn
  have HG2:=hD0 (aI0 g2 (aI0 hp hl2))
  clear g2 hp hs hO2 hO2' ht hl2 HS HG
  go_wp2_with fail
  refine HOn.out.mono ?_
  rintro e w3 ⟨v3,out,rfl,hO,hN,hP⟩
  have HE:=hD0 (show Zo w3 w.heap.size v3 (sortE l)∧Nw w w3 from by
   have e:=hP.done (Nat.le_of_eq HG2.out.2.2) HG2.out.2.1
   subst e
   exact⟨Z95 hO (fun b q=>by have:=oge hO q;have:=HG2.out.1.sz;omega),HG2.out.1.trans hN⟩)
  clear hO hN hP
  go_wp2
  go_ret
  exact⟨_,rfl,HE.out.1,HE.out.2⟩
theorem Z09{w:World}{v:Value}{l:List (Int × Int)}(h:V6 w v l)(hl:l.length≤1000) :
  Calls prog 20 #[v] w fun e w'=>∃v',e=.returned v'∧Zo w' w.heap.size v' (sortE l)∧Nw w w':=Z0a h (Nat.le_trans hl (by decide))
end
section
variable {E:List (Int × Int)} {a:Int} {W:List (List Int)} {h i:Nat}
theorem BI.suf(b:BI E a W h i):∀(n:Nat) (r:List Int),r.length=n→r∈([]::W)→∀j,j<r.length→r.drop j∈W
 | 0,r,hn,_,j,hj=>by omega
 | n+1,r,hn,hr,j,hj=>by
  have hrW:r∈W:=by
   rcases List.mem_cons.1 hr with e | e
   ·rw[e] at hn;simp at hn
   ·exact e
  cases j with
  | zero=>exact hrW
  | succ j =>
   obtain⟨y,k,r0,rfl,h2,_⟩:=b.org r hrW
   exact b.suf n r0 (by simpa using hn) (List.mem_of_getElem? h2) j (by simpa using hj)
theorem BI.heads(b:BI E a W h i){r:List Int}(hr:r∈([]::W)):∀x∈r,x∈W.map (Zl a):=by
 intro x hx
 obtain⟨j,hj,e⟩:=List.getElem_of_mem hx
 have:=b.suf r.length r rfl hr j hj
 refine List.mem_map.2 ⟨_,this,?_⟩
 rw[←List.getElem_cons_drop hj]
 exact e
theorem BI.inE(b:BI E a W h i):∀x∈W.map (Zl a),∃e∈E,e.2=x:=by
 intro x hx
 obtain⟨r,hr,rfl⟩:=List.mem_map.1 hx
 cases(b.rp r hr).1 with
 | nil=>exact absurd rfl (b.rp _ hr).2
 | cons p k=>exact⟨_,k,rfl⟩
end
theorem Z5q{α β:Type}{f:α→β}:∀ {W:List α},(W.map f).Nodup→∀ {q q':α},q∈W→q'∈W→f q=f q'→q=q'
 | [],_,_,_,h,_,_=>nomatch h
 | x::W,hn,q,q',h,h',e=>by
  rw[List.map_cons,List.nodup_cons] at hn
  rcases List.mem_cons.1 h with rfl | k
  ·rcases List.mem_cons.1 h' with rfl | k'
   ·rfl
   ·exact absurd (List.mem_map.2 ⟨q',k',e.symm⟩) hn.1
  ·rcases List.mem_cons.1 h' with rfl | k'
   ·exact absurd (List.mem_map.2 ⟨q,k,e⟩) hn.1
   ·exact Z5q hn.2 k k' e
theorem BI.wlen{E:List (Int × Int)}{a:Int}{W:List (List Int)}{h i:Nat}(b:BI E a W h i){r:List Int}(hr:r∈([]::W)):r.length≤E.length:=by
 have hnd:r.Nodup:=by
  rw[List.nodup_iff_pairwise_ne,List.pairwise_iff_getElem]
  intro x y hx hy hxy e
  have h1:=b.suf r.length r rfl hr x hx
  have h2:=b.suf r.length r rfl hr y hy
  have e1:Zl a (r.drop x)=r[x]:=by rw[←List.getElem_cons_drop hx];rfl
  have e2:Zl a (r.drop y)=r[y]:=by rw[←List.getElem_cons_drop hy];rfl
  have h3:=Z5q b.nd h1 h2 (by rw[e1,e2,e])
  have:=congrArg List.length h3
  simp at this
  omega
 have h1:=Z03 hnd (b.heads hr)
 have h2:=b.size
 rw[List.length_map] at h1
 omega
def Z1n(l:List (Int × Int))(c:List Int)(b:Bool):Prop :=
 (b=true↔∃v,Yj l v v)∧(b=false→c=[])∧(b=true→∃a r,c=a::r∧Yj l a a∧(∀v,Yj l v v→a≤v)∧Far l a a (r.length+1)∧Greedy l a a (r.length+1) r)
theorem Ye{l m:List (Int × Int)}(h:∀x,x∈l↔x∈m){a b:Int}:Yj l a b↔Yj m a b:=⟨Z2e fun x=>(h x).1,Z2e fun x=>(h x).2⟩
theorem Z2s{l m:List (Int × Int)}(h:∀x∈l,x∈m){a b:Int}{n:Nat}(w:Way l a n b):Way m a n b:=by
 induction w with
 | one k=>exact .one (h _ k)
 | step k _ ih=>exact .step (h _ k) ih
theorem Ur{l m:List (Int × Int)}(h:∀x,x∈l↔x∈m){a b:Int}{n:Nat}(f:Far l a b n):Far m a b n :=
 ⟨Z2s (fun x=>(h x).1) f.1,fun k w=>f.2 k (Z2s (fun x=>(h x).2) w)⟩
theorem Z1z{l m:List (Int × Int)}(h:∀x,x∈l↔x∈m){a b:Int}{n:Nat}{r:List Int}(g:Greedy l b a n r):Greedy m b a n r:=by
 induction g with
 | last k=>exact .last ((h _).1 k)
 | step k f mn _ ih=>exact .step ((h _).1 k) (Ur h f) (fun y hy fy=>mn y ((h _).2 hy) (Ur (fun x=>(h x).symm) fy)) ih
theorem Z0o{l m:List (Int × Int)}(h:∀x,x∈l↔x∈m){c:List Int}{b:Bool}(p:Z1n l c b):Z1n m c b:=by
 obtain⟨p1,p2,p3⟩:=p
 refine⟨p1.trans ⟨fun⟨v,q⟩=>⟨v,(Ye h).1 q⟩,fun⟨v,q⟩=>⟨v,(Ye h).2 q⟩⟩,p2,fun hb=>?_⟩
 obtain⟨a,r,e,q1,q2,q3,q4⟩:=p3 hb
 exact⟨a,r,e,(Ye h).1 q1,fun v q=>q2 v ((Ye h).2 q),Ur h q3,Z1z h q4⟩
theorem Z44{l:List (Int × Int)}{c c':List Int}{b b':Bool}(p:Z1n l c b)(p':Z1n l c' b'):c=c'∧b=b':=by
 obtain⟨p1,p2,p3⟩:=p
 obtain⟨q1,q2,q3⟩:=p'
 have hb:b=b':=by
  have:b=true↔b'=true:=p1.trans q1.symm
  cases b<;>cases b'<;>simp_all
 subst hb
 refine⟨?_,rfl⟩
 cases b with
 | false=>rw[p2 rfl,q2 rfl]
 | true =>
  obtain⟨a,r,rfl,h1,h2,h3,h4⟩:=p3 rfl
  obtain⟨a',r',rfl,k1,k2,k3,k4⟩:=q3 rfl
  obtain rfl:=Int.le_antisymm (h2 _ k1) (k2 _ h1)
  rw[Z5n k3 h3] at k4
  rw[Z20 h4 k4]
theorem Z77{l:List (Int × Int)}{a:Int}{r:List Int}(h1:Yj l a a)(h2:∀v,Yj l v v→a≤v)(h3:Lst l a a r):Z1n l (a::r.reverse) true:=by
 refine⟨⟨fun _=>⟨a,h1⟩,fun _=>rfl⟩,(fun h=>nomatch h),fun _=>⟨a,r.reverse,rfl,h1,h2,?_,?_⟩⟩
 ·rw[List.length_reverse];exact Z3k h3
 ·rw[List.length_reverse];exact Z01 r.length rfl h3
theorem Z76{l:List (Int × Int)}(h:¬∃v,Yj l v v):Z1n l [] false:=⟨⟨(fun q=>nomatch q),fun q=>absurd q h⟩,fun _=>rfl,(fun q=>nomatch q)⟩
def Vx(t:Int)(l:List Int):List (Int × Int):=l.map fun y=>(t,y)
theorem Z0d(t:Int)(l:List Int):(Vx t l).length=l.length:=by simp[Vx]
def edR(q:List Rq)(r:Rq):List (Int × Int):=if 0<r.sn then Vx r.txn (V8 q r.id) else[]
def Uc(q:List Rq)(k:Nat):List (Int × Int):=(q.take k).flatMap (edR q)
section
variable {W:Int} {q:List Rq} (h:Ok W q)
include h
theorem V2(e:Int × Int):e∈Uc q q.length↔∃r∈q,0<r.sn∧e.1=r.txn∧∃o∈q,o.id≠r.id∧blk r o=true∧o.txn=e.2:=by
 unfold Uc
 rw[List.take_of_length_le (Nat.le_refl _),List.mem_flatMap]
 constructor
 ·rintro⟨r,hr,he⟩
  unfold edR at he
  by_cases hs:0<r.sn
  ·rw[if_pos hs] at he
   obtain⟨y,hy,rfl⟩:=List.mem_map.1 he
   unfold V8 at hy
   rw[Z1w h hr] at hy
   simp only[if_pos hs] at hy
   exact⟨r,hr,hs,rfl,(Yl q r y).1 hy⟩
  ·rw[if_neg hs] at he;cases he
 ·rintro⟨r,hr,hs,e1,ho⟩
  refine⟨r,hr,?_⟩
  unfold edR
  rw[if_pos hs]
  refine List.mem_map.2 ⟨e.2,?_,by rw[←e1]⟩
  unfold V8
  rw[Z1w h hr]
  simp only[if_pos hs]
  exact(Yl q r e.2).2 ho
theorem Ul{a b:Rq}(ha:a∈q)(hb:b∈q)(e:a.txn=b.txn):a=b:=by
 obtain⟨i,hi,rfl⟩:=List.getElem_of_mem ha
 obtain⟨j,hj,rfl⟩:=List.getElem_of_mem hb
 rcases Nat.lt_trichotomy i j with k | k | k
 ·exact absurd e (List.pairwise_iff_getElem.1 h.pr i j hi hj k).txn
 ·subst k;rfl
 ·exact absurd e.symm (List.pairwise_iff_getElem.1 h.pr j i hj hi k).txn
theorem Z5i(e:Int × Int)(he:e∈Uc q q.length):e.1≠e.2:=by
 obtain⟨r,hr,_,e1,o,ho,ne,_,e2⟩:=(V2 h e).1 he
 intro k
 exact ne (by rw[Ul h ho hr (by rw[e2,←k,e1])])
theorem Z5j(hd:Vp q){r:Rq}(hr:r∈q):(∃e∈Uc q q.length,e.1=r.txn)↔0<r.sn:=by
 constructor
 ·rintro⟨e,he,e1⟩
  obtain⟨r',hr',hs,e1',_⟩:=(V2 h e).1 he
  obtain rfl:=Ul h hr hr' (by rw[←e1,e1'])
  exact hs
 ·intro hs
  have hc:=hd r hr
  have:Un q r≠[]:=fun k=>by rw[(Z54 q r hs).1 k] at hc;cases hc
  obtain⟨y,t,ht⟩:=List.exists_cons_of_ne_nil this
  have hy:y∈Un q r:=by rw[ht];exact List.mem_cons_self ..
  exact⟨(r.txn,y),(V2 h _).2 ⟨r,hr,hs,rfl,(Yl q r y).1 hy⟩,rfl⟩
def rkQ(r:Rq):Int:=if r.md=0 then 2+r.sn else if 0<r.sn then 1 else 0
omit h in
theorem Z69(h1:∀a∈q,∀b∈q,a.md≠0→0<a.sn→b.md≠0→0<b.sn→a=b){r o:Rq}(hr:r∈q)(ho:o∈q)(hs:0<r.sn)(ne:o.id≠r.id)(hb:blk r o=true):rkQ o<rkQ r:=by
 unfold rkQ
 unfold blk at hb
 simp only[Bool.or_eq_true,Bool.and_eq_true,bne_iff_ne,ne_eq,Bool.not_eq_true',decide_eq_true_eq,beq_iff_eq] at hb
 by_cases z:r.md=0
 ·rw[if_pos z]
  by_cases y:o.md=0
  ·rw[if_pos y]
   rcases hb with(⟨k,_⟩ | ⟨⟨k,_⟩,_⟩) | ⟨_,k⟩
   ·exact absurd y k
   ·exact absurd y k
   ·omega
  ·rw[if_neg y]
   split<;>omega
 ·rw[if_neg z,if_pos hs]
  have y:o.md≠0:=by
   rcases hb with(⟨k,_⟩ | ⟨⟨k,_⟩,_⟩) | ⟨⟨k,_⟩,_⟩
   ·exact k
   ·exact k
   ·exact absurd k z
  rw[if_neg y]
  have:¬0<o.sn:=fun k=>ne (by rw[h1 o ho r hr y k z hs])
  rw[if_neg this]
  omega
theorem Z5h(h1:∀a∈q,∀b∈q,a.md≠0→0<a.sn→b.md≠0→0<b.sn→a=b){x y:Int}(p:Yj (Uc q q.length) x y):∃r∈q,∃o∈q,r.txn=x∧o.txn=y∧rkQ o<rkQ r:=by
 induction p with
 | single k =>
  obtain⟨r,hr,hs,e1,o,ho,ne,hb,e2⟩:=(V2 h _).1 k
  exact⟨r,hr,o,ho,e1.symm,e2,Z69 h1 hr ho hs ne hb⟩
 | tail _ k ih =>
  obtain⟨r,hr,o,ho,e1,e2,hlt⟩:=ih
  obtain⟨r',hr',hs,e1',o',ho',ne,hb,e2'⟩:=(V2 h _).1 k
  obtain rfl:=Ul h ho hr' (by rw[e2];exact e1')
  have:=Z69 h1 hr' ho' hs ne hb
  exact⟨r,hr,o',ho',e1,e2',by omega⟩
theorem Z1u(h1:(q.filter fun r=>r.md != 0&&decide (0<r.sn)).length≤1):¬∃x,Yj (Uc q q.length) x x:=by
 rintro⟨x,p⟩
 have hu:∀a∈q,∀b∈q,a.md≠0→0<a.sn→b.md≠0→0<b.sn→a=b:=by
  intro a ha b hb a1 a2 b1 b2
  have ma:a∈q.filter fun r=>r.md != 0&&decide (0<r.sn):=List.mem_filter.2 ⟨ha,by simp[a1,a2]⟩
  have mb:b∈q.filter fun r=>r.md != 0&&decide (0<r.sn):=List.mem_filter.2 ⟨hb,by simp[b1,b2]⟩
  match hq:q.filter fun r=>r.md != 0&&decide (0<r.sn) with
  | []=>rw[hq] at ma;cases ma
  | [c] =>
   rw[hq] at ma mb
   simp at ma mb
   rw[ma,mb]
  | c::d::t =>
   rw[hq] at h1
   simp at h1
 obtain⟨r,hr,o,ho,e1,e2,hlt⟩:=Z5h h hu p
 obtain rfl:=Ul h hr ho (by rw[e1,e2])
 exact absurd hlt (Int.lt_irrefl _)
end
theorem Z8x{w:World}{g n cap:Nat}{l:List Int}(h:IS w (.slice (some ⟨g,0,none⟩) n cap) l){i:Nat}(hi:i<l.length):w.cell? ⟨g,i,none⟩=some (.int .i64 l[i]):=by
 rw[h.cell i hi,List.getD_eq_getElem?_getD,List.getElem?_eq_getElem hi];rfl
structure TwI(W0:World)(t:Int)(l:List Int)(v:Value)(k:Nat)(w:World):Prop where
 own:Zo w W0.heap.size v (Vx t (l.take k))
 nw:Nw W0 w
theorem Z38{w0:World}{v:Value}{l:List Int}(h:IS w0 v l)(hl:l.length≤1000)(t:Int) :
  Calls prog 37 #[.int .i64 t,v] w0 fun e w'=>∃v',e=.returned v'∧Zo w' w0.heap.size v' (Vx t l)∧Nw w0 w':=by
 obtain⟨la,lc,rfl,hla⟩:=h.box
 have HLA:=hD0 hla
 have HL:=hD0 h
 obtain⟨n,hn⟩:∃n,l.length=n:=⟨_,rfl⟩
 have HN:=hD0 hn
 rw[hn] at hl ⊢
 clear h hla hn
 go_enter func37,ntmps37
 go_wp2_with fail
 go_loopw [5,10] (fun v5 v10 wr=>∃(k:Nat) (a:Option Addr) (b c:Nat),v5=.slice a b c∧v10=.int .i64 k∧k≤n∧Hid (TwI w0 t l (.slice a b c) k wr)) (fun _ v10 _=>n-(intOf v10).toNat)
 case atStart=>exact⟨0,none,0,0,rfl,rfl,Nat.zero_le _,hD0 ⟨World.ownsRow_nil _ _ _ _,Nw.refl _⟩⟩
 case round =>
  obtain⟨k,sa,sb,sc,rfl,rfl,hkn,HI⟩:=hrel
  by_cases hlt:k<n
  ·have hkl:k<l.length:=by rw[HN.out];exact hlt
   obtain⟨lg,rfl,_⟩:=HLA.out (by omega)
   have cy:=Z8x (HL.out.nw HI.out.nw) hkl
   obtain⟨y,hy⟩:∃y,l[k]=y:=⟨_,rfl⟩
   rw[hy] at cy
   have Yc:=Zx hlt
   have hw:=Zw k (k+1) (Nat.le_trans (Nat.le_of_lt hlt) (Nat.le_trans hl (by decide))) rfl
   obtain⟨k1,hk1⟩:∃m,k+1=m:=⟨_,rfl⟩
   have HK1:=hD0 (aI0 hk1 hlt)
   have htk:Vx t (l.take k1)=Vx t (l.take k)++[(t,y)]:=by
    rw[←hk1,←hy,List.take_succ_eq_append_getElem hkl]
    simp only[Vx,List.map_append,List.map_cons,List.map_nil]
   rw[hk1] at hw
   have hal6:=Z5 wr (.cells #[.int .i64 t,.int .i64 y] 30)
   have g6:Nw wr (wr.alloc (.cells #[.int .i64 t,.int .i64 y] 30)):=(Nw.refl wr).alloc _
   obtain⟨v',w6,hr6,hO6,hg6,_,ga6,cc6,rfl⟩:=Yy.push Va (onw HI.out.own g6) (t,y) wr.heap.size 1 (fun j u hu=>by
    rw[Z2 hal6]
    simpa [Yn] using hu) (by rw[Z0d,List.length_take];omega) (HI.out.nw.trans g6).sz
   have HI6:=hD0 (show TwI w0 t l (.slice (some ⟨ga6,0,none⟩) ((Vx t (l.take k)).length+1) cc6) k1 w6 from⟨by rw[htk];exact hO6,(HI.out.nw.trans g6).gro hg6 (fun b e=>oge HI.out.own e)⟩)
   have HR6:=hD0 hr6
   clear hal6 g6 hr6 hO6 hg6 HI hk1 hy htk hkl hlt
   go_wp2_with (at_builtin;refine Zn (by rfl) (.tmp 14) (.tmp 18) 22 rfl _ _ _ _ rfl rfl HR6.out ?_)
   exact⟨⟨k1,some ⟨ga6,0,none⟩,_,cc6,rfl,rfl,by rw[←HK1.out.1];exact HK1.out.2,HI6⟩,by rw[←HK1.out.1];exact Y1 HK1.out.2⟩
  ·obtain rfl:k=n:=Nat.le_antisymm hkn (Nat.le_of_not_lt hlt)
   have Yc:¬k<k:=Nat.lt_irrefl k
   have HO:=hD0 (show Zo wr w0.heap.size (.slice sa sb sc) (Vx t l)∧Nw w0 wr from by
    have:=HI.out.own
    rw[List.take_of_length_le (by rw[HN.out];exact Nat.le_refl k)] at this
    exact⟨this,HI.out.nw⟩)
   clear hlt HI
   go_wp2
   go_ret
   exact⟨_,rfl,HO.out.1,HO.out.2⟩
def U5(a:Rq):Prop:=a.md≠0∧0<a.sn
theorem Z56{W:Int}{q:List Rq}{r:Rq}(h:Ok W q)(hr:r∈q)(hs:0<r.sn)(hb:∀o∈q,o.id≠r.id→blk r o=false):Zy q r=true:=by
 unfold Zy
 rw[Bool.and_eq_true]
 refine⟨by simpa using hs,List.all_eq_true.2 fun o ho=>?_⟩
 by_cases e:o.id=r.id
 ·simp[e]
 ·simp[hb o ho e]
theorem Ug{q:List Rq}{r o:Rq}(ho:o∈q)(ne:o.id≠r.id)(hb:blk r o=true):Zy q r=false:=by
 cases e:Zy q r with
 | false=>rfl
 | true =>
  have:=Z02 e ho ne
  rw[hb] at this;cases this
theorem Z0m{r o:Rq}(hm:o.md≠0)(hc:Ys o.md r.wt=false):blk r o=true:=by simp[blk,hm,hc]
theorem Z6v{r o:Rq}(hm:o.md≠0)(hs:0<o.sn)(h:r.md=0∨o.sn<r.sn):blk r o=true:=by
 rcases h with h | h<;>simp[blk,hm,hs,h]
theorem Z41{r o:Rq}(h1:r.md=0)(h2:o.md=0)(h3:o.sn<r.sn):blk r o=true:=by simp[blk,h1,h2,h3]
theorem Z6y{W:Int}{q:List Rq}(h:Ok W q){r:Rq}(hr:r∈q)(hu:U5 r)(hmin:∀a∈q,U5 a→r.sn≤a.sn)(hf:∀o∈q,o.id≠r.id→o.md≠0→Ys o.md r.wt=true):Zy q r=true :=
 Z56 h hr hu.2 fun o ho ne=>by
  have hz:=hu.1
  cases e:blk r o with
  | false=>rfl
  | true =>
   exfalso
   unfold blk at e
   simp only[Bool.or_eq_true,Bool.and_eq_true,bne_iff_ne,beq_iff_eq,Bool.not_eq_true',decide_eq_true_eq] at e
   rcases e with(⟨e1,e2⟩ | ⟨⟨e1,e2⟩,e3⟩) | ⟨⟨e1,_⟩,_⟩
   ·rw[hf o ho ne e1] at e2;cases e2
   ·rcases e3 with e3 | e3
    ·exact hz e3
    ·have:=hmin o ho ⟨e1,e2⟩;omega
   ·exact hz e1
theorem Z6z{W:Int}{q:List Rq}(h:Ok W q){k:Nat}(hk:k<q.length)(hz:q[k].md=0)(hfirst:∀a∈q.take k,a.md≠0)(hno:∀a∈q,¬U5 a)(hf:∀o∈q,o.id≠q[k].id→o.md≠0→Ys o.md q[k].wt=true):Zy q q[k]=true :=
 Z56 h (gM0 hk) ((h.rt _ (gM0 hk)).w' hz) fun o ho ne=>by
  cases e:blk q[k] o with
  | false=>rfl
  | true =>
   exfalso
   unfold blk at e
   simp only[Bool.or_eq_true,Bool.and_eq_true,bne_iff_ne,beq_iff_eq,Bool.not_eq_true',decide_eq_true_eq] at e
   rcases e with(⟨e1,e2⟩ | ⟨⟨e1,e2⟩,_⟩) | ⟨⟨_,e1⟩,e2⟩
   ·rw[hf o ho ne e1] at e2;cases e2
   ·exact hno o ho ⟨e1,e2⟩
   ·obtain⟨j,hj,rfl⟩:=List.getElem_of_mem ho
    rcases Nat.lt_trichotomy j k with g | g | g
    ·exact hfirst _ (List.mem_take_iff_getElem.2 ⟨j,by omega,rfl⟩) e1
    ·subst g;exact ne rfl
    ·have:=((List.pairwise_iff_getElem.1 h.pr k j hk hj g).ord hz).2;omega
theorem Z7c{W:Int}{q:List Rq}(h:Ok W q){r:Rq}(hr:r∈q)(hu:U5 r)(hmin:∀a∈q,U5 a→r.sn≤a.sn)(hf:∃o∈q,o.id≠r.id∧o.md≠0∧Ys o.md r.wt=false):Vp q:=by
 intro s hs
 by_cases e:s.id=r.id
 ·obtain rfl:=h.inj s hs r hr e
  obtain⟨o,ho,ne,h1,h2⟩:=hf
  exact Ug ho ne (Z0m h1 h2)
 ·cases c:Zy q s with
  | false=>rfl
  | true =>
   have hsn:=Yr c
   rw[Ug hr (fun x=>e x.symm) (Z6v hu.1 hu.2 ?_)] at c
   ·cases c
   ·by_cases z:s.md=0
    ·exact .inl z
    ·refine .inr ?_
     have h1:=hmin s hs ⟨z,hsn⟩
     have h2:r.sn≠s.sn:=fun x=>e (by rw[h.injS r hr s hs hu.2 x])
     omega
theorem Z7d{W:Int}{q:List Rq}(h:Ok W q){k:Nat}(hk:k<q.length)(hz:q[k].md=0)(hfirst:∀a∈q.take k,a.md≠0)(hno:∀a∈q,¬U5 a)(hf:∃o∈q,o.id≠q[k].id∧o.md≠0∧Ys o.md q[k].wt=false):Vp q:=by
 intro s hs
 by_cases e:s.id=q[k].id
 ·obtain rfl:=h.inj s hs _ (gM0 hk) e
  obtain⟨o,ho,ne,h1,h2⟩:=hf
  exact Ug ho ne (Z0m h1 h2)
 ·cases c:Zy q s with
  | false=>rfl
  | true =>
   have hsn:=Yr c
   have hsz:s.md=0:=by
    refine Classical.byContradiction fun z=>hno s hs ⟨z,hsn⟩
   obtain⟨j,hj,rfl⟩:=List.getElem_of_mem hs
   rcases Nat.lt_trichotomy j k with g | g | g
   ·exact absurd hsz (hfirst _ (List.mem_take_iff_getElem.2 ⟨j,by omega,rfl⟩))
   ·subst g;exact absurd rfl e
   ·have:=((List.pairwise_iff_getElem.1 h.pr k j hk hj g).ord hz).2
    rw[Ug (gM0 hk) (fun x=>e x.symm) (Z41 hsz hz this)] at c
    cases c
theorem Z49{q:List Rq}(hno:∀a∈q,¬U5 a)(hw:∀a∈q,a.md≠0):Vp q:=by
 intro s hs
 cases c:Zy q s with
 | false=>rfl
 | true=>exact absurd ⟨hw s hs,Yr c⟩ (hno s hs)
theorem Z9v(m:Int):Yk m=false↔m<0∨7≤m:=by
 rw[Bool.eq_false_iff,ne_eq,V3];omega
theorem Uj(m:Int)(w:World):Calls prog 69 #[.int .i64 m] w fun e w'=>e=.returned (.bool (Yk m))∧w=w':=by
 cases h:Yk m with
 | true =>
  rw[V3] at h
  obtain⟨h0,h1⟩:=h
  have h2:m≤6:=by omega
  go_enter func69,ntmps69
  go_wp2
  go_ret
  exact⟨rfl,rfl⟩
 | false =>
  rw[Z9v] at h
  rcases h with h | h
  ·go_enter func69,ntmps69
   go_wp2
   go_ret
   exact⟨rfl,rfl⟩
  ·have h0:0≤m:=by omega
   have hd:decide (m≤6)=false:=by simp;omega
   go_enter func69,ntmps69
   go_wp2
   go_ret
   exact⟨rfl,rfl⟩
theorem Yo{m:Int}(h:Yk m=true):m=0∨m=1∨m=2∨m=3∨m=4∨m=5∨m=6:=by
 rw[V3] at h;omega
theorem Z3t(m:Int)(h:Yk m=true)(w:World):Calls prog 69 #[.int .i64 m] w fun e w'=>e=.returned (.bool true)∧w=w':=by
 have:=Uj m w;rwa [h] at this
theorem Z3s(m:Int)(h:Yk m=false)(w:World):Calls prog 69 #[.int .i64 m] w fun e w'=>e=.returned (.bool false)∧w=w':=by
 have:=Uj m w;rwa [h] at this
def Zah:List ByteArray:=[⟨#[43,43,43,43,43,43,43]⟩,⟨#[43,43,43,43,43,43,46]⟩,⟨#[43,43,43,46,46,46,46]⟩,⟨#[43,43,46,43,46,43,46]⟩,⟨#[43,43,46,46,46,46,46]⟩,⟨#[43,43,46,43,46,46,46]⟩,⟨#[43,46,46,46,46,46,46]⟩]
def Zaj:List ByteArray:=[⟨#[43,46,46,46,46,46,46]⟩,⟨#[43,43,46,46,46,46,46]⟩,⟨#[43,43,43,46,46,46,46]⟩,⟨#[43,43,46,43,46,46,46]⟩,⟨#[43,43,43,43,43,46,46]⟩,⟨#[43,43,46,43,46,43,46]⟩,⟨#[43,43,43,43,43,43,43]⟩]
theorem Za1(a:Int)(h:Yk a=true)(w:World):Calls prog 71 #[.int .i64 a] w fun e w'=>e=.returned (.string (Zah.getD a.toNat ByteArray.empty))∧Nw w w':=by
 rcases Yo h with rfl | rfl | rfl | rfl | rfl | rfl | rfl
 all_goals
  go_enter func71,ntmps71
  go_wp2
  go_ret
  exact⟨rfl,(Nw.refl _).alloc _⟩
theorem Z7v(a:Int)(h:Yk a=true)(w:World):Calls prog 99 #[.int .i64 a] w fun e w'=>e=.returned (.string (Zaj.getD a.toNat ByteArray.empty))∧Nw w w':=by
 rcases Yo h with rfl | rfl | rfl | rfl | rfl | rfl | rfl
 all_goals
  go_enter func99,ntmps99
  go_wp2
  go_ret
  exact⟨rfl,(Nw.refl _).alloc _⟩
theorem Z4l(a b:Int)(ha:Yk a=true)(hb:Yk b=true)(w:World):Calls prog 54 #[.int .i64 a,.int .i64 b] w fun e w'=>e=.returned (.bool (Ys a b))∧Nw w w':=by
 have hr:=Za1 a ha
 rcases Yo ha with rfl | rfl | rfl | rfl | rfl | rfl | rfl<;>rcases Yo hb with rfl | rfl | rfl | rfl | rfl | rfl | rfl
 all_goals
  go_enter func54,ntmps54
  go_wp2_with (first | (go_at_call 69;refine(Z3t _ rfl _).mono ?_;rintro e w' ⟨rfl,rfl⟩) | (go_at_call 71;refine(hr _).mono ?_;rintro e w' ⟨rfl,hg⟩))
  go_ret
  exact⟨rfl,hg⟩
end Go.Proofs.Ytobnolgphljoeaa
