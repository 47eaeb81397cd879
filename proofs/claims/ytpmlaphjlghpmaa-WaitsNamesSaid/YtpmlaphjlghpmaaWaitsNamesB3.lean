/- Texts merged: WcM, WbC, WdI, WdG, QuT, R1, R1B, QuA, Lex -/
import Derived.Test.YtpmlaphjlghpmaaWaitsNamesB2
set_option linter.unusedVariables false
set_option maxRecDepth 100000
set_option maxHeartbeats 16000000
namespace Go.Proofs.Ytpmlaphjlghpmaa
open Go.RowKit _root_.Go.Proofs.Try
section
open Go.RowKit Go.Sort Go.Shelf
theorem Z0d(x y:Int × Int)(w:World):Calls prog 33 #[.agg (Zi x).toArray,.agg (Zi y).toArray] w fun e w'=>e=.returned (.int .i64 (Z2k x y))∧GG w w':=by
 obtain⟨t,r⟩:=x
 obtain⟨t',r'⟩:=y
 simp only[Zi,Z2k]
 go_enter func33,ntmps33
 go_wp2
 go_region_held3 (fun w'=>Z6c w t r t' r' w') (first | assumption | exact Z32 w t r t' r' _ | exact Vz (by assumption) (by assumption) | exact Vz ((GG.refl _).alloc _) (by assumption) | exact Vz (GG.refl _).drew (by assumption))
  (first | (go_at_call 35;refine(Z1i _ _ _).mono ?_;rintro e w' ⟨rfl,rfl⟩) | (go_at_call 34;refine(Z9m _ (cP t t') (cP r r') _ (by simp[go_sem]) (by simp[go_sem])).mono ?_;rintro e w' ⟨rfl,rfl⟩))
 all_goals
  rename_i hS
  go_wp2
  go_ret
  exact⟨rfl,hS.2.2⟩
theorem Z50:∀args w,(callFunc 33 args).run prog w=.ok (.enter 33 args) w:=enters_of func33 (by kernel_rfl) rfl
structure OnI(W0:World)(l:List (Int × Int))(v:Value)(k:Nat)(out:List (Int × Int))(w:World):Prop where
 own:Z9 w W0.heap.size v out
 nw:Nw W0 w
 on:Y6 l k out
theorem Z0r{W0:World}{v:Value}{l:List (Int × Int)}(h:Y4 W0 v l)(hl:l.length≤5000)(hw:Z4k l) :
  Calls prog 36 #[v] W0 fun e w'=>∃v' out,e=.returned v'∧Z9 w' W0.heap.size v' out∧Nw W0 w'∧Y6 l l.length out:=by
 have HW:=hD0 hw
 obtain⟨ea,ec,rfl,hed⟩:=h
 have HD:=hD0 hed
 obtain⟨n,hn⟩:∃n,l.length=n:=⟨_,rfl⟩
 have HN:=hD0 hn
 rw[hn] at hl ⊢
 clear hw hed hn
 go_enter func36,ntmps36
 go_wp2_with fail
 go_loopw [3,8] (fun v3 v8 wr=>∃(k:Nat) (out:List (Int × Int)) (a:Option Addr) (b c:Nat),v3=.slice a b c∧v8=.int .i64 k∧k≤n∧Hid (OnI W0 l (.slice a b c) k out wr)) (fun _ v8 _=>n-(intOf v8).toNat)
 case atStart=>exact⟨0,[],none,0,0,rfl,rfl,Nat.zero_le _,World.ownsRow_nil _ _ _ _,Nw.refl _,Y6.start l⟩
 case round =>
  obtain⟨k,out,sa,sb,sc,rfl,rfl,hkn,HI⟩:=hrel
  by_cases hlt:k<n
  ·have hkl:k<l.length:=by rw[HN.out];exact hlt
   have V4:=Yf hlt
   rcases HD.out with⟨q,_⟩ | ⟨eb,eo,rfl,hrc⟩
   ·rw[q] at hkl;simp at hkl
   ·have hrw:=hrc.nw HI.out.nw
    obtain⟨x0,x1⟩:=hrw.eg hkl
    have hebl:=hrw.lt
    obtain⟨e,he⟩:∃e,l[k]=e:=⟨_,rfl⟩
    rw[he] at x0 x1
    obtain⟨ex,ey⟩:=e
    simp only at x0 x1
    have hw:=Ys k (k+1) (Nat.le_trans (Nat.le_of_lt hlt) (Nat.le_trans hl (by decide))) rfl
    obtain⟨k1,hk1⟩:∃m,k+1=m:=⟨_,rfl⟩
    have HK1:=hD0 hk1
    rw[hk1] at hw
    have HE:=hD0 he
    clear hk1 he
    go_upto_region 5 with fail
    have hal:=Z5 wr (.cells #[.int .i64 ex,.int .i64 ey] 40)
    have g4:Nw wr (wr.alloc (.cells #[.int .i64 ex,.int .i64 ey] 40)):=(Nw.refl wr).alloc _
    obtain⟨w4,hw4⟩:∃x,wr.alloc (.cells #[.int .i64 ex,.int .i64 ey] 40)=x:=⟨_,rfl⟩
    obtain⟨B,hB⟩:∃B,wr.heap.size=B:=⟨_,rfl⟩
    rw[hB] at hal ⊢
    rw[hw4] at hal g4 ⊢
    have HI4:=hD0 (show OnI W0 l (.slice sa sb sc) k out w4 from⟨Uf HI.out.own g4,HI.out.nw.trans g4,HI.out.on⟩)
    have HAL:=hD0 hal
    have tB0:∀x,Nw w4 x→x.cell? ⟨B,0,none⟩=some (.int .i64 ex):=fun x g=>g.kp (Z2 (j:=0) HAL.out)
    have tB1:∀x,Nw w4 x→x.cell? ⟨B,1,none⟩=some (.int .i64 ey):=fun x g=>g.kp (Z2 (j:=1) HAL.out)
    clear hal hw4 hB x0 x1 hebl hrw
    by_cases hz:k=0
    ·subst hz
     have HO:=hD0 (show Y6 l (0+1) (out++[(ex,ey)]) from by
      have:=HI4.out.on.push HW.out hkl (.inl rfl)
      rwa [HE.out] at this)
     obtain rfl:k1=1:=HK1.out.symm
     clear g4
     refine Z8 [] (Nw w4) (by kernel_rfl) ?_
     change Z7 _ _ _ _ _ _ 11 #[false,false,false,false,false,false,false,false,false,false,false] _ w4.drew
     obtain⟨y4,hy4⟩:∃y,w4.drew=y:=⟨_,rfl⟩
     rw[hy4]
     have hS0:Nw w4 y4:=by rw[←hy4];exact(Nw.refl w4).dr
     clear hy4
     refine Z0 0 rfl (by kernel_rfl) (by kernel_rfl) (by kernel_rfl) (fun v c a w h=>h) ?_
     (first | (refine⟨undef,Or.inr ⟨by rfl,rfl⟩,?_⟩) | (apply Exists.intro;refine⟨Or.inl ⟨by rfl,?_⟩,?_⟩;(intro x hx';go_simp;first | done | with_reducible rfl)))
     (try simp only[Act.put,List.getElem_toArray,List.getElem_cons_zero,List.getElem_cons_succ,List.setIfInBounds_toArray,List.set_cons_zero,List.set_cons_succ])
     refine Z0 1 rfl (by kernel_rfl) (by kernel_rfl) (by kernel_rfl) (fun v c a w h=>h) ?_
     (first | (refine⟨undef,Or.inr ⟨by rfl,rfl⟩,?_⟩) | (apply Exists.intro;refine⟨Or.inl ⟨by rfl,?_⟩,?_⟩;(intro x hx';go_simp;first | done | with_reducible rfl)))
     (try simp only[Act.put,List.getElem_toArray,List.getElem_cons_zero,List.getElem_cons_succ,List.setIfInBounds_toArray,List.set_cons_zero,List.set_cons_succ])
     refine Z0 2 rfl (by kernel_rfl) (by kernel_rfl) (by kernel_rfl) (fun v c a w h=>h) ?_
     (first | (refine⟨undef,Or.inr ⟨by rfl,rfl⟩,?_⟩) | (apply Exists.intro;refine⟨Or.inl ⟨by rfl,?_⟩,?_⟩;(intro x hx';go_simp;first | done | with_reducible rfl)))
     (try simp only[Act.put,List.getElem_toArray,List.getElem_cons_zero,List.getElem_cons_succ,List.setIfInBounds_toArray,List.set_cons_zero,List.set_cons_succ])
     refine Z1 3 rfl (by kernel_rfl) (by kernel_rfl) (by kernel_rfl) (by kernel_rfl) (fun v c a w h=>h) hS0 ?_
     (first | (refine⟨undef,Or.inr ⟨by rfl,rfl⟩,?_⟩) | (apply Exists.intro;refine⟨Or.inl ⟨by rfl,?_⟩,?_⟩;(intro x hx';go_simp;first | done | with_reducible rfl)))
     (try simp only[Act.put,List.getElem_toArray,List.getElem_cons_zero,List.getElem_cons_succ,List.setIfInBounds_toArray,List.set_cons_zero,List.set_cons_succ])
     refine Z0 4 rfl (by kernel_rfl) (by kernel_rfl) (by kernel_rfl) (fun v c a w h=>h) ?_
     (first | (refine⟨undef,Or.inr ⟨by rfl,rfl⟩,?_⟩) | (apply Exists.intro;refine⟨Or.inl ⟨by rfl,?_⟩,?_⟩;(intro x hx';go_simp;first | done | with_reducible rfl)))
     (try simp only[Act.put,List.getElem_toArray,List.getElem_cons_zero,List.getElem_cons_succ,List.setIfInBounds_toArray,List.set_cons_zero,List.set_cons_succ])
     refine Z0 5 rfl (by kernel_rfl) (by kernel_rfl) (by kernel_rfl) (fun v c a w h=>h) ?_
     (first | (refine⟨undef,Or.inr ⟨by rfl,rfl⟩,?_⟩) | (apply Exists.intro;refine⟨Or.inl ⟨by rfl,?_⟩,?_⟩;(intro x hx';go_simp;first | done | with_reducible rfl)))
     (try simp only[Act.put,List.getElem_toArray,List.getElem_cons_zero,List.getElem_cons_succ,List.setIfInBounds_toArray,List.set_cons_zero,List.set_cons_succ])
     refine Z0 6 rfl (by kernel_rfl) (by kernel_rfl) (by kernel_rfl) (fun v c a w h=>h) ?_
     (first | (refine⟨undef,Or.inr ⟨by rfl,rfl⟩,?_⟩) | (apply Exists.intro;refine⟨Or.inl ⟨by rfl,?_⟩,?_⟩;(intro x hx';go_simp;first | done | with_reducible rfl)))
     (try simp only[Act.put,List.getElem_toArray,List.getElem_cons_zero,List.getElem_cons_succ,List.setIfInBounds_toArray,List.set_cons_zero,List.set_cons_succ])
     refine Z0 7 rfl (by kernel_rfl) (by kernel_rfl) (by kernel_rfl) (fun v c a w h=>h) ?_
     (first | (refine⟨undef,Or.inr ⟨by rfl,rfl⟩,?_⟩) | (apply Exists.intro;refine⟨Or.inl ⟨by rfl,?_⟩,?_⟩;(intro x hx';go_simp;first | done | with_reducible rfl)))
     (try simp only[Act.put,List.getElem_toArray,List.getElem_cons_zero,List.getElem_cons_succ,List.setIfInBounds_toArray,List.set_cons_zero,List.set_cons_succ])
     refine Z1 8 rfl (by kernel_rfl) (by kernel_rfl) (by kernel_rfl) (by kernel_rfl) (fun v c a w h=>h) hS0 ?_
     (first | (refine⟨undef,Or.inr ⟨by rfl,rfl⟩,?_⟩) | (apply Exists.intro;refine⟨Or.inl ⟨by rfl,?_⟩,?_⟩;(intro x hx';go_simp;first | done | with_reducible rfl)))
     (try simp only[Act.put,List.getElem_toArray,List.getElem_cons_zero,List.getElem_cons_succ,List.setIfInBounds_toArray,List.set_cons_zero,List.set_cons_succ])
     refine Z0 9 rfl (by kernel_rfl) (by kernel_rfl) (by kernel_rfl) (fun v c a w h=>h) ?_
     (first | (refine⟨undef,Or.inr ⟨by rfl,rfl⟩,?_⟩) | (apply Exists.intro;refine⟨Or.inl ⟨by rfl,?_⟩,?_⟩;(intro x hx';go_simp;first | done | with_reducible rfl)))
     (try simp only[Act.put,List.getElem_toArray,List.getElem_cons_zero,List.getElem_cons_succ,List.setIfInBounds_toArray,List.set_cons_zero,List.set_cons_succ])
     refine Z0 10 rfl (by kernel_rfl) (by kernel_rfl) (by kernel_rfl) (fun v c a w h=>h) ?_
     (first | (refine⟨undef,Or.inr ⟨by rfl,rfl⟩,?_⟩) | (apply Exists.intro;refine⟨Or.inl ⟨by rfl,?_⟩,?_⟩;(intro x hx';go_simp;first | done | with_reducible rfl)))
     (try simp only[Act.put,List.getElem_toArray,List.getElem_cons_zero,List.getElem_cons_succ,List.setIfInBounds_toArray,List.set_cons_zero,List.set_cons_succ])
     refine Z4 (by kernel_rfl) ?_ _
     refine NoPanic.normal ?_
     (try simp only[Act.put,List.getElem_toArray,List.getElem_cons_zero,List.getElem_cons_succ,List.setIfInBounds_toArray,List.set_cons_zero,List.set_cons_succ])
     have hal6:=Z5 y4 (.cells #[.int .i64 ex,.int .i64 ey] 40)
     have g6:Nw y4 (y4.alloc (.cells #[.int .i64 ex,.int .i64 ey] 40)):=(Nw.refl y4).alloc _
     obtain⟨v',w6,hr6,hO6,hg6,_,ga6,cc6,rfl⟩:=Yq.push V7 (Uf (Uf HI4.out.own hS0) g6) (ex,ey) y4.heap.size 1 (fun j u hu=>by
      rw[Z2 hal6]
      simpa [Zi] using hu) (by have:=HI4.out.on.len;omega) ((HI4.out.nw.trans hS0).trans g6).sz
     have HI6:=hD0 (show OnI W0 l (.slice (some ⟨ga6,0,none⟩) (out.length+1) cc6) 1 (out++[(ex,ey)]) w6 from⟨hO6,((HI4.out.nw.trans hS0).trans g6).gro hg6 (fun b e=>oge HI4.out.own e),HO.out⟩)
     have HR6:=hD0 hr6
     have hb0:=tB0 y4 hS0
     have hb1:=tB1 y4 hS0
     have hBl:=lL0 (Go.Proofs.Ytpmlaphjlghpmaa.hlt HAL.out) hS0.sz
     clear hal6 g6 hr6 hO6 hg6 hS0 tB0 tB1 HI4
     go_wp2_with (at_builtin;refine Zg (by rfl) (.tmp 24) (.tmp 26) 33 rfl _ _ _ _ rfl rfl HR6.out ?_)
     go_roundw
     case rel=>exact⟨1,out++[(ex,ey)],some ⟨ga6,0,none⟩,out.length+1,cc6,rfl,rfl,hlt,HI6⟩
     case measure=>(show n-(1:Int).toNat<n-((0:Nat):Int).toNat;omega)
    ·obtain⟨j,hj⟩:∃j,k=j+1:=⟨k-1,by omega⟩
     have hjl:j<l.length:=by omega
     have hrw4:=hrc.nw (HI.out.nw.trans g4)
     obtain⟨y0,y1⟩:=hrw4.eg hjl
     have hdj:=V6 k j (Nat.le_trans (Nat.le_of_lt hlt) (Nat.le_trans hl (by decide))) hj
     have hjn':(j:Int)<(n:Int):=by omega
     have hjn:j<n:=by omega
     have hz1:((k:Int)==0)=false:=by simp;omega
     have hz2:(k==0)=false:=by simp;omega
     obtain⟨f,hf⟩:∃f,l[j]=f:=⟨_,rfl⟩
     rw[hf] at y0 y1
     obtain⟨fx,fy⟩:=f
     simp only at y0 y1
     have ty0:∀x,Nw w4 x→x.cell? ⟨eb,eo+j*2,none⟩=some (.int .i64 fx):=fun x g=>g.kp y0
     have ty1:∀x,Nw w4 x→x.cell? ⟨eb,eo+j*2+1,none⟩=some (.int .i64 fy):=fun x g=>g.kp y1
     have HF:=hD0 (show ∃hj:j<l.length,k=j+1∧l[j]=(fx,fy) from⟨hjl,hj,hf⟩)
     clear g4 hrw4 y0 y1 hj hjl hf hz
     by_cases hxy:ex=fx∧ey=fy
     ·obtain⟨hx1,hy1⟩:=hxy
      subst hx1
      subst hy1
      refine Z8 [] (Nw w4) (by kernel_rfl) ?_
      change Z7 _ _ _ _ _ _ 11 #[false,false,false,false,false,false,false,false,false,false,false] _ w4.drew
      obtain⟨y4,hy4⟩:∃y,w4.drew=y:=⟨_,rfl⟩
      rw[hy4]
      have hS0:Nw w4 y4:=by rw[←hy4];exact(Nw.refl w4).dr
      clear hy4
      refine Z0 0 rfl (by kernel_rfl) (by kernel_rfl) (by kernel_rfl) (fun v c a w h=>h) ?_
      (first | (refine⟨undef,Or.inr ⟨by rfl,rfl⟩,?_⟩) | (apply Exists.intro;refine⟨Or.inl ⟨by rfl,?_⟩,?_⟩;(intro x hx';go_simp;first | done | with_reducible rfl)))
      (try simp only[Act.put,List.getElem_toArray,List.getElem_cons_zero,List.getElem_cons_succ,List.setIfInBounds_toArray,List.set_cons_zero,List.set_cons_succ])
      refine Z0 1 rfl (by kernel_rfl) (by kernel_rfl) (by kernel_rfl) (fun v c a w h=>h) ?_
      (first | (refine⟨undef,Or.inr ⟨by rfl,rfl⟩,?_⟩) | (apply Exists.intro;refine⟨Or.inl ⟨by rfl,?_⟩,?_⟩;(intro x hx';go_simp;first | done | with_reducible rfl)))
      (try simp only[Act.put,List.getElem_toArray,List.getElem_cons_zero,List.getElem_cons_succ,List.setIfInBounds_toArray,List.set_cons_zero,List.set_cons_succ])
      refine Z0 2 rfl (by kernel_rfl) (by kernel_rfl) (by kernel_rfl) (fun v c a w h=>h) ?_
      (first | (refine⟨undef,Or.inr ⟨by rfl,rfl⟩,?_⟩) | (apply Exists.intro;refine⟨Or.inl ⟨by rfl,?_⟩,?_⟩;(intro x hx';go_simp;first | done | with_reducible rfl)))
      (try simp only[Act.put,List.getElem_toArray,List.getElem_cons_zero,List.getElem_cons_succ,List.setIfInBounds_toArray,List.set_cons_zero,List.set_cons_succ])
      refine Z1 3 rfl (by kernel_rfl) (by kernel_rfl) (by kernel_rfl) (by kernel_rfl) (fun v c a w h=>h) hS0 ?_
      (first | (refine⟨undef,Or.inr ⟨by rfl,rfl⟩,?_⟩) | (apply Exists.intro;refine⟨Or.inl ⟨by rfl,?_⟩,?_⟩;(intro x hx';go_simp;first | done | with_reducible rfl)))
      (try simp only[Act.put,List.getElem_toArray,List.getElem_cons_zero,List.getElem_cons_succ,List.setIfInBounds_toArray,List.set_cons_zero,List.set_cons_succ])
      refine Z0 4 rfl (by kernel_rfl) (by kernel_rfl) (by kernel_rfl) (fun v c a w h=>h) ?_
      (first | (refine⟨undef,Or.inr ⟨by rfl,rfl⟩,?_⟩) | (apply Exists.intro;refine⟨Or.inl ⟨by rfl,?_⟩,?_⟩;(intro x hx';go_simp;first | done | with_reducible rfl)))
      (try simp only[Act.put,List.getElem_toArray,List.getElem_cons_zero,List.getElem_cons_succ,List.setIfInBounds_toArray,List.set_cons_zero,List.set_cons_succ])
      refine Z0 5 rfl (by kernel_rfl) (by kernel_rfl) (by kernel_rfl) (fun v c a w h=>h) ?_
      (first | (refine⟨undef,Or.inr ⟨by rfl,rfl⟩,?_⟩) | (apply Exists.intro;refine⟨Or.inl ⟨by rfl,?_⟩,?_⟩;(intro x hx';go_simp;first | done | with_reducible rfl)))
      (try simp only[Act.put,List.getElem_toArray,List.getElem_cons_zero,List.getElem_cons_succ,List.setIfInBounds_toArray,List.set_cons_zero,List.set_cons_succ])
      refine Z0 6 rfl (by kernel_rfl) (by kernel_rfl) (by kernel_rfl) (fun v c a w h=>h) ?_
      (first | (refine⟨undef,Or.inr ⟨by rfl,rfl⟩,?_⟩) | (apply Exists.intro;refine⟨Or.inl ⟨by rfl,?_⟩,?_⟩;(intro x hx';go_simp;first | done | with_reducible rfl)))
      (try simp only[Act.put,List.getElem_toArray,List.getElem_cons_zero,List.getElem_cons_succ,List.setIfInBounds_toArray,List.set_cons_zero,List.set_cons_succ])
      refine Z0 7 rfl (by kernel_rfl) (by kernel_rfl) (by kernel_rfl) (fun v c a w h=>h) ?_
      (first | (refine⟨undef,Or.inr ⟨by rfl,rfl⟩,?_⟩) | (apply Exists.intro;refine⟨Or.inl ⟨by rfl,?_⟩,?_⟩;(intro x hx';go_simp;first | done | with_reducible rfl)))
      (try simp only[Act.put,List.getElem_toArray,List.getElem_cons_zero,List.getElem_cons_succ,List.setIfInBounds_toArray,List.set_cons_zero,List.set_cons_succ])
      refine Z1 8 rfl (by kernel_rfl) (by kernel_rfl) (by kernel_rfl) (by kernel_rfl) (fun v c a w h=>h) hS0 ?_
      (first | (refine⟨undef,Or.inr ⟨by rfl,rfl⟩,?_⟩) | (apply Exists.intro;refine⟨Or.inl ⟨by rfl,?_⟩,?_⟩;(intro x hx';go_simp;first | done | with_reducible rfl)))
      (try simp only[Act.put,List.getElem_toArray,List.getElem_cons_zero,List.getElem_cons_succ,List.setIfInBounds_toArray,List.set_cons_zero,List.set_cons_succ])
      refine Z0 9 rfl (by kernel_rfl) (by kernel_rfl) (by kernel_rfl) (fun v c a w h=>h) ?_
      (first | (refine⟨undef,Or.inr ⟨by rfl,rfl⟩,?_⟩) | (apply Exists.intro;refine⟨Or.inl ⟨by rfl,?_⟩,?_⟩;(intro x hx';go_simp;first | done | with_reducible rfl)))
      (try simp only[Act.put,List.getElem_toArray,List.getElem_cons_zero,List.getElem_cons_succ,List.setIfInBounds_toArray,List.set_cons_zero,List.set_cons_succ])
      refine Z0 10 rfl (by kernel_rfl) (by kernel_rfl) (by kernel_rfl) (fun v c a w h=>h) ?_
      (first | (refine⟨undef,Or.inr ⟨by rfl,rfl⟩,?_⟩) | (apply Exists.intro;refine⟨Or.inl ⟨by rfl,?_⟩,?_⟩;(intro x hx';go_simp;first | done | with_reducible rfl)))
      (try simp only[Act.put,List.getElem_toArray,List.getElem_cons_zero,List.getElem_cons_succ,List.setIfInBounds_toArray,List.set_cons_zero,List.set_cons_succ])
      refine Z4 (by kernel_rfl) ?_ _
      refine NoPanic.normal ?_
      (try simp only[Act.put,List.getElem_toArray,List.getElem_cons_zero,List.getElem_cons_succ,List.setIfInBounds_toArray,List.set_cons_zero,List.set_cons_succ])
      have HS:=hD0 (show OnI W0 l (.slice sa sb sc) k1 out y4 from⟨Uf HI4.out.own hS0,HI4.out.nw.trans hS0,by
       obtain⟨hjl,hj,hf⟩:=HF.out
       rw[←HK1.out]
       exact HI4.out.on.skip hkl hjl hj (by rw[HE.out,hf])⟩)
      clear hS0 tB0 tB1 ty0 ty1 HI4
      go_wp2_with fail
      go_roundw
      case rel=>exact⟨k1,out,sa,sb,sc,rfl,rfl,by rw[←HK1.out];exact hlt,HS⟩
      case measure=>rw[←HK1.out];exact V5 hlt
     ·have HO:=hD0 (show Y6 l (k+1) (out++[(ex,ey)]) from by
       obtain⟨hjl,hj,hf⟩:=HF.out
       have:=HI4.out.on.push HW.out hkl (.inr ⟨_,hjl,hj,by
        rw[HE.out,hf]
        exact fun q=>hxy ⟨congrArg Prod.fst q,congrArg Prod.snd q⟩⟩)
       rwa [HE.out] at this)
      by_cases hx:ex=fx
      ·subst hx
       have hy1:(ey==fy)=false:=by simpa using fun q=>hxy ⟨rfl,q⟩
       have hy3:¬ey=fy:=fun q=>hxy ⟨rfl,q⟩
       clear hxy
       refine Z8 [] (Nw w4) (by kernel_rfl) ?_
       change Z7 _ _ _ _ _ _ 11 #[false,false,false,false,false,false,false,false,false,false,false] _ w4.drew
       obtain⟨y4,hy4⟩:∃y,w4.drew=y:=⟨_,rfl⟩
       rw[hy4]
       have hS0:Nw w4 y4:=by rw[←hy4];exact(Nw.refl w4).dr
       clear hy4
       refine Z0 0 rfl (by kernel_rfl) (by kernel_rfl) (by kernel_rfl) (fun v c a w h=>h) ?_
       (first | (refine⟨undef,Or.inr ⟨by rfl,rfl⟩,?_⟩) | (apply Exists.intro;refine⟨Or.inl ⟨by rfl,?_⟩,?_⟩;(intro x hx';go_simp;first | done | with_reducible rfl)))
       (try simp only[Act.put,List.getElem_toArray,List.getElem_cons_zero,List.getElem_cons_succ,List.setIfInBounds_toArray,List.set_cons_zero,List.set_cons_succ])
       refine Z0 1 rfl (by kernel_rfl) (by kernel_rfl) (by kernel_rfl) (fun v c a w h=>h) ?_
       (first | (refine⟨undef,Or.inr ⟨by rfl,rfl⟩,?_⟩) | (apply Exists.intro;refine⟨Or.inl ⟨by rfl,?_⟩,?_⟩;(intro x hx';go_simp;first | done | with_reducible rfl)))
       (try simp only[Act.put,List.getElem_toArray,List.getElem_cons_zero,List.getElem_cons_succ,List.setIfInBounds_toArray,List.set_cons_zero,List.set_cons_succ])
       refine Z0 2 rfl (by kernel_rfl) (by kernel_rfl) (by kernel_rfl) (fun v c a w h=>h) ?_
       (first | (refine⟨undef,Or.inr ⟨by rfl,rfl⟩,?_⟩) | (apply Exists.intro;refine⟨Or.inl ⟨by rfl,?_⟩,?_⟩;(intro x hx';go_simp;first | done | with_reducible rfl)))
       (try simp only[Act.put,List.getElem_toArray,List.getElem_cons_zero,List.getElem_cons_succ,List.setIfInBounds_toArray,List.set_cons_zero,List.set_cons_succ])
       refine Z1 3 rfl (by kernel_rfl) (by kernel_rfl) (by kernel_rfl) (by kernel_rfl) (fun v c a w h=>h) hS0 ?_
       (first | (refine⟨undef,Or.inr ⟨by rfl,rfl⟩,?_⟩) | (apply Exists.intro;refine⟨Or.inl ⟨by rfl,?_⟩,?_⟩;(intro x hx';go_simp;first | done | with_reducible rfl)))
       (try simp only[Act.put,List.getElem_toArray,List.getElem_cons_zero,List.getElem_cons_succ,List.setIfInBounds_toArray,List.set_cons_zero,List.set_cons_succ])
       refine Z0 4 rfl (by kernel_rfl) (by kernel_rfl) (by kernel_rfl) (fun v c a w h=>h) ?_
       (first | (refine⟨undef,Or.inr ⟨by rfl,rfl⟩,?_⟩) | (apply Exists.intro;refine⟨Or.inl ⟨by rfl,?_⟩,?_⟩;(intro x hx';go_simp;first | done | with_reducible rfl)))
       (try simp only[Act.put,List.getElem_toArray,List.getElem_cons_zero,List.getElem_cons_succ,List.setIfInBounds_toArray,List.set_cons_zero,List.set_cons_succ])
       refine Z0 5 rfl (by kernel_rfl) (by kernel_rfl) (by kernel_rfl) (fun v c a w h=>h) ?_
       (first | (refine⟨undef,Or.inr ⟨by rfl,rfl⟩,?_⟩) | (apply Exists.intro;refine⟨Or.inl ⟨by rfl,?_⟩,?_⟩;(intro x hx';go_simp;first | done | with_reducible rfl)))
       (try simp only[Act.put,List.getElem_toArray,List.getElem_cons_zero,List.getElem_cons_succ,List.setIfInBounds_toArray,List.set_cons_zero,List.set_cons_succ])
       refine Z0 6 rfl (by kernel_rfl) (by kernel_rfl) (by kernel_rfl) (fun v c a w h=>h) ?_
       (first | (refine⟨undef,Or.inr ⟨by rfl,rfl⟩,?_⟩) | (apply Exists.intro;refine⟨Or.inl ⟨by rfl,?_⟩,?_⟩;(intro x hx';go_simp;first | done | with_reducible rfl)))
       (try simp only[Act.put,List.getElem_toArray,List.getElem_cons_zero,List.getElem_cons_succ,List.setIfInBounds_toArray,List.set_cons_zero,List.set_cons_succ])
       refine Z0 7 rfl (by kernel_rfl) (by kernel_rfl) (by kernel_rfl) (fun v c a w h=>h) ?_
       (first | (refine⟨undef,Or.inr ⟨by rfl,rfl⟩,?_⟩) | (apply Exists.intro;refine⟨Or.inl ⟨by rfl,?_⟩,?_⟩;(intro x hx';go_simp;first | done | with_reducible rfl)))
       (try simp only[Act.put,List.getElem_toArray,List.getElem_cons_zero,List.getElem_cons_succ,List.setIfInBounds_toArray,List.set_cons_zero,List.set_cons_succ])
       refine Z1 8 rfl (by kernel_rfl) (by kernel_rfl) (by kernel_rfl) (by kernel_rfl) (fun v c a w h=>h) hS0 ?_
       (first | (refine⟨undef,Or.inr ⟨by rfl,rfl⟩,?_⟩) | (apply Exists.intro;refine⟨Or.inl ⟨by rfl,?_⟩,?_⟩;(intro x hx';go_simp;first | done | with_reducible rfl)))
       (try simp only[Act.put,List.getElem_toArray,List.getElem_cons_zero,List.getElem_cons_succ,List.setIfInBounds_toArray,List.set_cons_zero,List.set_cons_succ])
       refine Z0 9 rfl (by kernel_rfl) (by kernel_rfl) (by kernel_rfl) (fun v c a w h=>h) ?_
       (first | (refine⟨undef,Or.inr ⟨by rfl,rfl⟩,?_⟩) | (apply Exists.intro;refine⟨Or.inl ⟨by rfl,?_⟩,?_⟩;(intro x hx';go_simp;first | done | with_reducible rfl)))
       (try simp only[Act.put,List.getElem_toArray,List.getElem_cons_zero,List.getElem_cons_succ,List.setIfInBounds_toArray,List.set_cons_zero,List.set_cons_succ])
       refine Z0 10 rfl (by kernel_rfl) (by kernel_rfl) (by kernel_rfl) (fun v c a w h=>h) ?_
       (first | (refine⟨undef,Or.inr ⟨by rfl,rfl⟩,?_⟩) | (apply Exists.intro;refine⟨Or.inl ⟨by rfl,?_⟩,?_⟩;(intro x hx';go_simp;first | done | with_reducible rfl)))
       (try simp only[Act.put,List.getElem_toArray,List.getElem_cons_zero,List.getElem_cons_succ,List.setIfInBounds_toArray,List.set_cons_zero,List.set_cons_succ])
       refine Z4 (by kernel_rfl) ?_ _
       refine NoPanic.normal ?_
       (try simp only[Act.put,List.getElem_toArray,List.getElem_cons_zero,List.getElem_cons_succ,List.setIfInBounds_toArray,List.set_cons_zero,List.set_cons_succ])
       have hal6:=Z5 y4 (.cells #[.int .i64 ex,.int .i64 ey] 40)
       have g6:Nw y4 (y4.alloc (.cells #[.int .i64 ex,.int .i64 ey] 40)):=(Nw.refl y4).alloc _
       obtain⟨v',w6,hr6,hO6,hg6,_,ga6,cc6,rfl⟩:=Yq.push V7 (Uf (Uf HI4.out.own hS0) g6) (ex,ey) y4.heap.size 1 (fun j u hu=>by
        rw[Z2 hal6]
        simpa [Zi] using hu) (by have:=HI4.out.on.len;omega) ((HI4.out.nw.trans hS0).trans g6).sz
       have HI6:=hD0 (show OnI W0 l (.slice (some ⟨ga6,0,none⟩) (out.length+1) cc6) k1 (out++[(ex,ey)]) w6 from⟨hO6,((HI4.out.nw.trans hS0).trans g6).gro hg6 (fun b e=>oge HI4.out.own e),by rw[←HK1.out];exact HO.out⟩)
       have HR6:=hD0 hr6
       have hb0:=tB0 y4 hS0
       have hb1:=tB1 y4 hS0
       have hBl:=lL0 (Go.Proofs.Ytpmlaphjlghpmaa.hlt HAL.out) hS0.sz
       clear hal6 g6 hr6 hO6 hg6 hS0 tB0 tB1 HI4 ty0 ty1
       go_wp2_with (at_builtin;refine Zg (by rfl) (.tmp 24) (.tmp 26) 33 rfl _ _ _ _ rfl rfl HR6.out ?_)
       go_roundw
       case rel=>exact⟨k1,out++[(ex,ey)],some ⟨ga6,0,none⟩,out.length+1,cc6,rfl,rfl,by rw[←HK1.out];exact hlt,HI6⟩
       case measure=>rw[←HK1.out];exact V5 hlt
      ·have hx1:(ex==fx)=false:=by simpa using hx
       clear hxy
       refine Z8 [] (Nw w4) (by kernel_rfl) ?_
       change Z7 _ _ _ _ _ _ 11 #[false,false,false,false,false,false,false,false,false,false,false] _ w4.drew
       obtain⟨y4,hy4⟩:∃y,w4.drew=y:=⟨_,rfl⟩
       rw[hy4]
       have hS0:Nw w4 y4:=by rw[←hy4];exact(Nw.refl w4).dr
       clear hy4
       refine Z0 0 rfl (by kernel_rfl) (by kernel_rfl) (by kernel_rfl) (fun v c a w h=>h) ?_
       (first | (refine⟨undef,Or.inr ⟨by rfl,rfl⟩,?_⟩) | (apply Exists.intro;refine⟨Or.inl ⟨by rfl,?_⟩,?_⟩;(intro x hx';go_simp;first | done | with_reducible rfl)))
       (try simp only[Act.put,List.getElem_toArray,List.getElem_cons_zero,List.getElem_cons_succ,List.setIfInBounds_toArray,List.set_cons_zero,List.set_cons_succ])
       refine Z0 1 rfl (by kernel_rfl) (by kernel_rfl) (by kernel_rfl) (fun v c a w h=>h) ?_
       (first | (refine⟨undef,Or.inr ⟨by rfl,rfl⟩,?_⟩) | (apply Exists.intro;refine⟨Or.inl ⟨by rfl,?_⟩,?_⟩;(intro x hx';go_simp;first | done | with_reducible rfl)))
       (try simp only[Act.put,List.getElem_toArray,List.getElem_cons_zero,List.getElem_cons_succ,List.setIfInBounds_toArray,List.set_cons_zero,List.set_cons_succ])
       refine Z0 2 rfl (by kernel_rfl) (by kernel_rfl) (by kernel_rfl) (fun v c a w h=>h) ?_
       (first | (refine⟨undef,Or.inr ⟨by rfl,rfl⟩,?_⟩) | (apply Exists.intro;refine⟨Or.inl ⟨by rfl,?_⟩,?_⟩;(intro x hx';go_simp;first | done | with_reducible rfl)))
       (try simp only[Act.put,List.getElem_toArray,List.getElem_cons_zero,List.getElem_cons_succ,List.setIfInBounds_toArray,List.set_cons_zero,List.set_cons_succ])
       refine Z1 3 rfl (by kernel_rfl) (by kernel_rfl) (by kernel_rfl) (by kernel_rfl) (fun v c a w h=>h) hS0 ?_
       (first | (refine⟨undef,Or.inr ⟨by rfl,rfl⟩,?_⟩) | (apply Exists.intro;refine⟨Or.inl ⟨by rfl,?_⟩,?_⟩;(intro x hx';go_simp;first | done | with_reducible rfl)))
       (try simp only[Act.put,List.getElem_toArray,List.getElem_cons_zero,List.getElem_cons_succ,List.setIfInBounds_toArray,List.set_cons_zero,List.set_cons_succ])
       refine Z0 4 rfl (by kernel_rfl) (by kernel_rfl) (by kernel_rfl) (fun v c a w h=>h) ?_
       (first | (refine⟨undef,Or.inr ⟨by rfl,rfl⟩,?_⟩) | (apply Exists.intro;refine⟨Or.inl ⟨by rfl,?_⟩,?_⟩;(intro x hx';go_simp;first | done | with_reducible rfl)))
       (try simp only[Act.put,List.getElem_toArray,List.getElem_cons_zero,List.getElem_cons_succ,List.setIfInBounds_toArray,List.set_cons_zero,List.set_cons_succ])
       refine Z0 5 rfl (by kernel_rfl) (by kernel_rfl) (by kernel_rfl) (fun v c a w h=>h) ?_
       (first | (refine⟨undef,Or.inr ⟨by rfl,rfl⟩,?_⟩) | (apply Exists.intro;refine⟨Or.inl ⟨by rfl,?_⟩,?_⟩;(intro x hx';go_simp;first | done | with_reducible rfl)))
       (try simp only[Act.put,List.getElem_toArray,List.getElem_cons_zero,List.getElem_cons_succ,List.setIfInBounds_toArray,List.set_cons_zero,List.set_cons_succ])
       refine Z0 6 rfl (by kernel_rfl) (by kernel_rfl) (by kernel_rfl) (fun v c a w h=>h) ?_
       (first | (refine⟨undef,Or.inr ⟨by rfl,rfl⟩,?_⟩) | (apply Exists.intro;refine⟨Or.inl ⟨by rfl,?_⟩,?_⟩;(intro x hx';go_simp;first | done | with_reducible rfl)))
       (try simp only[Act.put,List.getElem_toArray,List.getElem_cons_zero,List.getElem_cons_succ,List.setIfInBounds_toArray,List.set_cons_zero,List.set_cons_succ])
       refine Z0 7 rfl (by kernel_rfl) (by kernel_rfl) (by kernel_rfl) (fun v c a w h=>h) ?_
       (first | (refine⟨undef,Or.inr ⟨by rfl,rfl⟩,?_⟩) | (apply Exists.intro;refine⟨Or.inl ⟨by rfl,?_⟩,?_⟩;(intro x hx';go_simp;first | done | with_reducible rfl)))
       (try simp only[Act.put,List.getElem_toArray,List.getElem_cons_zero,List.getElem_cons_succ,List.setIfInBounds_toArray,List.set_cons_zero,List.set_cons_succ])
       refine Z1 8 rfl (by kernel_rfl) (by kernel_rfl) (by kernel_rfl) (by kernel_rfl) (fun v c a w h=>h) hS0 ?_
       (first | (refine⟨undef,Or.inr ⟨by rfl,rfl⟩,?_⟩) | (apply Exists.intro;refine⟨Or.inl ⟨by rfl,?_⟩,?_⟩;(intro x hx';go_simp;first | done | with_reducible rfl)))
       (try simp only[Act.put,List.getElem_toArray,List.getElem_cons_zero,List.getElem_cons_succ,List.setIfInBounds_toArray,List.set_cons_zero,List.set_cons_succ])
       refine Z0 9 rfl (by kernel_rfl) (by kernel_rfl) (by kernel_rfl) (fun v c a w h=>h) ?_
       (first | (refine⟨undef,Or.inr ⟨by rfl,rfl⟩,?_⟩) | (apply Exists.intro;refine⟨Or.inl ⟨by rfl,?_⟩,?_⟩;(intro x hx';go_simp;first | done | with_reducible rfl)))
       (try simp only[Act.put,List.getElem_toArray,List.getElem_cons_zero,List.getElem_cons_succ,List.setIfInBounds_toArray,List.set_cons_zero,List.set_cons_succ])
       refine Z0 10 rfl (by kernel_rfl) (by kernel_rfl) (by kernel_rfl) (fun v c a w h=>h) ?_
       (first | (refine⟨undef,Or.inr ⟨by rfl,rfl⟩,?_⟩) | (apply Exists.intro;refine⟨Or.inl ⟨by rfl,?_⟩,?_⟩;(intro x hx';go_simp;first | done | with_reducible rfl)))
       (try simp only[Act.put,List.getElem_toArray,List.getElem_cons_zero,List.getElem_cons_succ,List.setIfInBounds_toArray,List.set_cons_zero,List.set_cons_succ])
       refine Z4 (by kernel_rfl) ?_ _
       refine NoPanic.normal ?_
       (try simp only[Act.put,List.getElem_toArray,List.getElem_cons_zero,List.getElem_cons_succ,List.setIfInBounds_toArray,List.set_cons_zero,List.set_cons_succ])
       have hal6:=Z5 y4 (.cells #[.int .i64 ex,.int .i64 ey] 40)
       have g6:Nw y4 (y4.alloc (.cells #[.int .i64 ex,.int .i64 ey] 40)):=(Nw.refl y4).alloc _
       obtain⟨v',w6,hr6,hO6,hg6,_,ga6,cc6,rfl⟩:=Yq.push V7 (Uf (Uf HI4.out.own hS0) g6) (ex,ey) y4.heap.size 1 (fun j u hu=>by
        rw[Z2 hal6]
        simpa [Zi] using hu) (by have:=HI4.out.on.len;omega) ((HI4.out.nw.trans hS0).trans g6).sz
       have HI6:=hD0 (show OnI W0 l (.slice (some ⟨ga6,0,none⟩) (out.length+1) cc6) k1 (out++[(ex,ey)]) w6 from⟨hO6,((HI4.out.nw.trans hS0).trans g6).gro hg6 (fun b e=>oge HI4.out.own e),by rw[←HK1.out];exact HO.out⟩)
       have HR6:=hD0 hr6
       have hb0:=tB0 y4 hS0
       have hb1:=tB1 y4 hS0
       have hBl:=lL0 (Go.Proofs.Ytpmlaphjlghpmaa.hlt HAL.out) hS0.sz
       clear hal6 g6 hr6 hO6 hg6 hS0 tB0 tB1 HI4 ty0 ty1
       go_wp2_with (at_builtin;refine Zg (by rfl) (.tmp 24) (.tmp 26) 33 rfl _ _ _ _ rfl rfl HR6.out ?_)
       go_roundw
       case rel=>exact⟨k1,out++[(ex,ey)],some ⟨ga6,0,none⟩,out.length+1,cc6,rfl,rfl,by rw[←HK1.out];exact hlt,HI6⟩
       case measure=>rw[←HK1.out];exact V5 hlt
  ·obtain rfl:k=n:=Nat.le_antisymm hkn (Nat.le_of_not_lt hlt)
   have V4:¬k<k:=Nat.lt_irrefl k
   clear hlt
   go_wp2
   go_ret
   exact⟨_,out,rfl,HI.out.own,HI.out.nw,HI.out.on⟩
theorem Weak.of{l:List (Int × Int)}(h:l.Pairwise fun a b=>ltOf Z2k b a=false):Z4k l:=h.imp (fun {a b} q=>by
 rw[U9] at q
 exact of_decide_eq_false q)
theorem Z00{w:World}{v:Value}{l:List (Int × Int)}(h:Y4 w v l)(hl:l.length≤5000) :
  Calls prog 14 #[v] w fun e w'=>∃v',e=.returned v'∧Z9 w' w.heap.size v' (sortE l)∧Nw w w':=by
 have HC:=hD0 (Z4z v l w (Nat.le_trans hl (by decide)) h)
 obtain⟨a,c,rfl⟩:=h.form
 have HL:=hD0 hl
 clear h hl
 go_enter func14,ntmps14
 go_wp2_with fail
 refine HC.out.mono ?_
 rintro e w1 ⟨v1,rfl,g1,hO1⟩
 rcases Yt hO1 with⟨rfl,hz⟩ | ⟨g,cap,rfl⟩
 ·have hl0:l=[]:=List.length_eq_zero_iff.1 hz
  have HS:=hD0 (AnyF.slices_SortFunc_none (P:=prog) { Try.sortE with } none 0 (.func (.func 33) #[] #[]) w1)
  have HOn:=hD0 (Z0r (W0:=w1) (v:=.slice none 0 0) (l:=[]) (Rd.nil w1) (by simp) List.Pairwise.nil)
  have HG:=hD0 (aI0 g1 hl0)
  clear g1 hl0 hO1 hz HC
  go_wp2_with fail
  refine Calls.mono HS.out ?_
  rintro e w2 ⟨rfl,rfl⟩
  go_wp2_with fail
  refine HOn.out.mono ?_
  rintro e w3 ⟨v3,out,rfl,hO,hN,hP⟩
  have HE:=hD0 (show Z9 w3 w.heap.size v3 (sortE l)∧Nw w w3 from by
   have e:out=[]:=by
    have:=hP.len
    exact List.length_eq_zero_iff.1 (Nat.le_zero.1 this)
   rw[HG.out.2]
   subst e
   exact⟨Z6y hO (fun b q=>by have:=oge hO q;have:=HG.out.1.sz;omega),HG.out.1.trans hN⟩)
  clear hO hN hP
  go_wp2
  go_ret
  exact⟨_,rfl,HE.out.1,HE.out.2⟩
 ·have HS:=hD0 (Z4g V7 (ρ:=_) { Try.sortE with } (by intro w;kernel_rfl) (by intro w;kernel_rfl) Z2k Z4r 33 Z50 Z0d _ g cap l w1 hO1 (Nat.le_trans HL.out (by decide)))
  have HG:=hD0 (aI0 g1 (oge hO1 (g:=g) rfl))
  clear g1 hO1 HC
  go_wp2_with fail
  refine Calls.mono HS.out ?_
  rintro e w2 ⟨rfl,l2,hp,hs,hO2,ht⟩
  have hl2:l2.length=l.length:=hp.length_eq
  have hO2':=hO2
  rw[hl2] at hO2'
  have g2:Nw w w2:=Zf HG.out.1 ht (fun i e=>by subst e;exact HG.out.2)
  have HOn:=hD0 (Z0r (W0:=w2) (v:=.slice (some ⟨g,0,none⟩) l2.length cap) (l:=l2) (Z9.at_ hO2) (by rw[hl2];exact HL.out) (Weak.of hs))
  rw[hl2] at HOn
  have HG2:=hD0 (aI0 g2 (aI0 hp hl2))
  clear g2 hp hs hO2 hO2' ht hl2 HS HG
  go_wp2_with fail
  refine HOn.out.mono ?_
  rintro e w3 ⟨v3,out,rfl,hO,hN,hP⟩
  have HE:=hD0 (show Z9 w3 w.heap.size v3 (sortE l)∧Nw w w3 from by
   have e:=hP.done (Nat.le_of_eq HG2.out.2.2) HG2.out.2.1
   subst e
   exact⟨Z6y hO (fun b q=>by have:=oge hO q;have:=HG2.out.1.sz;omega),HG2.out.1.trans hN⟩)
  clear hO hN hP
  go_wp2
  go_ret
  exact⟨_,rfl,HE.out.1,HE.out.2⟩
theorem Yo{w:World}{v:Value}{l:List (Int × Int)}(h:Y4 w v l)(hl:l.length≤1000) :
  Calls prog 14 #[v] w fun e w'=>∃v',e=.returned v'∧Z9 w' w.heap.size v' (sortE l)∧Nw w w':=Z00 h (Nat.le_trans hl (by decide))
end
section
variable {E:List (Int × Int)} {a:Int} {W:List (List Int)} {h i:Nat}
theorem BI.suf(b:BI E a W h i):∀(n:Nat) (r:List Int),r.length=n→r∈([]::W)→∀j,j<r.length→r.drop j∈W
 | 0,r,hn,_,j,hj=>by omega
 | n+1,r,hn,hr,j,hj=>by
  have hrW:r∈W:=by
   rcases List.mem_cons.1 hr with e | e
   ·rw[e] at hn;simp at hn
   ·exact e
  cases j with
  | zero=>exact hrW
  | succ j =>
   obtain⟨y,k,r0,rfl,h2,_⟩:=b.org r hrW
   exact b.suf n r0 (by simpa using hn) (List.mem_of_getElem? h2) j (by simpa using hj)
theorem BI.heads(b:BI E a W h i){r:List Int}(hr:r∈([]::W)):∀x∈r,x∈W.map (Zj a):=by
 intro x hx
 obtain⟨j,hj,e⟩:=List.getElem_of_mem hx
 have:=b.suf r.length r rfl hr j hj
 refine List.mem_map.2 ⟨_,this,?_⟩
 rw[←List.getElem_cons_drop hj]
 exact e
theorem BI.inE(b:BI E a W h i):∀x∈W.map (Zj a),∃e∈E,e.2=x:=by
 intro x hx
 obtain⟨r,hr,rfl⟩:=List.mem_map.1 hx
 cases(b.rp r hr).1 with
 | nil=>exact absurd rfl (b.rp _ hr).2
 | cons p k=>exact⟨_,k,rfl⟩
end
theorem Z5d{α β:Type}{f:α→β}:∀ {W:List α},(W.map f).Nodup→∀ {q q':α},q∈W→q'∈W→f q=f q'→q=q'
 | [],_,_,_,h,_,_=>nomatch h
 | x::W,hn,q,q',h,h',e=>by
  rw[List.map_cons,List.nodup_cons] at hn
  rcases List.mem_cons.1 h with rfl | k
  ·rcases List.mem_cons.1 h' with rfl | k'
   ·rfl
   ·exact absurd (List.mem_map.2 ⟨q',k',e.symm⟩) hn.1
  ·rcases List.mem_cons.1 h' with rfl | k'
   ·exact absurd (List.mem_map.2 ⟨q,k,e⟩) hn.1
   ·exact Z5d hn.2 k k' e
theorem BI.wlen{E:List (Int × Int)}{a:Int}{W:List (List Int)}{h i:Nat}(b:BI E a W h i){r:List Int}(hr:r∈([]::W)):r.length≤E.length:=by
 have hnd:r.Nodup:=by
  rw[List.nodup_iff_pairwise_ne,List.pairwise_iff_getElem]
  intro x y hx hy hxy e
  have h1:=b.suf r.length r rfl hr x hx
  have h2:=b.suf r.length r rfl hr y hy
  have e1:Zj a (r.drop x)=r[x]:=by rw[←List.getElem_cons_drop hx];rfl
  have e2:Zj a (r.drop y)=r[y]:=by rw[←List.getElem_cons_drop hy];rfl
  have h3:=Z5d b.nd h1 h2 (by rw[e1,e2,e])
  have:=congrArg List.length h3
  simp at this
  omega
 have h1:=Uo hnd (b.heads hr)
 have h2:=b.size
 rw[List.length_map] at h1
 omega
def Z3q(l:List (Int × Int))(a:Int)(out:List Int):Prop:=out.Pairwise (·<·)∧∀y,y∈out↔Ya l a y
def Uh(l:List (Int × Int))(c:List Int)(b:Bool):Prop :=
 (b=true↔∃v,Ya l v v)∧(b=false→c=[])∧(b=true→∃a r,c=a::r∧Ya l a a∧(∀v,Ya l v v→a≤v)∧Far l a a (r.length+1)∧Greedy l a a (r.length+1) r)
theorem Y8{l m:List (Int × Int)}(h:∀x,x∈l↔x∈m){a b:Int}:Ya l a b↔Ya m a b:=⟨Z27 fun x=>(h x).1,Z27 fun x=>(h x).2⟩
theorem Z2g{l m:List (Int × Int)}(h:∀x∈l,x∈m){a b:Int}{n:Nat}(w:Way l a n b):Way m a n b:=by
 induction w with
 | one k=>exact .one (h _ k)
 | step k _ ih=>exact .step (h _ k) ih
theorem Uk{l m:List (Int × Int)}(h:∀x,x∈l↔x∈m){a b:Int}{n:Nat}(f:Far l a b n):Far m a b n :=
 ⟨Z2g (fun x=>(h x).1) f.1,fun k w=>f.2 k (Z2g (fun x=>(h x).2) w)⟩
theorem Z1v{l m:List (Int × Int)}(h:∀x,x∈l↔x∈m){a b:Int}{n:Nat}{r:List Int}(g:Greedy l b a n r):Greedy m b a n r:=by
 induction g with
 | last k=>exact .last ((h _).1 k)
 | step k f mn _ ih=>exact .step ((h _).1 k) (Uk h f) (fun y hy fy=>mn y ((h _).2 hy) (Uk (fun x=>(h x).symm) fy)) ih
theorem Z0f{l m:List (Int × Int)}(h:∀x,x∈l↔x∈m){c:List Int}{b:Bool}(p:Uh l c b):Uh m c b:=by
 obtain⟨p1,p2,p3⟩:=p
 refine⟨p1.trans ⟨fun⟨v,q⟩=>⟨v,(Y8 h).1 q⟩,fun⟨v,q⟩=>⟨v,(Y8 h).2 q⟩⟩,p2,fun hb=>?_⟩
 obtain⟨a,r,e,q1,q2,q3,q4⟩:=p3 hb
 exact⟨a,r,e,(Y8 h).1 q1,fun v q=>q2 v ((Y8 h).2 q),Uk h q3,Z1v h q4⟩
theorem Yy{l:List (Int × Int)}{c c':List Int}{b b':Bool}(p:Uh l c b)(p':Uh l c' b'):c=c'∧b=b':=by
 obtain⟨p1,p2,p3⟩:=p
 obtain⟨q1,q2,q3⟩:=p'
 have hb:b=b':=by
  have:b=true↔b'=true:=p1.trans q1.symm
  cases b<;>cases b'<;>simp_all
 subst hb
 refine⟨?_,rfl⟩
 cases b with
 | false=>rw[p2 rfl,q2 rfl]
 | true =>
  obtain⟨a,r,rfl,h1,h2,h3,h4⟩:=p3 rfl
  obtain⟨a',r',rfl,k1,k2,k3,k4⟩:=q3 rfl
  obtain rfl:=Int.le_antisymm (h2 _ k1) (k2 _ h1)
  rw[Z58 k3 h3] at k4
  rw[Z1w h4 k4]
theorem Z6j{l:List (Int × Int)}{a:Int}{r:List Int}(h1:Ya l a a)(h2:∀v,Ya l v v→a≤v)(h3:Lst l a a r):Uh l (a::r.reverse) true:=by
 refine⟨⟨fun _=>⟨a,h1⟩,fun _=>rfl⟩,(fun h=>nomatch h),fun _=>⟨a,r.reverse,rfl,h1,h2,?_,?_⟩⟩
 ·rw[List.length_reverse];exact Z3e h3
 ·rw[List.length_reverse];exact Un r.length rfl h3
theorem Z37{l:List (Int × Int)}(h:¬∃v,Ya l v v):Uh l [] false:=⟨⟨(fun q=>nomatch q),fun q=>absurd q h⟩,fun _=>rfl,(fun q=>nomatch q)⟩
def Vy(t:Int)(l:List Int):List (Int × Int):=l.map fun y=>(t,y)
theorem Z03(t:Int)(l:List Int):(Vy t l).length=l.length:=by simp[Vy]
def edR(q:List Rq)(r:Rq):List (Int × Int):=if 0<r.sn then Vy r.txn (Vp q r.id) else[]
def edH(q:List Rq)(k:Nat):List (Int × Int):=(q.take k).flatMap (edR q)
section
variable {W:Int} {q:List Rq} (h:Ok W q)
include h
end
theorem Z83{w:World}{g n cap:Nat}{l:List Int}(h:IS w (.slice (some ⟨g,0,none⟩) n cap) l){i:Nat}(hi:i<l.length):w.cell? ⟨g,i,none⟩=some (.int .i64 l[i]):=by
 rw[h.cell i hi,List.getD_eq_getElem?_getD,List.getElem?_eq_getElem hi];rfl
structure TwI(W0:World)(t:Int)(l:List Int)(v:Value)(k:Nat)(w:World):Prop where
 own:Z9 w W0.heap.size v (Vy t (l.take k))
 nw:Nw W0 w
theorem Z31{w0:World}{v:Value}{l:List Int}(h:IS w0 v l)(hl:l.length≤1000)(t:Int) :
  Calls prog 20 #[.int .i64 t,v] w0 fun e w'=>∃v',e=.returned v'∧Z9 w' w0.heap.size v' (Vy t l)∧Nw w0 w':=by
 obtain⟨la,lc,rfl,hla⟩:=h.box
 have HLA:=hD0 hla
 have HL:=hD0 h
 obtain⟨n,hn⟩:∃n,l.length=n:=⟨_,rfl⟩
 have HN:=hD0 hn
 rw[hn] at hl ⊢
 clear h hla hn
 go_enter func20,ntmps20
 go_wp2_with fail
 go_loopw [5,10] (fun v5 v10 wr=>∃(k:Nat) (a:Option Addr) (b c:Nat),v5=.slice a b c∧v10=.int .i64 k∧k≤n∧Hid (TwI w0 t l (.slice a b c) k wr)) (fun _ v10 _=>n-(intOf v10).toNat)
 case atStart=>exact⟨0,none,0,0,rfl,rfl,Nat.zero_le _,hD0 ⟨World.ownsRow_nil _ _ _ _,Nw.refl _⟩⟩
 case round =>
  obtain⟨k,sa,sb,sc,rfl,rfl,hkn,HI⟩:=hrel
  by_cases hlt:k<n
  ·have hkl:k<l.length:=by rw[HN.out];exact hlt
   obtain⟨lg,rfl,_⟩:=HLA.out (by omega)
   have cy:=Z83 (HL.out.nw HI.out.nw) hkl
   obtain⟨y,hy⟩:∃y,l[k]=y:=⟨_,rfl⟩
   rw[hy] at cy
   have V4:=Yf hlt
   have hw:=Ys k (k+1) (Nat.le_trans (Nat.le_of_lt hlt) (Nat.le_trans hl (by decide))) rfl
   obtain⟨k1,hk1⟩:∃m,k+1=m:=⟨_,rfl⟩
   have HK1:=hD0 (aI0 hk1 hlt)
   have htk:Vy t (l.take k1)=Vy t (l.take k)++[(t,y)]:=by
    rw[←hk1,←hy,List.take_succ_eq_append_getElem hkl]
    simp only[Vy,List.map_append,List.map_cons,List.map_nil]
   rw[hk1] at hw
   have hal6:=Z5 wr (.cells #[.int .i64 t,.int .i64 y] 40)
   have g6:Nw wr (wr.alloc (.cells #[.int .i64 t,.int .i64 y] 40)):=(Nw.refl wr).alloc _
   obtain⟨v',w6,hr6,hO6,hg6,_,ga6,cc6,rfl⟩:=Yq.push V7 (Uf HI.out.own g6) (t,y) wr.heap.size 1 (fun j u hu=>by
    rw[Z2 hal6]
    simpa [Zi] using hu) (by rw[Z03,List.length_take];omega) (HI.out.nw.trans g6).sz
   have HI6:=hD0 (show TwI w0 t l (.slice (some ⟨ga6,0,none⟩) ((Vy t (l.take k)).length+1) cc6) k1 w6 from⟨by rw[htk];exact hO6,(HI.out.nw.trans g6).gro hg6 (fun b e=>oge HI.out.own e)⟩)
   have HR6:=hD0 hr6
   clear hal6 g6 hr6 hO6 hg6 HI hk1 hy htk hkl hlt
   go_wp2_with (at_builtin;refine Zg (by rfl) (.tmp 14) (.tmp 18) 33 rfl _ _ _ _ rfl rfl HR6.out ?_)
   exact⟨⟨k1,some ⟨ga6,0,none⟩,_,cc6,rfl,rfl,by rw[←HK1.out.1];exact HK1.out.2,HI6⟩,by rw[←HK1.out.1];exact V5 HK1.out.2⟩
  ·obtain rfl:k=n:=Nat.le_antisymm hkn (Nat.le_of_not_lt hlt)
   have V4:¬k<k:=Nat.lt_irrefl k
   have HO:=hD0 (show Z9 wr w0.heap.size (.slice sa sb sc) (Vy t l)∧Nw w0 wr from by
    have:=HI.out.own
    rw[List.take_of_length_le (by rw[HN.out];exact Nat.le_refl k)] at this
    exact⟨this,HI.out.nw⟩)
   clear hlt HI
   go_wp2
   go_ret
   exact⟨_,rfl,HO.out.1,HO.out.2⟩
def Z2r(a:Rq):Prop:=a.md≠0∧0<a.sn
theorem Z93(m:Int):Yk m=false↔m<0∨7≤m:=by
 rw[Bool.eq_false_iff,ne_eq,V1];omega
theorem Z14(m:Int)(w:World):Calls prog 37 #[.int .i64 m] w fun e w'=>e=.returned (.bool (Yk m))∧w=w':=by
 cases h:Yk m with
 | true =>
  rw[V1] at h
  obtain⟨h0,h1⟩:=h
  have h2:m≤6:=by omega
  go_enter func37,ntmps37
  go_wp2
  go_ret
  exact⟨rfl,rfl⟩
 | false =>
  rw[Z93] at h
  rcases h with h | h
  ·go_enter func37,ntmps37
   go_wp2
   go_ret
   exact⟨rfl,rfl⟩
  ·have h0:0≤m:=by omega
   have hd:decide (m≤6)=false:=by simp;omega
   go_enter func37,ntmps37
   go_wp2
   go_ret
   exact⟨rfl,rfl⟩
theorem Um{m:Int}(h:Yk m=true):m=0∨m=1∨m=2∨m=3∨m=4∨m=5∨m=6:=by
 rw[V1] at h;omega
theorem Z7p(m:Int)(h:Yk m=true)(w:World):Calls prog 37 #[.int .i64 m] w fun e w'=>e=.returned (.bool true)∧w=w':=by
 have:=Z14 m w;rwa [h] at this
theorem Z7o(m:Int)(h:Yk m=false)(w:World):Calls prog 37 #[.int .i64 m] w fun e w'=>e=.returned (.bool false)∧w=w':=by
 have:=Z14 m w;rwa [h] at this
def Z9o:List ByteArray:=[⟨#[43,43,43,43,43,43,43]⟩,⟨#[43,43,43,43,43,43,46]⟩,⟨#[43,43,43,46,46,46,46]⟩,⟨#[43,43,46,43,46,43,46]⟩,⟨#[43,43,46,46,46,46,46]⟩,⟨#[43,43,46,43,46,46,46]⟩,⟨#[43,46,46,46,46,46,46]⟩]
theorem Z97(a:Int)(h:Yk a=true)(w:World):Calls prog 56 #[.int .i64 a] w fun e w'=>e=.returned (.string (Z9o.getD a.toNat ByteArray.empty))∧Nw w w':=by
 rcases Um h with rfl | rfl | rfl | rfl | rfl | rfl | rfl
 all_goals
  go_enter func56,ntmps56
  go_wp2
  go_ret
  exact⟨rfl,(Nw.refl _).alloc _⟩
theorem Z48(a b:Int)(ha:Yk a=true)(hb:Yk b=true)(w:World):Calls prog 40 #[.int .i64 a,.int .i64 b] w fun e w'=>e=.returned (.bool (Vq a b))∧Nw w w':=by
 have hr:=Z97 a ha
 rcases Um ha with rfl | rfl | rfl | rfl | rfl | rfl | rfl<;>rcases Um hb with rfl | rfl | rfl | rfl | rfl | rfl | rfl
 all_goals
  go_enter func40,ntmps40
  go_wp2_with (first | (go_at_call 37;refine(Z7p _ rfl _).mono ?_;rintro e w' ⟨rfl,rfl⟩) | (go_at_call 56;refine(hr _).mono ?_;rintro e w' ⟨rfl,hg⟩))
  go_ret
  exact⟨rfl,hg⟩
theorem Z89(a b:Int)(w:World):Calls prog 40 #[.int .i64 a,.int .i64 b] w fun e w'=>e=.returned (.bool (Vq a b))∧Nw w w':=by
 cases ha:Yk a with
 | true =>
  cases hb:Yk b with
  | true=>exact Z48 a b ha hb w
  | false =>
   have hc:Vq a b=false:=by simp[Vq,hb]
   rw[hc]
   have HA:=hD0 (Z7p a ha)
   have HB:=hD0 (Z7o b hb)
   clear ha hb hc
   go_enter func40,ntmps40
   go_wp2_with fail
   refine(HA.out _).mono ?_
   rintro e w' ⟨rfl,rfl⟩
   go_wp2_with fail
   refine(HB.out _).mono ?_
   rintro e w' ⟨rfl,rfl⟩
   go_wp2
   go_ret
   exact⟨rfl,Nw.refl _⟩
 | false =>
  have hc:Vq a b=false:=by simp[Vq,ha]
  rw[hc]
  have HA:=hD0 (Z7o a ha)
  clear ha hc
  go_enter func40,ntmps40
  go_wp2_with fail
  refine(HA.out _).mono ?_
  rintro e w' ⟨rfl,rfl⟩
  go_wp2
  go_ret
  exact⟨rfl,Nw.refl _⟩
def Z2a(r:Rq):List Value:=[.int .i64 r.id,.int .i64 r.txn,.int .i64 r.md,.int .i64 r.wt,.int .i64 r.sn]
def Ug(r:Rq):Value:=.agg #[.int .i64 r.id,.int .i64 r.txn,.int .i64 r.md,.int .i64 r.wt,.int .i64 r.sn]
def Ua(t r:Int)(v:Value)(W:Int):Value:=.agg #[.int .i64 t,.int .i64 r,v,.int .i64 W]
theorem Z55:Z07 prog 25 49 5 40 Z2a where
 und:=underlying25
 inf:=by
  have h:(prog.info? 49).map (fun i=>(i.zero,i.size,i.bytes))=some (some (.agg #[.int .i64 0,.int .i64 0,.int .i64 0,.int .i64 0,.int .i64 0]),5,40):=by kernel_rfl
  cases e:prog.info? 49 with
  | none=>rw[e] at h;cases h
  | some i =>
   rw[e] at h
   simp only[Option.map_some,Option.some.injEq,Prod.mk.injEq] at h
   exact⟨i,_,rfl,h.1,h.2.1,h.2.2,rfl⟩
 pos:=by decide
 byt:=by decide
 len:=fun _=>rfl
 one:=fun a u hu=>by
  simp only[Z2a,List.mem_cons,List.not_mem_nil,or_false] at hu
  rcases hu with rfl | rfl | rfl | rfl | rfl<;>rfl
abbrev Y7:=Rd 5 Z2a
abbrev Zn(w:World)(g0:Nat)(v:Value)(q:List Rq):Prop:=Yq 49 5 Z2a w g0 v q
theorem Zn.rd{w:World}{g0:Nat}{v:Value}{q:List Rq}(h:Zn w g0 v q):Y7 w v q:=Yq.rd (fun _=>rfl) h
structure Z1d(w:World)(p:Nat)(t r:Int)(v:Value)(W:Int):Prop where
 lt:p<w.heap.size
 c0:w.cell? ⟨p,0,none⟩=some (.int .i64 t)
 c1:w.cell? ⟨p,1,none⟩=some (.int .i64 r)
 c2:w.cell? ⟨p,2,none⟩=some v
 c3:w.cell? ⟨p,3,none⟩=some (.int .i64 W)
theorem Z1d.nw{w w':World}{p:Nat}{t r:Int}{v:Value}{W:Int}(h:Z1d w p t r v W)(g:Nw w w'):Z1d w' p t r v W :=
 ⟨lL0 h.lt g.sz,(g.cell h.lt).trans h.c0,(g.cell h.lt).trans h.c1,(g.cell h.lt).trans h.c2,(g.cell h.lt).trans h.c3⟩
theorem Z1d.made(w:World)(t r:Int)(v:Value)(W:Int)(T:TypeId):Z1d (w.alloc (.cells #[.int .i64 t,.int .i64 r,v,.int .i64 W] T)) w.heap.size t r v W:=by
 have h:=Z5 w (.cells #[.int .i64 t,.int .i64 r,v,.int .i64 W] T)
 exact⟨hlt h,Z2 h,Z2 h,Z2 h,Z2 h⟩
theorem Vj(a b m wn s:Int)(w:World):Calls prog 38 #[.agg #[.int .i64 a,.int .i64 b,.int .i64 m,.int .i64 wn,.int .i64 s]] w fun e w'=>e=.returned (.bool (m != 0))∧Nw w w':=by
 go_enter func38,ntmps38
 go_wp2
 go_ret
 exact⟨rfl,(Nw.refl _).alloc _⟩
theorem Z76(a b m wn s:Int)(w:World):Calls prog 39 #[.agg #[.int .i64 a,.int .i64 b,.int .i64 m,.int .i64 wn,.int .i64 s]] w fun e w'=>e=.returned (.bool (decide (0<s)))∧Nw w w':=by
 go_enter func39,ntmps39
 go_wp2
 go_ret
 exact⟨rfl,(Nw.refl _).alloc _⟩
theorem Z75(m:Int)(w:World):Calls prog 15 #[.int .i64 m] w fun e w'=>e=.returned (.bool ((m != 0)&&Yk m))∧Nw w w':=by
 cases h:(m != 0) with
 | false =>
  go_enter func15,ntmps15
  go_wp2
  go_ret
  exact⟨rfl,Nw.refl _⟩
 | true =>
  have HK:=hD0 (Z14 m)
  go_enter func15,ntmps15
  go_wp2_with (go_at_call 37;refine(HK.out _).mono ?_;rintro e w' ⟨rfl,rfl⟩)
  go_ret
  exact⟨rfl,Nw.refl _⟩
section
open Go
def Zo(ops:Array Oper)(o:Oper):Option Tmp × List Tmp × List Nat:=(o.dst,o.looksAt ops,(o.after.toList.filter (Region.binds .any)).map (·.on))
def Z0m(k:Nat)(x y:Option Tmp × List Tmp × List Nat):Bool :=
 y.2.2.contains k || ((match x.1 with
  | some d=>!y.2.1.contains d&&y.1 != some d
  | none=>true)&&(match y.1 with
  | some d=>!x.2.1.contains d
  | none=>true))
end
end Go.Proofs.Ytpmlaphjlghpmaa
