/- Texts merged: WcM, WdI, WdG, WeM, WeA, WeD, QuJ, QvC, QsA, QuN, QvO, Shelf, QvP, WdH -/
import Derived.Test.YtbnpnccpobkodaaVictimBreaksB5
import Derived.Shelf.Small.Bits
import Derived.Shelf.Small.Wraps
import Derived.Shelf.Strconv.Itoa0
import Derived.Shelf.Slices.Turned
import Derived.Shelf.Slices.Reverse
import Derived.Shelf.Slices.Cells
import Derived.Test.YtbnpnccpobkodaaProg
import Derived.Maps.RangeWalk
import Derived.Deep.RegionLaw
import Derived.Lib.SliceRun
import Derived.Deep.Upon
import Derived.Sort.OwnSortedInts
import Derived.Lib.RowBridge
set_option linter.unusedVariables false
set_option maxRecDepth 100000
set_option maxHeartbeats 16000000
namespace Go.Proofs.Ytbnpnccpobkodaa
open Go.RowKit _root_.Go.Proofs.Try
section
open Go.RowKit Go.Sort Go.Shelf
theorem Z00(x y:Int × Int)(w:World):Calls prog 41 #[.agg (Zc x).toArray,.agg (Zc y).toArray] w fun e w'=>e=.returned (.int .i64 (Z25 x y))∧GG w w':=by
 obtain⟨t,r⟩:=x
 obtain⟨t',r'⟩:=y
 simp only[Zc,Z25]
 go_enter func41,ntmps41
 go_wp2
 go_region_held3 (fun w'=>Z57 w t r t' r' w') (first | assumption | exact Z2n w t r t' r' _ | exact Vu (by assumption) (by assumption) | exact Vu ((GG.refl _).alloc _) (by assumption) | exact Vu (GG.refl _).drew (by assumption))
  (first | (go_at_call 27;refine(U6 _ _ _).mono ?_;rintro e w' ⟨rfl,rfl⟩) | (go_at_call 25;refine(Z7b _ (cP t t') (cP r r') _ (by simp[go_sem]) (by simp[go_sem])).mono ?_;rintro e w' ⟨rfl,rfl⟩))
 all_goals
  rename_i hS
  go_wp2
  go_ret
  exact⟨rfl,hS.2.2⟩
theorem Z44:∀args w,(callFunc 41 args).run prog w=.ok (.enter 41 args) w:=enters_of func41 (by kernel_rfl) rfl
structure OnI(W0:World)(l:List (Int × Int))(v:Value)(k:Nat)(out:List (Int × Int))(w:World):Prop where
 own:Za w W0.heap.size v out
 nw:Nw W0 w
 on:Yg l k out
theorem Z0e{W0:World}{v:Value}{l:List (Int × Int)}(h:Zm W0 v l)(hl:l.length≤5000)(hw:Z3w l) :
  Calls prog 42 #[v] W0 fun e w'=>∃v' out,e=.returned v'∧Za w' W0.heap.size v' out∧Nw W0 w'∧Yg l l.length out:=by
 have HW:=hD0 hw
 obtain⟨ea,ec,rfl,hed⟩:=h
 have HD:=hD0 hed
 obtain⟨n,hn⟩:∃n,l.length=n:=⟨_,rfl⟩
 have HN:=hD0 hn
 rw[hn] at hl ⊢
 clear hw hed hn
 go_enter func42,ntmps42
 go_wp2_with fail
 go_loopw [3,8] (fun v3 v8 wr=>∃(k:Nat) (out:List (Int × Int)) (a:Option Addr) (b c:Nat),v3=.slice a b c∧v8=.int .i64 k∧k≤n∧Hid (OnI W0 l (.slice a b c) k out wr)) (fun _ v8 _=>n-(intOf v8).toNat)
 case atStart=>exact⟨0,[],none,0,0,rfl,rfl,Nat.zero_le _,World.ownsRow_nil _ _ _ _,Nw.refl _,Yg.start l⟩
 case round =>
  obtain⟨k,out,sa,sb,sc,rfl,rfl,hkn,HI⟩:=hrel
  by_cases hlt:k<n
  ·have hkl:k<l.length:=by rw[HN.out];exact hlt
   have Y5:=Zp hlt
   rcases HD.out with⟨q,_⟩ | ⟨eb,eo,rfl,hrc⟩
   ·rw[q] at hkl;simp at hkl
   ·have hrw:=hrc.nw HI.out.nw
    obtain⟨x0,x1⟩:=hrw.eg hkl
    have hebl:=hrw.lt
    obtain⟨e,he⟩:∃e,l[k]=e:=⟨_,rfl⟩
    rw[he] at x0 x1
    obtain⟨ex,ey⟩:=e
    simp only at x0 x1
    have hw:=Zw k (k+1) (Nat.le_trans (Nat.le_of_lt hlt) (Nat.le_trans hl (by decide))) rfl
    obtain⟨k1,hk1⟩:∃m,k+1=m:=⟨_,rfl⟩
    have HK1:=hD0 hk1
    rw[hk1] at hw
    have HE:=hD0 he
    clear hk1 he
    go_upto_region 5 with fail
    have hal:=Z7 wr (.cells #[.int .i64 ex,.int .i64 ey] 29)
    have g4:Nw wr (wr.alloc (.cells #[.int .i64 ex,.int .i64 ey] 29)):=(Nw.refl wr).alloc _
    obtain⟨w4,hw4⟩:∃x,wr.alloc (.cells #[.int .i64 ex,.int .i64 ey] 29)=x:=⟨_,rfl⟩
    obtain⟨B,hB⟩:∃B,wr.heap.size=B:=⟨_,rfl⟩
    rw[hB] at hal ⊢
    rw[hw4] at hal g4 ⊢
    have HI4:=hD0 (show OnI W0 l (.slice sa sb sc) k out w4 from⟨Vh HI.out.own g4,HI.out.nw.trans g4,HI.out.on⟩)
    have HAL:=hD0 hal
    have tB0:∀x,Nw w4 x→x.cell? ⟨B,0,none⟩=some (.int .i64 ex):=fun x g=>g.kp (Z6 (j:=0) HAL.out)
    have tB1:∀x,Nw w4 x→x.cell? ⟨B,1,none⟩=some (.int .i64 ey):=fun x g=>g.kp (Z6 (j:=1) HAL.out)
    clear hal hw4 hB x0 x1 hebl hrw
    by_cases hz:k=0
    ·subst hz
     have HO:=hD0 (show Yg l (0+1) (out++[(ex,ey)]) from by
      have:=HI4.out.on.push HW.out hkl (.inl rfl)
      rwa [HE.out] at this)
     obtain rfl:k1=1:=HK1.out.symm
     clear g4
     refine Z8 [] (Nw w4) (by kernel_rfl) ?_
     change Z5 _ _ _ _ _ _ 11 #[false,false,false,false,false,false,false,false,false,false,false] _ w4.drew
     obtain⟨y4,hy4⟩:∃y,w4.drew=y:=⟨_,rfl⟩
     rw[hy4]
     have hS0:Nw w4 y4:=by rw[←hy4];exact(Nw.refl w4).dr
     clear hy4
     refine Z0 0 rfl (by kernel_rfl) (by kernel_rfl) (by kernel_rfl) (fun v c a w h=>h) ?_
     (first | (refine⟨undef,Or.inr ⟨by rfl,rfl⟩,?_⟩) | (apply Exists.intro;refine⟨Or.inl ⟨by rfl,?_⟩,?_⟩;(intro x hx';go_simp;first | done | with_reducible rfl)))
     (try simp only[Act.put,List.getElem_toArray,List.getElem_cons_zero,List.getElem_cons_succ,List.setIfInBounds_toArray,List.set_cons_zero,List.set_cons_succ])
     refine Z0 1 rfl (by kernel_rfl) (by kernel_rfl) (by kernel_rfl) (fun v c a w h=>h) ?_
     (first | (refine⟨undef,Or.inr ⟨by rfl,rfl⟩,?_⟩) | (apply Exists.intro;refine⟨Or.inl ⟨by rfl,?_⟩,?_⟩;(intro x hx';go_simp;first | done | with_reducible rfl)))
     (try simp only[Act.put,List.getElem_toArray,List.getElem_cons_zero,List.getElem_cons_succ,List.setIfInBounds_toArray,List.set_cons_zero,List.set_cons_succ])
     refine Z0 2 rfl (by kernel_rfl) (by kernel_rfl) (by kernel_rfl) (fun v c a w h=>h) ?_
     (first | (refine⟨undef,Or.inr ⟨by rfl,rfl⟩,?_⟩) | (apply Exists.intro;refine⟨Or.inl ⟨by rfl,?_⟩,?_⟩;(intro x hx';go_simp;first | done | with_reducible rfl)))
     (try simp only[Act.put,List.getElem_toArray,List.getElem_cons_zero,List.getElem_cons_succ,List.setIfInBounds_toArray,List.set_cons_zero,List.set_cons_succ])
     refine Z1 3 rfl (by kernel_rfl) (by kernel_rfl) (by kernel_rfl) (by kernel_rfl) (fun v c a w h=>h) hS0 ?_
     (first | (refine⟨undef,Or.inr ⟨by rfl,rfl⟩,?_⟩) | (apply Exists.intro;refine⟨Or.inl ⟨by rfl,?_⟩,?_⟩;(intro x hx';go_simp;first | done | with_reducible rfl)))
     (try simp only[Act.put,List.getElem_toArray,List.getElem_cons_zero,List.getElem_cons_succ,List.setIfInBounds_toArray,List.set_cons_zero,List.set_cons_succ])
     refine Z0 4 rfl (by kernel_rfl) (by kernel_rfl) (by kernel_rfl) (fun v c a w h=>h) ?_
     (first | (refine⟨undef,Or.inr ⟨by rfl,rfl⟩,?_⟩) | (apply Exists.intro;refine⟨Or.inl ⟨by rfl,?_⟩,?_⟩;(intro x hx';go_simp;first | done | with_reducible rfl)))
     (try simp only[Act.put,List.getElem_toArray,List.getElem_cons_zero,List.getElem_cons_succ,List.setIfInBounds_toArray,List.set_cons_zero,List.set_cons_succ])
     refine Z0 5 rfl (by kernel_rfl) (by kernel_rfl) (by kernel_rfl) (fun v c a w h=>h) ?_
     (first | (refine⟨undef,Or.inr ⟨by rfl,rfl⟩,?_⟩) | (apply Exists.intro;refine⟨Or.inl ⟨by rfl,?_⟩,?_⟩;(intro x hx';go_simp;first | done | with_reducible rfl)))
     (try simp only[Act.put,List.getElem_toArray,List.getElem_cons_zero,List.getElem_cons_succ,List.setIfInBounds_toArray,List.set_cons_zero,List.set_cons_succ])
     refine Z0 6 rfl (by kernel_rfl) (by kernel_rfl) (by kernel_rfl) (fun v c a w h=>h) ?_
     (first | (refine⟨undef,Or.inr ⟨by rfl,rfl⟩,?_⟩) | (apply Exists.intro;refine⟨Or.inl ⟨by rfl,?_⟩,?_⟩;(intro x hx';go_simp;first | done | with_reducible rfl)))
     (try simp only[Act.put,List.getElem_toArray,List.getElem_cons_zero,List.getElem_cons_succ,List.setIfInBounds_toArray,List.set_cons_zero,List.set_cons_succ])
     refine Z0 7 rfl (by kernel_rfl) (by kernel_rfl) (by kernel_rfl) (fun v c a w h=>h) ?_
     (first | (refine⟨undef,Or.inr ⟨by rfl,rfl⟩,?_⟩) | (apply Exists.intro;refine⟨Or.inl ⟨by rfl,?_⟩,?_⟩;(intro x hx';go_simp;first | done | with_reducible rfl)))
     (try simp only[Act.put,List.getElem_toArray,List.getElem_cons_zero,List.getElem_cons_succ,List.setIfInBounds_toArray,List.set_cons_zero,List.set_cons_succ])
     refine Z1 8 rfl (by kernel_rfl) (by kernel_rfl) (by kernel_rfl) (by kernel_rfl) (fun v c a w h=>h) hS0 ?_
     (first | (refine⟨undef,Or.inr ⟨by rfl,rfl⟩,?_⟩) | (apply Exists.intro;refine⟨Or.inl ⟨by rfl,?_⟩,?_⟩;(intro x hx';go_simp;first | done | with_reducible rfl)))
     (try simp only[Act.put,List.getElem_toArray,List.getElem_cons_zero,List.getElem_cons_succ,List.setIfInBounds_toArray,List.set_cons_zero,List.set_cons_succ])
     refine Z0 9 rfl (by kernel_rfl) (by kernel_rfl) (by kernel_rfl) (fun v c a w h=>h) ?_
     (first | (refine⟨undef,Or.inr ⟨by rfl,rfl⟩,?_⟩) | (apply Exists.intro;refine⟨Or.inl ⟨by rfl,?_⟩,?_⟩;(intro x hx';go_simp;first | done | with_reducible rfl)))
     (try simp only[Act.put,List.getElem_toArray,List.getElem_cons_zero,List.getElem_cons_succ,List.setIfInBounds_toArray,List.set_cons_zero,List.set_cons_succ])
     refine Z0 10 rfl (by kernel_rfl) (by kernel_rfl) (by kernel_rfl) (fun v c a w h=>h) ?_
     (first | (refine⟨undef,Or.inr ⟨by rfl,rfl⟩,?_⟩) | (apply Exists.intro;refine⟨Or.inl ⟨by rfl,?_⟩,?_⟩;(intro x hx';go_simp;first | done | with_reducible rfl)))
     (try simp only[Act.put,List.getElem_toArray,List.getElem_cons_zero,List.getElem_cons_succ,List.setIfInBounds_toArray,List.set_cons_zero,List.set_cons_succ])
     refine Z3 (by kernel_rfl) ?_ _
     refine NoPanic.normal ?_
     (try simp only[Act.put,List.getElem_toArray,List.getElem_cons_zero,List.getElem_cons_succ,List.setIfInBounds_toArray,List.set_cons_zero,List.set_cons_succ])
     have hal6:=Z7 y4 (.cells #[.int .i64 ex,.int .i64 ey] 29)
     have g6:Nw y4 (y4.alloc (.cells #[.int .i64 ex,.int .i64 ey] 29)):=(Nw.refl y4).alloc _
     obtain⟨v',w6,hr6,hO6,hg6,_,ga6,cc6,rfl⟩:=Y2.push Yi (Vh (Vh HI4.out.own hS0) g6) (ex,ey) y4.heap.size 1 (fun j u hu=>by
      rw[Z6 hal6]
      simpa [Zc] using hu) (by have:=HI4.out.on.len;omega) ((HI4.out.nw.trans hS0).trans g6).sz
     have HI6:=hD0 (show OnI W0 l (.slice (some ⟨ga6,0,none⟩) (out.length+1) cc6) 1 (out++[(ex,ey)]) w6 from⟨hO6,((HI4.out.nw.trans hS0).trans g6).gro hg6 (fun b e=>Ur HI4.out.own e),HO.out⟩)
     have HR6:=hD0 hr6
     have hb0:=tB0 y4 hS0
     have hb1:=tB1 y4 hS0
     have hBl:=lL0 (Go.Proofs.Ytbnpnccpobkodaa.hlt HAL.out) hS0.sz
     clear hal6 g6 hr6 hO6 hg6 hS0 tB0 tB1 HI4
     go_wp2_with (at_builtin;refine Zb (by rfl) (.tmp 24) (.tmp 26) 22 rfl _ _ _ _ rfl rfl HR6.out ?_)
     go_roundw
     case rel=>exact⟨1,out++[(ex,ey)],some ⟨ga6,0,none⟩,out.length+1,cc6,rfl,rfl,hlt,HI6⟩
     case measure=>(show n-(1:Int).toNat<n-((0:Nat):Int).toNat;omega)
    ·obtain⟨j,hj⟩:∃j,k=j+1:=⟨k-1,by omega⟩
     have hjl:j<l.length:=by omega
     have hrw4:=hrc.nw (HI.out.nw.trans g4)
     obtain⟨y0,y1⟩:=hrw4.eg hjl
     have hdj:=Yu k j (Nat.le_trans (Nat.le_of_lt hlt) (Nat.le_trans hl (by decide))) hj
     have hjn':(j:Int)<(n:Int):=by omega
     have hjn:j<n:=by omega
     have hz1:((k:Int)==0)=false:=by simp;omega
     have hz2:(k==0)=false:=by simp;omega
     obtain⟨f,hf⟩:∃f,l[j]=f:=⟨_,rfl⟩
     rw[hf] at y0 y1
     obtain⟨fx,fy⟩:=f
     simp only at y0 y1
     have ty0:∀x,Nw w4 x→x.cell? ⟨eb,eo+j*2,none⟩=some (.int .i64 fx):=fun x g=>g.kp y0
     have ty1:∀x,Nw w4 x→x.cell? ⟨eb,eo+j*2+1,none⟩=some (.int .i64 fy):=fun x g=>g.kp y1
     have HF:=hD0 (show ∃hj:j<l.length,k=j+1∧l[j]=(fx,fy) from⟨hjl,hj,hf⟩)
     clear g4 hrw4 y0 y1 hj hjl hf hz
     by_cases hxy:ex=fx∧ey=fy
     ·obtain⟨hx1,hy1⟩:=hxy
      subst hx1
      subst hy1
      refine Z8 [] (Nw w4) (by kernel_rfl) ?_
      change Z5 _ _ _ _ _ _ 11 #[false,false,false,false,false,false,false,false,false,false,false] _ w4.drew
      obtain⟨y4,hy4⟩:∃y,w4.drew=y:=⟨_,rfl⟩
      rw[hy4]
      have hS0:Nw w4 y4:=by rw[←hy4];exact(Nw.refl w4).dr
      clear hy4
      refine Z0 0 rfl (by kernel_rfl) (by kernel_rfl) (by kernel_rfl) (fun v c a w h=>h) ?_
      (first | (refine⟨undef,Or.inr ⟨by rfl,rfl⟩,?_⟩) | (apply Exists.intro;refine⟨Or.inl ⟨by rfl,?_⟩,?_⟩;(intro x hx';go_simp;first | done | with_reducible rfl)))
      (try simp only[Act.put,List.getElem_toArray,List.getElem_cons_zero,List.getElem_cons_succ,List.setIfInBounds_toArray,List.set_cons_zero,List.set_cons_succ])
      refine Z0 1 rfl (by kernel_rfl) (by kernel_rfl) (by kernel_rfl) (fun v c a w h=>h) ?_
      (first | (refine⟨undef,Or.inr ⟨by rfl,rfl⟩,?_⟩) | (apply Exists.intro;refine⟨Or.inl ⟨by rfl,?_⟩,?_⟩;(intro x hx';go_simp;first | done | with_reducible rfl)))
      (try simp only[Act.put,List.getElem_toArray,List.getElem_cons_zero,List.getElem_cons_succ,List.setIfInBounds_toArray,List.set_cons_zero,List.set_cons_succ])
      refine Z0 2 rfl (by kernel_rfl) (by kernel_rfl) (by kernel_rfl) (fun v c a w h=>h) ?_
      (first | (refine⟨undef,Or.inr ⟨by rfl,rfl⟩,?_⟩) | (apply Exists.intro;refine⟨Or.inl ⟨by rfl,?_⟩,?_⟩;(intro x hx';go_simp;first | done | with_reducible rfl)))
      (try simp only[Act.put,List.getElem_toArray,List.getElem_cons_zero,List.getElem_cons_succ,List.setIfInBounds_toArray,List.set_cons_zero,List.set_cons_succ])
      refine Z1 3 rfl (by kernel_rfl) (by kernel_rfl) (by kernel_rfl) (by kernel_rfl) (fun v c a w h=>h) hS0 ?_
      (first | (refine⟨undef,Or.inr ⟨by rfl,rfl⟩,?_⟩) | (apply Exists.intro;refine⟨Or.inl ⟨by rfl,?_⟩,?_⟩;(intro x hx';go_simp;first | done | with_reducible rfl)))
      (try simp only[Act.put,List.getElem_toArray,List.getElem_cons_zero,List.getElem_cons_succ,List.setIfInBounds_toArray,List.set_cons_zero,List.set_cons_succ])
      refine Z0 4 rfl (by kernel_rfl) (by kernel_rfl) (by kernel_rfl) (fun v c a w h=>h) ?_
      (first | (refine⟨undef,Or.inr ⟨by rfl,rfl⟩,?_⟩) | (apply Exists.intro;refine⟨Or.inl ⟨by rfl,?_⟩,?_⟩;(intro x hx';go_simp;first | done | with_reducible rfl)))
      (try simp only[Act.put,List.getElem_toArray,List.getElem_cons_zero,List.getElem_cons_succ,List.setIfInBounds_toArray,List.set_cons_zero,List.set_cons_succ])
      refine Z0 5 rfl (by kernel_rfl) (by kernel_rfl) (by kernel_rfl) (fun v c a w h=>h) ?_
      (first | (refine⟨undef,Or.inr ⟨by rfl,rfl⟩,?_⟩) | (apply Exists.intro;refine⟨Or.inl ⟨by rfl,?_⟩,?_⟩;(intro x hx';go_simp;first | done | with_reducible rfl)))
      (try simp only[Act.put,List.getElem_toArray,List.getElem_cons_zero,List.getElem_cons_succ,List.setIfInBounds_toArray,List.set_cons_zero,List.set_cons_succ])
      refine Z0 6 rfl (by kernel_rfl) (by kernel_rfl) (by kernel_rfl) (fun v c a w h=>h) ?_
      (first | (refine⟨undef,Or.inr ⟨by rfl,rfl⟩,?_⟩) | (apply Exists.intro;refine⟨Or.inl ⟨by rfl,?_⟩,?_⟩;(intro x hx';go_simp;first | done | with_reducible rfl)))
      (try simp only[Act.put,List.getElem_toArray,List.getElem_cons_zero,List.getElem_cons_succ,List.setIfInBounds_toArray,List.set_cons_zero,List.set_cons_succ])
      refine Z0 7 rfl (by kernel_rfl) (by kernel_rfl) (by kernel_rfl) (fun v c a w h=>h) ?_
      (first | (refine⟨undef,Or.inr ⟨by rfl,rfl⟩,?_⟩) | (apply Exists.intro;refine⟨Or.inl ⟨by rfl,?_⟩,?_⟩;(intro x hx';go_simp;first | done | with_reducible rfl)))
      (try simp only[Act.put,List.getElem_toArray,List.getElem_cons_zero,List.getElem_cons_succ,List.setIfInBounds_toArray,List.set_cons_zero,List.set_cons_succ])
      refine Z1 8 rfl (by kernel_rfl) (by kernel_rfl) (by kernel_rfl) (by kernel_rfl) (fun v c a w h=>h) hS0 ?_
      (first | (refine⟨undef,Or.inr ⟨by rfl,rfl⟩,?_⟩) | (apply Exists.intro;refine⟨Or.inl ⟨by rfl,?_⟩,?_⟩;(intro x hx';go_simp;first | done | with_reducible rfl)))
      (try simp only[Act.put,List.getElem_toArray,List.getElem_cons_zero,List.getElem_cons_succ,List.setIfInBounds_toArray,List.set_cons_zero,List.set_cons_succ])
      refine Z0 9 rfl (by kernel_rfl) (by kernel_rfl) (by kernel_rfl) (fun v c a w h=>h) ?_
      (first | (refine⟨undef,Or.inr ⟨by rfl,rfl⟩,?_⟩) | (apply Exists.intro;refine⟨Or.inl ⟨by rfl,?_⟩,?_⟩;(intro x hx';go_simp;first | done | with_reducible rfl)))
      (try simp only[Act.put,List.getElem_toArray,List.getElem_cons_zero,List.getElem_cons_succ,List.setIfInBounds_toArray,List.set_cons_zero,List.set_cons_succ])
      refine Z0 10 rfl (by kernel_rfl) (by kernel_rfl) (by kernel_rfl) (fun v c a w h=>h) ?_
      (first | (refine⟨undef,Or.inr ⟨by rfl,rfl⟩,?_⟩) | (apply Exists.intro;refine⟨Or.inl ⟨by rfl,?_⟩,?_⟩;(intro x hx';go_simp;first | done | with_reducible rfl)))
      (try simp only[Act.put,List.getElem_toArray,List.getElem_cons_zero,List.getElem_cons_succ,List.setIfInBounds_toArray,List.set_cons_zero,List.set_cons_succ])
      refine Z3 (by kernel_rfl) ?_ _
      refine NoPanic.normal ?_
      (try simp only[Act.put,List.getElem_toArray,List.getElem_cons_zero,List.getElem_cons_succ,List.setIfInBounds_toArray,List.set_cons_zero,List.set_cons_succ])
      have HS:=hD0 (show OnI W0 l (.slice sa sb sc) k1 out y4 from⟨Vh HI4.out.own hS0,HI4.out.nw.trans hS0,by
       obtain⟨hjl,hj,hf⟩:=HF.out
       rw[←HK1.out]
       exact HI4.out.on.skip hkl hjl hj (by rw[HE.out,hf])⟩)
      clear hS0 tB0 tB1 ty0 ty1 HI4
      go_wp2_with fail
      go_roundw
      case rel=>exact⟨k1,out,sa,sb,sc,rfl,rfl,by rw[←HK1.out];exact hlt,HS⟩
      case measure=>rw[←HK1.out];exact Zk hlt
     ·have HO:=hD0 (show Yg l (k+1) (out++[(ex,ey)]) from by
       obtain⟨hjl,hj,hf⟩:=HF.out
       have:=HI4.out.on.push HW.out hkl (.inr ⟨_,hjl,hj,by
        rw[HE.out,hf]
        exact fun q=>hxy ⟨congrArg Prod.fst q,congrArg Prod.snd q⟩⟩)
       rwa [HE.out] at this)
      by_cases hx:ex=fx
      ·subst hx
       have hy1:(ey==fy)=false:=by simpa using fun q=>hxy ⟨rfl,q⟩
       have hy3:¬ey=fy:=fun q=>hxy ⟨rfl,q⟩
       clear hxy
       refine Z8 [] (Nw w4) (by kernel_rfl) ?_
       change Z5 _ _ _ _ _ _ 11 #[false,false,false,false,false,false,false,false,false,false,false] _ w4.drew
       obtain⟨y4,hy4⟩:∃y,w4.drew=y:=⟨_,rfl⟩
       rw[hy4]
       have hS0:Nw w4 y4:=by rw[←hy4];exact(Nw.refl w4).dr
       clear hy4
       refine Z0 0 rfl (by kernel_rfl) (by kernel_rfl) (by kernel_rfl) (fun v c a w h=>h) ?_
       (first | (refine⟨undef,Or.inr ⟨by rfl,rfl⟩,?_⟩) | (apply Exists.intro;refine⟨Or.inl ⟨by rfl,?_⟩,?_⟩;(intro x hx';go_simp;first | done | with_reducible rfl)))
       (try simp only[Act.put,List.getElem_toArray,List.getElem_cons_zero,List.getElem_cons_succ,List.setIfInBounds_toArray,List.set_cons_zero,List.set_cons_succ])
       refine Z0 1 rfl (by kernel_rfl) (by kernel_rfl) (by kernel_rfl) (fun v c a w h=>h) ?_
       (first | (refine⟨undef,Or.inr ⟨by rfl,rfl⟩,?_⟩) | (apply Exists.intro;refine⟨Or.inl ⟨by rfl,?_⟩,?_⟩;(intro x hx';go_simp;first | done | with_reducible rfl)))
       (try simp only[Act.put,List.getElem_toArray,List.getElem_cons_zero,List.getElem_cons_succ,List.setIfInBounds_toArray,List.set_cons_zero,List.set_cons_succ])
       refine Z0 2 rfl (by kernel_rfl) (by kernel_rfl) (by kernel_rfl) (fun v c a w h=>h) ?_
       (first | (refine⟨undef,Or.inr ⟨by rfl,rfl⟩,?_⟩) | (apply Exists.intro;refine⟨Or.inl ⟨by rfl,?_⟩,?_⟩;(intro x hx';go_simp;first | done | with_reducible rfl)))
       (try simp only[Act.put,List.getElem_toArray,List.getElem_cons_zero,List.getElem_cons_succ,List.setIfInBounds_toArray,List.set_cons_zero,List.set_cons_succ])
       refine Z1 3 rfl (by kernel_rfl) (by kernel_rfl) (by kernel_rfl) (by kernel_rfl) (fun v c a w h=>h) hS0 ?_
       (first | (refine⟨undef,Or.inr ⟨by rfl,rfl⟩,?_⟩) | (apply Exists.intro;refine⟨Or.inl ⟨by rfl,?_⟩,?_⟩;(intro x hx';go_simp;first | done | with_reducible rfl)))
       (try simp only[Act.put,List.getElem_toArray,List.getElem_cons_zero,List.getElem_cons_succ,List.setIfInBounds_toArray,List.set_cons_zero,List.set_cons_succ])
       refine Z0 4 rfl (by kernel_rfl) (by kernel_rfl) (by kernel_rfl) (fun v c a w h=>h) ?_
       (first | (refine⟨undef,Or.inr ⟨by rfl,rfl⟩,?_⟩) | (apply Exists.intro;refine⟨Or.inl ⟨by rfl,?_⟩,?_⟩;(intro x hx';go_simp;first | done | with_reducible rfl)))
       (try simp only[Act.put,List.getElem_toArray,List.getElem_cons_zero,List.getElem_cons_succ,List.setIfInBounds_toArray,List.set_cons_zero,List.set_cons_succ])
       refine Z0 5 rfl (by kernel_rfl) (by kernel_rfl) (by kernel_rfl) (fun v c a w h=>h) ?_
       (first | (refine⟨undef,Or.inr ⟨by rfl,rfl⟩,?_⟩) | (apply Exists.intro;refine⟨Or.inl ⟨by rfl,?_⟩,?_⟩;(intro x hx';go_simp;first | done | with_reducible rfl)))
       (try simp only[Act.put,List.getElem_toArray,List.getElem_cons_zero,List.getElem_cons_succ,List.setIfInBounds_toArray,List.set_cons_zero,List.set_cons_succ])
       refine Z0 6 rfl (by kernel_rfl) (by kernel_rfl) (by kernel_rfl) (fun v c a w h=>h) ?_
       (first | (refine⟨undef,Or.inr ⟨by rfl,rfl⟩,?_⟩) | (apply Exists.intro;refine⟨Or.inl ⟨by rfl,?_⟩,?_⟩;(intro x hx';go_simp;first | done | with_reducible rfl)))
       (try simp only[Act.put,List.getElem_toArray,List.getElem_cons_zero,List.getElem_cons_succ,List.setIfInBounds_toArray,List.set_cons_zero,List.set_cons_succ])
       refine Z0 7 rfl (by kernel_rfl) (by kernel_rfl) (by kernel_rfl) (fun v c a w h=>h) ?_
       (first | (refine⟨undef,Or.inr ⟨by rfl,rfl⟩,?_⟩) | (apply Exists.intro;refine⟨Or.inl ⟨by rfl,?_⟩,?_⟩;(intro x hx';go_simp;first | done | with_reducible rfl)))
       (try simp only[Act.put,List.getElem_toArray,List.getElem_cons_zero,List.getElem_cons_succ,List.setIfInBounds_toArray,List.set_cons_zero,List.set_cons_succ])
       refine Z1 8 rfl (by kernel_rfl) (by kernel_rfl) (by kernel_rfl) (by kernel_rfl) (fun v c a w h=>h) hS0 ?_
       (first | (refine⟨undef,Or.inr ⟨by rfl,rfl⟩,?_⟩) | (apply Exists.intro;refine⟨Or.inl ⟨by rfl,?_⟩,?_⟩;(intro x hx';go_simp;first | done | with_reducible rfl)))
       (try simp only[Act.put,List.getElem_toArray,List.getElem_cons_zero,List.getElem_cons_succ,List.setIfInBounds_toArray,List.set_cons_zero,List.set_cons_succ])
       refine Z0 9 rfl (by kernel_rfl) (by kernel_rfl) (by kernel_rfl) (fun v c a w h=>h) ?_
       (first | (refine⟨undef,Or.inr ⟨by rfl,rfl⟩,?_⟩) | (apply Exists.intro;refine⟨Or.inl ⟨by rfl,?_⟩,?_⟩;(intro x hx';go_simp;first | done | with_reducible rfl)))
       (try simp only[Act.put,List.getElem_toArray,List.getElem_cons_zero,List.getElem_cons_succ,List.setIfInBounds_toArray,List.set_cons_zero,List.set_cons_succ])
       refine Z0 10 rfl (by kernel_rfl) (by kernel_rfl) (by kernel_rfl) (fun v c a w h=>h) ?_
       (first | (refine⟨undef,Or.inr ⟨by rfl,rfl⟩,?_⟩) | (apply Exists.intro;refine⟨Or.inl ⟨by rfl,?_⟩,?_⟩;(intro x hx';go_simp;first | done | with_reducible rfl)))
       (try simp only[Act.put,List.getElem_toArray,List.getElem_cons_zero,List.getElem_cons_succ,List.setIfInBounds_toArray,List.set_cons_zero,List.set_cons_succ])
       refine Z3 (by kernel_rfl) ?_ _
       refine NoPanic.normal ?_
       (try simp only[Act.put,List.getElem_toArray,List.getElem_cons_zero,List.getElem_cons_succ,List.setIfInBounds_toArray,List.set_cons_zero,List.set_cons_succ])
       have hal6:=Z7 y4 (.cells #[.int .i64 ex,.int .i64 ey] 29)
       have g6:Nw y4 (y4.alloc (.cells #[.int .i64 ex,.int .i64 ey] 29)):=(Nw.refl y4).alloc _
       obtain⟨v',w6,hr6,hO6,hg6,_,ga6,cc6,rfl⟩:=Y2.push Yi (Vh (Vh HI4.out.own hS0) g6) (ex,ey) y4.heap.size 1 (fun j u hu=>by
        rw[Z6 hal6]
        simpa [Zc] using hu) (by have:=HI4.out.on.len;omega) ((HI4.out.nw.trans hS0).trans g6).sz
       have HI6:=hD0 (show OnI W0 l (.slice (some ⟨ga6,0,none⟩) (out.length+1) cc6) k1 (out++[(ex,ey)]) w6 from⟨hO6,((HI4.out.nw.trans hS0).trans g6).gro hg6 (fun b e=>Ur HI4.out.own e),by rw[←HK1.out];exact HO.out⟩)
       have HR6:=hD0 hr6
       have hb0:=tB0 y4 hS0
       have hb1:=tB1 y4 hS0
       have hBl:=lL0 (Go.Proofs.Ytbnpnccpobkodaa.hlt HAL.out) hS0.sz
       clear hal6 g6 hr6 hO6 hg6 hS0 tB0 tB1 HI4 ty0 ty1
       go_wp2_with (at_builtin;refine Zb (by rfl) (.tmp 24) (.tmp 26) 22 rfl _ _ _ _ rfl rfl HR6.out ?_)
       go_roundw
       case rel=>exact⟨k1,out++[(ex,ey)],some ⟨ga6,0,none⟩,out.length+1,cc6,rfl,rfl,by rw[←HK1.out];exact hlt,HI6⟩
       case measure=>rw[←HK1.out];exact Zk hlt
      ·have hx1:(ex==fx)=false:=by simpa using hx
       clear hxy
       refine Z8 [] (Nw w4) (by kernel_rfl) ?_
       change Z5 _ _ _ _ _ _ 11 #[false,false,false,false,false,false,false,false,false,false,false] _ w4.drew
       obtain⟨y4,hy4⟩:∃y,w4.drew=y:=⟨_,rfl⟩
       rw[hy4]
       have hS0:Nw w4 y4:=by rw[←hy4];exact(Nw.refl w4).dr
       clear hy4
       refine Z0 0 rfl (by kernel_rfl) (by kernel_rfl) (by kernel_rfl) (fun v c a w h=>h) ?_
       (first | (refine⟨undef,Or.inr ⟨by rfl,rfl⟩,?_⟩) | (apply Exists.intro;refine⟨Or.inl ⟨by rfl,?_⟩,?_⟩;(intro x hx';go_simp;first | done | with_reducible rfl)))
       (try simp only[Act.put,List.getElem_toArray,List.getElem_cons_zero,List.getElem_cons_succ,List.setIfInBounds_toArray,List.set_cons_zero,List.set_cons_succ])
       refine Z0 1 rfl (by kernel_rfl) (by kernel_rfl) (by kernel_rfl) (fun v c a w h=>h) ?_
       (first | (refine⟨undef,Or.inr ⟨by rfl,rfl⟩,?_⟩) | (apply Exists.intro;refine⟨Or.inl ⟨by rfl,?_⟩,?_⟩;(intro x hx';go_simp;first | done | with_reducible rfl)))
       (try simp only[Act.put,List.getElem_toArray,List.getElem_cons_zero,List.getElem_cons_succ,List.setIfInBounds_toArray,List.set_cons_zero,List.set_cons_succ])
       refine Z0 2 rfl (by kernel_rfl) (by kernel_rfl) (by kernel_rfl) (fun v c a w h=>h) ?_
       (first | (refine⟨undef,Or.inr ⟨by rfl,rfl⟩,?_⟩) | (apply Exists.intro;refine⟨Or.inl ⟨by rfl,?_⟩,?_⟩;(intro x hx';go_simp;first | done | with_reducible rfl)))
       (try simp only[Act.put,List.getElem_toArray,List.getElem_cons_zero,List.getElem_cons_succ,List.setIfInBounds_toArray,List.set_cons_zero,List.set_cons_succ])
       refine Z1 3 rfl (by kernel_rfl) (by kernel_rfl) (by kernel_rfl) (by kernel_rfl) (fun v c a w h=>h) hS0 ?_
       (first | (refine⟨undef,Or.inr ⟨by rfl,rfl⟩,?_⟩) | (apply Exists.intro;refine⟨Or.inl ⟨by rfl,?_⟩,?_⟩;(intro x hx';go_simp;first | done | with_reducible rfl)))
       (try simp only[Act.put,List.getElem_toArray,List.getElem_cons_zero,List.getElem_cons_succ,List.setIfInBounds_toArray,List.set_cons_zero,List.set_cons_succ])
       refine Z0 4 rfl (by kernel_rfl) (by kernel_rfl) (by kernel_rfl) (fun v c a w h=>h) ?_
       (first | (refine⟨undef,Or.inr ⟨by rfl,rfl⟩,?_⟩) | (apply Exists.intro;refine⟨Or.inl ⟨by rfl,?_⟩,?_⟩;(intro x hx';go_simp;first | done | with_reducible rfl)))
       (try simp only[Act.put,List.getElem_toArray,List.getElem_cons_zero,List.getElem_cons_succ,List.setIfInBounds_toArray,List.set_cons_zero,List.set_cons_succ])
       refine Z0 5 rfl (by kernel_rfl) (by kernel_rfl) (by kernel_rfl) (fun v c a w h=>h) ?_
       (first | (refine⟨undef,Or.inr ⟨by rfl,rfl⟩,?_⟩) | (apply Exists.intro;refine⟨Or.inl ⟨by rfl,?_⟩,?_⟩;(intro x hx';go_simp;first | done | with_reducible rfl)))
       (try simp only[Act.put,List.getElem_toArray,List.getElem_cons_zero,List.getElem_cons_succ,List.setIfInBounds_toArray,List.set_cons_zero,List.set_cons_succ])
       refine Z0 6 rfl (by kernel_rfl) (by kernel_rfl) (by kernel_rfl) (fun v c a w h=>h) ?_
       (first | (refine⟨undef,Or.inr ⟨by rfl,rfl⟩,?_⟩) | (apply Exists.intro;refine⟨Or.inl ⟨by rfl,?_⟩,?_⟩;(intro x hx';go_simp;first | done | with_reducible rfl)))
       (try simp only[Act.put,List.getElem_toArray,List.getElem_cons_zero,List.getElem_cons_succ,List.setIfInBounds_toArray,List.set_cons_zero,List.set_cons_succ])
       refine Z0 7 rfl (by kernel_rfl) (by kernel_rfl) (by kernel_rfl) (fun v c a w h=>h) ?_
       (first | (refine⟨undef,Or.inr ⟨by rfl,rfl⟩,?_⟩) | (apply Exists.intro;refine⟨Or.inl ⟨by rfl,?_⟩,?_⟩;(intro x hx';go_simp;first | done | with_reducible rfl)))
       (try simp only[Act.put,List.getElem_toArray,List.getElem_cons_zero,List.getElem_cons_succ,List.setIfInBounds_toArray,List.set_cons_zero,List.set_cons_succ])
       refine Z1 8 rfl (by kernel_rfl) (by kernel_rfl) (by kernel_rfl) (by kernel_rfl) (fun v c a w h=>h) hS0 ?_
       (first | (refine⟨undef,Or.inr ⟨by rfl,rfl⟩,?_⟩) | (apply Exists.intro;refine⟨Or.inl ⟨by rfl,?_⟩,?_⟩;(intro x hx';go_simp;first | done | with_reducible rfl)))
       (try simp only[Act.put,List.getElem_toArray,List.getElem_cons_zero,List.getElem_cons_succ,List.setIfInBounds_toArray,List.set_cons_zero,List.set_cons_succ])
       refine Z0 9 rfl (by kernel_rfl) (by kernel_rfl) (by kernel_rfl) (fun v c a w h=>h) ?_
       (first | (refine⟨undef,Or.inr ⟨by rfl,rfl⟩,?_⟩) | (apply Exists.intro;refine⟨Or.inl ⟨by rfl,?_⟩,?_⟩;(intro x hx';go_simp;first | done | with_reducible rfl)))
       (try simp only[Act.put,List.getElem_toArray,List.getElem_cons_zero,List.getElem_cons_succ,List.setIfInBounds_toArray,List.set_cons_zero,List.set_cons_succ])
       refine Z0 10 rfl (by kernel_rfl) (by kernel_rfl) (by kernel_rfl) (fun v c a w h=>h) ?_
       (first | (refine⟨undef,Or.inr ⟨by rfl,rfl⟩,?_⟩) | (apply Exists.intro;refine⟨Or.inl ⟨by rfl,?_⟩,?_⟩;(intro x hx';go_simp;first | done | with_reducible rfl)))
       (try simp only[Act.put,List.getElem_toArray,List.getElem_cons_zero,List.getElem_cons_succ,List.setIfInBounds_toArray,List.set_cons_zero,List.set_cons_succ])
       refine Z3 (by kernel_rfl) ?_ _
       refine NoPanic.normal ?_
       (try simp only[Act.put,List.getElem_toArray,List.getElem_cons_zero,List.getElem_cons_succ,List.setIfInBounds_toArray,List.set_cons_zero,List.set_cons_succ])
       have hal6:=Z7 y4 (.cells #[.int .i64 ex,.int .i64 ey] 29)
       have g6:Nw y4 (y4.alloc (.cells #[.int .i64 ex,.int .i64 ey] 29)):=(Nw.refl y4).alloc _
       obtain⟨v',w6,hr6,hO6,hg6,_,ga6,cc6,rfl⟩:=Y2.push Yi (Vh (Vh HI4.out.own hS0) g6) (ex,ey) y4.heap.size 1 (fun j u hu=>by
        rw[Z6 hal6]
        simpa [Zc] using hu) (by have:=HI4.out.on.len;omega) ((HI4.out.nw.trans hS0).trans g6).sz
       have HI6:=hD0 (show OnI W0 l (.slice (some ⟨ga6,0,none⟩) (out.length+1) cc6) k1 (out++[(ex,ey)]) w6 from⟨hO6,((HI4.out.nw.trans hS0).trans g6).gro hg6 (fun b e=>Ur HI4.out.own e),by rw[←HK1.out];exact HO.out⟩)
       have HR6:=hD0 hr6
       have hb0:=tB0 y4 hS0
       have hb1:=tB1 y4 hS0
       have hBl:=lL0 (Go.Proofs.Ytbnpnccpobkodaa.hlt HAL.out) hS0.sz
       clear hal6 g6 hr6 hO6 hg6 hS0 tB0 tB1 HI4 ty0 ty1
       go_wp2_with (at_builtin;refine Zb (by rfl) (.tmp 24) (.tmp 26) 22 rfl _ _ _ _ rfl rfl HR6.out ?_)
       go_roundw
       case rel=>exact⟨k1,out++[(ex,ey)],some ⟨ga6,0,none⟩,out.length+1,cc6,rfl,rfl,by rw[←HK1.out];exact hlt,HI6⟩
       case measure=>rw[←HK1.out];exact Zk hlt
  ·obtain rfl:k=n:=Nat.le_antisymm hkn (Nat.le_of_not_lt hlt)
   have Y5:¬k<k:=Nat.lt_irrefl k
   clear hlt
   go_wp2
   go_ret
   exact⟨_,out,rfl,HI.out.own,HI.out.nw,HI.out.on⟩
theorem Weak.of{l:List (Int × Int)}(h:l.Pairwise fun a b=>ltOf Z25 b a=false):Z3w l:=h.imp (fun {a b} q=>by
 rw[Vz] at q
 exact of_decide_eq_false q)
theorem Z2k{w:World}{v:Value}{l:List (Int × Int)}(h:Zm w v l)(hl:l.length≤5000) :
  Calls prog 28 #[v] w fun e w'=>∃v',e=.returned v'∧Za w' w.heap.size v' (sortE l)∧Nw w w':=by
 have HC:=hD0 (Z43 v l w (Nat.le_trans hl (by decide)) h)
 obtain⟨a,c,rfl⟩:=h.form
 have HL:=hD0 hl
 clear h hl
 go_enter func28,ntmps28
 go_wp2_with fail
 refine HC.out.mono ?_
 rintro e w1 ⟨v1,rfl,g1,hO1⟩
 rcases V3 hO1 with⟨rfl,hz⟩ | ⟨g,cap,rfl⟩
 ·have hl0:l=[]:=List.length_eq_zero_iff.1 hz
  have HS:=hD0 (AnyF.slices_SortFunc_none (P:=prog) { Try.sortE with } none 0 (.func (.func 41) #[] #[]) w1)
  have HOn:=hD0 (Z0e (W0:=w1) (v:=.slice none 0 0) (l:=[]) (Rd.nil w1) (by simp) List.Pairwise.nil)
  have HG:=hD0 (aI0 g1 hl0)
  clear g1 hl0 hO1 hz HC
  go_wp2_with fail
  refine Calls.mono HS.out ?_
  rintro e w2 ⟨rfl,rfl⟩
  go_wp2_with fail
  refine HOn.out.mono ?_
  rintro e w3 ⟨v3,out,rfl,hO,hN,hP⟩
  have HE:=hD0 (show Za w3 w.heap.size v3 (sortE l)∧Nw w w3 from by
   have e:out=[]:=by
    have:=hP.len
    exact List.length_eq_zero_iff.1 (Nat.le_zero.1 this)
   rw[HG.out.2]
   subst e
   exact⟨Z2f hO (fun b q=>by have:=Ur hO q;have:=HG.out.1.sz;omega),HG.out.1.trans hN⟩)
  clear hO hN hP
  go_wp2
  go_ret
  exact⟨_,rfl,HE.out.1,HE.out.2⟩
 ·have HS:=hD0 (Z3q Yi (ρ:=_) { Try.sortE with } (by intro w;kernel_rfl) (by intro w;kernel_rfl) Z25 Z40 41 Z44 Z00 _ g cap l w1 hO1 (Nat.le_trans HL.out (by decide)))
  have HG:=hD0 (aI0 g1 (Ur hO1 (g:=g) rfl))
  clear g1 hO1 HC
  go_wp2_with fail
  refine Calls.mono HS.out ?_
  rintro e w2 ⟨rfl,l2,hp,hs,hO2,ht⟩
  have hl2:l2.length=l.length:=hp.length_eq
  have hO2':=hO2
  rw[hl2] at hO2'
  have g2:Nw w w2:=Zo HG.out.1 ht (fun i e=>by subst e;exact HG.out.2)
  have HOn:=hD0 (Z0e (W0:=w2) (v:=.slice (some ⟨g,0,none⟩) l2.length cap) (l:=l2) (Za.at_ hO2) (by rw[hl2];exact HL.out) (Weak.of hs))
  rw[hl2] at HOn
  have HG2:=hD0 (aI0 g2 (aI0 hp hl2))
  clear g2 hp hs hO2 hO2' ht hl2 HS HG
  go_wp2_with fail
  refine HOn.out.mono ?_
  rintro e w3 ⟨v3,out,rfl,hO,hN,hP⟩
  have HE:=hD0 (show Za w3 w.heap.size v3 (sortE l)∧Nw w w3 from by
   have e:=hP.done (Nat.le_of_eq HG2.out.2.2) HG2.out.2.1
   subst e
   exact⟨Z2f hO (fun b q=>by have:=Ur hO q;have:=HG2.out.1.sz;omega),HG2.out.1.trans hN⟩)
  clear hO hN hP
  go_wp2
  go_ret
  exact⟨_,rfl,HE.out.1,HE.out.2⟩
theorem Z2j{w:World}{v:Value}{l:List (Int × Int)}(h:Zm w v l)(hl:l.length≤1000) :
  Calls prog 28 #[v] w fun e w'=>∃v',e=.returned v'∧Za w' w.heap.size v' (sortE l)∧Nw w w':=Z2k h (Nat.le_trans hl (by decide))
end
def Z7i(t:Int)(l:List Int):List (Int × Int):=l.map fun y=>(t,y)
def edR(q:List Rq)(r:Rq):List (Int × Int):=if 0<r.sn then Z7i r.txn (Z7p q r.id) else[]
def edH(q:List Rq)(k:Nat):List (Int × Int):=(q.take k).flatMap (edR q)
section
variable {W:Int} {q:List Rq} (h:Ok W q)
include h
end
theorem Uc{w:World}{g n cap:Nat}{l:List Int}(h:IS w (.slice (some ⟨g,0,none⟩) n cap) l){i:Nat}(hi:i<l.length):w.cell? ⟨g,i,none⟩=some (.int .i64 l[i]):=by
 rw[h.cell i hi,List.getD_eq_getElem?_getD,List.getElem?_eq_getElem hi];rfl
structure TwI(W0:World)(t:Int)(l:List Int)(v:Value)(k:Nat)(w:World):Prop where
 own:Za w W0.heap.size v (Z7i t (l.take k))
 nw:Nw W0 w
theorem Ys{x:Int × Int}:∀ {o:List (Int × Int)} {k:Nat},k≤o.length→(∀j,(h:j<o.length)→j<k→Yq o[j] x)→(∀h:k<o.length,¬Yq o[k] x)→((∃h:k<o.length,o[k]=x)→Yn x o=o)∧((¬∃h:k<o.length,o[k]=x)→Yn x o=o.take k++x::o.drop k)
 | [],k,hk,_,_=>by
  obtain rfl:k=0:=by simpa using hk
  exact⟨fun⟨h,_⟩=>absurd h (Nat.lt_irrefl 0),fun _=>rfl⟩
 | a::t,0,_,_,h2=>by
  have n1:¬Yq a x:=h2 (Nat.succ_pos _)
  unfold Yn
  rw[if_neg n1]
  constructor
  ·rintro⟨_,e⟩
   rw[if_pos (show a=x from e)]
  ·intro n
   rw[if_neg (show ¬a=x from fun e=>n ⟨Nat.succ_pos _,e⟩)]
   rfl
 | a::t,k+1,hk,h1,h2=>by
  have l1:Yq a x:=h1 0 (Nat.succ_pos _) (Nat.succ_pos _)
  obtain⟨i1,i2⟩:=Ys (x:=x) (o:=t) (k:=k) (Nat.le_of_succ_le_succ hk) (fun j hj hjk=>h1 (j+1) (Nat.succ_lt_succ hj) (Nat.succ_lt_succ hjk)) (fun h=>h2 (Nat.succ_lt_succ h))
  unfold Yn
  rw[if_pos l1]
  constructor
  ·rintro⟨h,e⟩
   rw[i1 ⟨Nat.lt_of_succ_lt_succ h,e⟩]
  ·intro n
   rw[i2 (fun⟨h,e⟩=>n ⟨Nat.succ_lt_succ h,e⟩)]
   rfl
theorem Z2i{l:List (Int × Int)}{i:Nat}(h:i<l.length):sortE (l.take (i+1))=Yn l[i] (sortE (l.take i)):=by
 unfold sortE
 rw[List.take_succ_eq_append_getElem h,List.foldl_append]
 rfl
theorem Z26{l:List (Int × Int)}{t:Int}{i:Nat}(h:i<l.length):Zh (l.take (i+1)) t=Zh (l.take i) t++(if l[i].1≠t∧l[i].2≠t then[l[i]] else[]):=by
 unfold Zh
 rw[List.take_succ_eq_append_getElem h,List.filter_append]
 congr 1
 by_cases c:l[i].1≠t∧l[i].2≠t
 ·rw[if_pos c,List.filter_cons,List.filter_nil]
  simp[c.1,c.2]
 ·rw[if_neg c,List.filter_cons,List.filter_nil]
  by_cases d:l[i].1=t
  ·simp[d]
  ·have e:l[i].2=t:=Classical.byContradiction fun e=>c ⟨d,e⟩
   simp[e]
structure ReI(l:List (Int × Int))(a:Int)(out:List Int):Prop where
 srt:out.Pairwise (·<·)
 rch:∀y∈out,Yf l a y
theorem ReI.nil(l:List (Int × Int))(a:Int):ReI l a []:=⟨List.Pairwise.nil,fun _ h=>nomatch h⟩
def ReC(l:List (Int × Int))(a:Int)(out:List Int)(i:Nat):Prop:=∀j,(h:j<l.length)→j<i→l[j].1=a∨l[j].1∈out→l[j].2∈out
theorem ReC.succ{l:List (Int × Int)}{a:Int}{out:List Int}{i:Nat}(h:ReC l a out i)(hi:i<l.length)(k:l[i].1=a∨l[i].1∈out→l[i].2∈out):ReC l a out (i+1):=fun j hj hji q=>by
 rcases Nat.lt_or_ge j i with c | c
 ·exact h j hj c q
 ·obtain rfl:j=i:=by omega
  exact k q
theorem Z31{l:List (Int × Int)}{a b:Int}{n:Nat}(w:Way l a n b):(n=1∧(a,b)∈l)∨∃m x,n=m+1∧Way l a m x∧(x,b)∈l:=by
 induction w with
 | one h=>exact .inl ⟨rfl,h⟩
 | @step a x b n h r ih =>
  rcases ih with⟨e,k⟩ | ⟨m,y,e,k1,k2⟩
  ·exact .inr ⟨1,x,by rw[e],.one h,k⟩
  ·exact .inr ⟨m+1,y,by rw[e],.step h k1,k2⟩
def Lev(l:List (Int × Int))(a:Int)(n:Nat)(x:Int):Prop:=(n=0∧x=a)∨(0<n∧V1 l a x n)
theorem Z1g{l:List (Int × Int)}{a x y:Int}{n:Nat}(h:Lev l a n x)(e:(x,y)∈l):Way l a (n+1) y:=by
 rcases h with⟨rfl,rfl⟩ | ⟨_,f⟩
 ·exact .one e
 ·exact Vg f.1 e
theorem U8{l:List (Int × Int)}{a y:Int}{n:Nat}(h:V1 l a y (n+1)):∃x,Lev l a n x∧(x,y)∈l:=by
 rcases Z31 h.1 with⟨e,k⟩ | ⟨m,x,e,k1,k2⟩
 ·obtain rfl:n=0:=by omega
  exact⟨a,.inl ⟨rfl,rfl⟩,k⟩
 ·obtain rfl:n=m:=by omega
  refine⟨x,.inr ⟨Yl k1,k1,fun j w=>?_⟩,k2⟩
  have:=h.2 _ (Vg w k2)
  omega
theorem Z48{l:List (Int × Int)}{a:Int}(d:Nat):∀ {n:Nat} {y:Int},V1 l a y (n+1+d)→∃x,V1 l a x (n+1):=by
 induction d with
 | zero=>intro n y h;exact⟨y,h⟩
 | succ d ih =>
  intro n y h
  obtain⟨x,q,_⟩:=U8 (n:=n+1+d) h
  rcases q with⟨e,_⟩ | ⟨_,f⟩
  ·omega
  ·exact ih f
def Z3t(l:List (Int × Int))(a b f:Int):Prop:=(∃n:Nat,f=n∧0<n∧V1 l a b n)∨(f = -1∧¬Yf l a b)
theorem Z3t.of{l:List (Int × Int)}{a b f:Int}(h:Z3t l a b f){n:Nat}(hn:0<n):f=n↔V1 l a b n:=by
 rcases h with⟨m,e,_,hf⟩ | ⟨e,hr⟩
 ·constructor
  ·intro k
   obtain rfl:m=n:=by omega
   exact hf
  ·intro k
   rw[e,Ua hf k]
 ·constructor
  ·intro k;omega
  ·intro k;exact absurd (U4 k.1) hr
structure LvI(l:List (Int × Int))(a b:Int)(n:Nat)(now seen:List Int):Prop where
 ino:∀x,x∈now↔Lev l a n x
 ise:∀y,y∈seen↔∃m,m≤n∧Way l a m y
 nd:seen.Nodup
 nb:∀m,m≤n→¬Way l a m b
theorem LvI.start(l:List (Int × Int))(a b:Int):LvI l a b 0 [a] [] :=
 ⟨fun x=>by simp[Lev],fun y=>⟨fun h=>(nomatch h),fun⟨m,h1,w⟩=>absurd (Yl w) (by omega)⟩,List.nodup_nil,fun m h w=>absurd (Yl w) (by omega)⟩
theorem LvI.done{l:List (Int × Int)}{a b:Int}{n:Nat}{seen:List Int}(h:LvI l a b n [] seen):¬Yf l a b:=fun r=>by
 obtain⟨m,f⟩:=Z6h r
 have hm:n<m:=Nat.lt_of_not_le fun q=>h.nb m q f.1
 cases n with
 | zero=>exact nomatch (h.ino a).2 (.inl ⟨rfl,rfl⟩)
 | succ n =>
  obtain⟨x,hx⟩:=Z48 (m-(n+1)) (n:=n) (y:=b) (by rw[Nat.add_sub_cancel' (Nat.le_of_lt hm)];exact f)
  exact nomatch (h.ino x).2 (.inr ⟨Nat.succ_pos _,hx⟩)
structure Uq(l:List (Int × Int))(a b:Int)(n:Nat)(now seen0 seen next:List Int)(i:Nat):Prop where
 top:LvI l a b n now seen0
 sn:seen=seen0++next
 mem:∀y,y∈next↔(∃j,∃h:j<l.length,j<i∧l[j].1∈now∧l[j].2=y)∧y∉seen0
 nd:seen.Nodup
 nb:∀j,(h:j<l.length)→j<i→l[j].1∈now→l[j].2≠b
theorem Uq.start{l:List (Int × Int)}{a b:Int}{n:Nat}{now seen:List Int}(h:LvI l a b n now seen):Uq l a b n now seen seen [] 0 :=
 ⟨h,by simp,fun y=>⟨fun q=>(nomatch q),fun⟨⟨j,_,q,_⟩,_⟩=>absurd q (Nat.not_lt_zero j)⟩,h.nd,fun j _ q=>absurd q (Nat.not_lt_zero j)⟩
theorem Uq.skip{l:List (Int × Int)}{a b:Int}{n:Nat}{now seen0 seen next:List Int}{i:Nat}(h:Uq l a b n now seen0 seen next i)(hi:i<l.length)(k:l[i].1∈now→l[i].2∈seen):Uq l a b n now seen0 seen next (i+1):=by
 refine⟨h.top,h.sn,fun y=>?_,h.nd,fun j hj hji hn e=>?_⟩
 ·rw[h.mem y]
  constructor
  ·rintro⟨⟨j,hj,q,r⟩,s⟩
   exact⟨⟨j,hj,by omega,r⟩,s⟩
  ·rintro⟨⟨j,hj,q,r1,r2⟩,s⟩
   rcases Nat.lt_or_ge j i with c | c
   ·exact⟨⟨j,hj,c,r1,r2⟩,s⟩
   ·obtain rfl:j=i:=by omega
    have:=k r1
    rw[r2,h.sn,List.mem_append] at this
    exact(h.mem y).1 (this.resolve_left s)
 ·rcases Nat.lt_or_ge j i with c | c
  ·exact h.nb j hj c hn e
  ·obtain rfl:j=i:=by omega
   have:=k hn
   rw[h.sn,List.mem_append] at this
   rcases this with q | q
   ·obtain⟨m,h1,h2⟩:=(h.top.ise _).1 q
    rw[e] at h2
    exact h.top.nb m h1 h2
   ·obtain⟨⟨j',hj',c',r1,r2⟩,_⟩:=(h.mem _).1 q
    exact h.nb j' hj' c' r1 (by rw[r2,e])
theorem Uq.push{l:List (Int × Int)}{a b:Int}{n:Nat}{now seen0 seen next:List Int}{i:Nat}(h:Uq l a b n now seen0 seen next i)(hi:i<l.length)(h1:l[i].1∈now)(h2:l[i].2∉seen)(h3:l[i].2≠b):Uq l a b n now seen0 (seen++[l[i].2]) (next++[l[i].2]) (i+1):=by
 have n0:l[i].2∉seen0:=fun q=>h2 (by rw[h.sn,List.mem_append];exact .inl q)
 refine⟨h.top,by rw[h.sn,List.append_assoc],fun y=>?_,?_,fun j hj hji hn e=>?_⟩
 ·rw[List.mem_append,List.mem_singleton,h.mem y]
  constructor
  ·rintro(⟨⟨j,hj,q,r⟩,s⟩ | rfl)
   ·exact⟨⟨j,hj,by omega,r⟩,s⟩
   ·exact⟨⟨i,hi,Nat.lt_succ_self i,h1,rfl⟩,n0⟩
  ·rintro⟨⟨j,hj,q,r1,r2⟩,s⟩
   rcases Nat.lt_or_ge j i with c | c
   ·exact .inl ⟨⟨j,hj,c,r1,r2⟩,s⟩
   ·obtain rfl:j=i:=by omega
    exact .inr r2.symm
 ·rw[List.nodup_append]
  exact⟨h.nd,by simp,fun x hx y hy e=>h2 (by rw[List.mem_singleton.1 hy] at e;rw[←e];exact hx)⟩
 ·rcases Nat.lt_or_ge j i with c | c
  ·exact h.nb j hj c hn e
  ·obtain rfl:j=i:=by omega
   exact h3 e
theorem Uq.found{l:List (Int × Int)}{a b:Int}{n:Nat}{now seen0 seen next:List Int}{i:Nat}(h:Uq l a b n now seen0 seen next i)(hi:i<l.length)(h1:l[i].1∈now)(h3:l[i].2=b):V1 l a b (n+1):=by
 have hl:(l[i].1,l[i].2)∈l:=gM0 hi
 rw[h3] at hl
 exact⟨Z1g ((h.top.ino _).1 h1) hl,fun m w=>Nat.lt_of_not_le fun q=>h.top.nb m q w⟩
theorem Uq.next{l:List (Int × Int)}{a b:Int}{n:Nat}{now seen0 seen next:List Int}(h:Uq l a b n now seen0 seen next l.length):LvI l a b (n+1) next seen:=by
 have hnx:∀y,y∈next↔V1 l a y (n+1):=fun y=>by
  rw[h.mem y]
  constructor
  ·rintro⟨⟨j,hj,_,r1,r2⟩,s⟩
   have hl:(l[j].1,l[j].2)∈l:=gM0 hj
   rw[r2] at hl
   exact⟨Z1g ((h.top.ino _).1 r1) hl,fun m w=>Nat.lt_of_not_le fun q=>s ((h.top.ise y).2 ⟨m,q,w⟩)⟩
  ·intro f
   obtain⟨x,hx,e⟩:=U8 f
   obtain⟨j,hj,ej⟩:=List.getElem_of_mem e
   refine⟨⟨j,hj,hj,by rw[ej];exact(h.top.ino x).2 hx,by rw[ej]⟩,fun q=>?_⟩
   obtain⟨m,hm,w⟩:=(h.top.ise y).1 q
   have:=f.2 m w
   omega
 refine⟨fun y=>?_,fun y=>?_,h.nd,fun m hm w=>?_⟩
 ·rw[hnx y]
  exact⟨fun f=>.inr ⟨Nat.succ_pos n,f⟩,fun f=>f.elim (fun⟨e,_⟩=>absurd e (Nat.succ_ne_zero n)) (fun⟨_,f⟩=>f)⟩
 ·rw[h.sn,List.mem_append,hnx y]
  constructor
  ·rintro(q | q)
   ·obtain⟨m,hm,w⟩:=(h.top.ise y).1 q
    exact⟨m,by omega,w⟩
   ·exact⟨n+1,Nat.le_refl _,q.1⟩
  ·rintro⟨m,hm,w⟩
   by_cases c:∃k,k≤n∧Way l a k y
   ·exact .inl ((h.top.ise y).2 c)
   ·have:m=n+1:=by
     rcases Nat.lt_or_ge n m with q | q
     ·omega
     ·exact absurd ⟨m,q,w⟩ c
    subst this
    exact .inr ⟨w,fun k w'=>Nat.lt_of_not_le fun q=>c ⟨k,q,w'⟩⟩
 ·rcases Nat.lt_or_ge n m with q | q
  ·obtain rfl:m=n+1:=by omega
   obtain⟨k,x,e,w1,w2⟩:∃k x,n+1=k+1∧Lev l a k x∧(x,b)∈l:=by
    have f:V1 l a b (n+1):=⟨w,fun k w'=>Nat.lt_of_not_le fun q=>h.top.nb k q w'⟩
    obtain⟨x,hx,e⟩:=U8 f
    exact⟨n,x,rfl,hx,e⟩
   obtain rfl:k=n:=by omega
   obtain⟨j,hj,ej⟩:=List.getElem_of_mem w2
   exact h.nb j hj hj (by rw[ej];exact(h.top.ino x).2 w1) (by rw[ej])
  ·exact h.top.nb m q w
def CyI(s:List (Int × Int))(i:Nat):Prop:=∀j,(h:j<s.length)→j<i→¬Yf s s[j].1 s[j].1
theorem CyI.zero(s:List (Int × Int)):CyI s 0:=fun j _ h=>absurd h (Nat.not_lt_zero j)
theorem CyI.succ{s:List (Int × Int)}{i:Nat}(h:CyI s i)(hi:i<s.length)(n:¬Yf s s[i].1 s[i].1):CyI s (i+1):=fun j hj hji=>by
 rcases Nat.lt_or_ge j i with c | c
 ·exact h j hj c
 ·obtain rfl:j=i:=by omega
  exact n
theorem CyI.done{s:List (Int × Int)}(h:CyI s s.length):¬∃v,Yf s v v:=fun⟨v,r⟩=>by
 obtain⟨y,e⟩:=Yo r
 obtain⟨j,hj,ej⟩:=List.getElem_of_mem e
 refine h j hj hj ?_
 rw[ej];exact r
theorem CyI.least{s:List (Int × Int)}(hs:Zg s){i:Nat}(h:CyI s i)(hi:i<s.length){v:Int}(r:Yf s v v):s[i].1≤v:=by
 obtain⟨y,e⟩:=Yo r
 obtain⟨j,hj,ej⟩:=List.getElem_of_mem e
 rcases Nat.lt_trichotomy j i with c | c | c
 ·exact absurd (by rw[ej];exact r) (h j hj c)
 ·subst c;rw[ej];exact Int.le_refl _
 ·have:=List.pairwise_iff_getElem.1 hs i j hi hj c
  rw[ej] at this
  unfold Yq at this
  simp only at this
  omega
structure GrI(s:List (Int × Int))(a:Int)(N:Nat)(r:List Int)(last:Int)(n:Nat):Prop where
 far:V1 s last a n
 pos:0<n
 len:r.length+n=N
 la:(a::r).getLast?=some last
 all:∀t,Greedy s a last n t→Greedy s a a N (r++t)
theorem GrI.start{s:List (Int × Int)}{a:Int}{N:Nat}(f:V1 s a a N):GrI s a N [] a N:=⟨f,Yl f.1,by simp,rfl,fun t g=>g⟩
theorem GrI.step{s:List (Int × Int)}(hs:Zg s){a:Int}{N:Nat}{r:List Int}{last:Int}{n:Nat}(h:GrI s a N r last (n+2)){k:Nat}(hk:k<s.length)(h1:s[k].1=last)(h2:V1 s s[k].2 a (n+1))(h3:∀j,(hj:j<s.length)→j<k→¬(s[j].1=last∧V1 s s[j].2 a (n+1))):GrI s a N (r++[s[k].2]) s[k].2 (n+1):=by
 refine⟨h2,Nat.succ_pos n,by have:=h.len;rw[List.length_append,List.length_singleton];omega,by rw[←List.cons_append,List.getLast?_concat],fun t g=>?_⟩
 rw[List.append_assoc]
 refine h.all _ (.step ?_ h2 (fun y hy f=>?_) g)
 ·rw[←h1];exact gM0 hk
 ·obtain⟨j,hj,ej⟩:=List.getElem_of_mem hy
  have hjk:k≤j:=Nat.le_of_not_lt fun q=>h3 j hj q ⟨by rw[ej],by rw[ej];exact f⟩
  rcases Nat.lt_or_eq_of_le hjk with c | c
  ·have:=List.pairwise_iff_getElem.1 hs k j hk hj c
   rw[ej] at this
   unfold Yq at this
   simp only[h1] at this
   omega
  ·subst c;rw[ej];exact Int.le_refl _
theorem GrI.has{s:List (Int × Int)}{a:Int}{N:Nat}{r:List Int}{last:Int}{n:Nat}(h:GrI s a N r last (n+2)):¬∀j,(hj:j<s.length)→¬(s[j].1=last∧V1 s s[j].2 a (n+1)):=fun q=>by
 obtain⟨x,e,f⟩:=Z4a h.far
 obtain⟨j,hj,ej⟩:=List.getElem_of_mem e
 exact q j hj ⟨by rw[ej],by rw[ej];exact f⟩
theorem GrI.done{s:List (Int × Int)}{a:Int}{N:Nat}{r:List Int}{last:Int}(h:GrI s a N r last 1)(hm:∀v,Yf s v v→a≤v)(f:V1 s a a N):Y1 s (a::r) true:=by
 have hN:N=r.length+1:=h.len.symm
 have g:Greedy s a a N r:=by
  have:=h.all [] (.last (by
   rcases Z31 h.far.1 with⟨_,k⟩ | ⟨m,x,e,k1,_⟩
   ·exact k
   ·have:=Yl k1;omega))
  rwa [List.append_nil] at this
 subst hN
 exact⟨⟨fun _=>⟨a,U4 f.1⟩,fun _=>rfl⟩,(fun q=>nomatch q),fun _=>⟨a,r,rfl,U4 f.1,hm,f,g⟩⟩
theorem Y1.unsort{l:List (Int × Int)}{c:List Int}{b:Bool}(h:Y1 (sortE l) c b):Y1 l c b:=Vk (fun _=>V0) h
theorem Z78(v:Value)(q:List (Int × Int))(w:World)(hl:q.length≤100000)(h:Zm w v q) :
  Calls prog 8 #[v] w fun e w'=>∃v',e=.returned v'∧Nw w w'∧Za w' w.heap.size v' q:=by
 obtain⟨v',w1,hrun,hO,hN⟩:=Vp Yi h hl
 obtain⟨a,c,rfl,h⟩:=h
 have HR:=hD0 hrun
 have HO:=hD0 (aI0 hN hO)
 clear hrun hO hN h
 go_enter func8,ntmps8
 go_wp2_with (at_builtin;refine Zb (by rfl) (.tmp 3) (.tmp 4) 22 rfl _ _ _ _ rfl rfl HR.out ?_)
 go_ret
 exact⟨_,rfl,HO.out.1,HO.out.2⟩
theorem Z2x{w0:World}{v:Value}{l:List Int}(h:IS w0 v l)(hl:l.length≤100000)(x:Int) :
  Calls prog 37 #[v,.int .i64 x] w0 fun e w'=>e=.returned (.bool (decide (x∈l)))∧Nw w0 w':=by
 have HL:=hD0 h
 obtain⟨la,lc,rfl,h1⟩:=h.box
 have H1:=hD0 h1
 obtain⟨n,hn⟩:∃n,l.length=n:=⟨_,rfl⟩
 have HN:=hD0 hn
 rw[hn] at hl ⊢
 obtain⟨B,hB⟩:∃b,decide (x∈l)=b:=⟨_,rfl⟩
 have HB:=hD0 hB
 rw[hB]
 clear h h1 hn hB
 go_enter func37,ntmps37
 go_wp2_with fail
 go_loopw [5] (fun v wr=>∃k:Nat,v=.int .i64 k∧k≤n∧Hid (x∉l.take k∧Nw w0 wr)) (fun v _=>n-(intOf v).toNat)
 case atStart=>exact⟨0,rfl,Nat.zero_le _,hD0 ⟨by simp,Nw.refl _⟩⟩
 case round =>
  obtain⟨k,rfl,hk,HG⟩:=hrel
  by_cases hlt:k<n
  ·have hkl:k<l.length:=by rw[HN.out];exact hlt
   obtain⟨lg,rfl,_⟩:=H1.out (by omega)
   have cy:=Uc (HL.out.nw HG.out.2) hkl
   obtain⟨y,hy⟩:∃y,l[k]=y:=⟨_,rfl⟩
   rw[hy] at cy
   have HY:=hD0 (show ∃h:k<l.length,l[k]=y from⟨hkl,hy⟩)
   have Y5:=Zp hlt
   have hw:=Zw k (k+1) (Nat.le_trans (Nat.le_of_lt hlt) (Nat.le_trans hl (by decide))) rfl
   obtain⟨k1,hk1⟩:∃m,k+1=m:=⟨_,rfl⟩
   have HK1:=hD0 (aI0 hk1 hlt)
   rw[hk1] at hw
   clear hk1 hkl hy hlt
   by_cases e:y=x
   ·have d1:(y==x)=true:=by simpa using e
    have HT:=hD0 (show B=true from by
     obtain⟨h1,h2⟩:=HY.out
     rw[←HB.out,decide_eq_true_iff,←e,←h2]
     exact gM0 h1)
    clear e
    go_wp2_with fail
    go_ret
    exact⟨by rw[HT.out];rfl,HG.out.2⟩
   ·have d1:(y==x)=false:=by simpa using e
    have HT:=hD0 (show x∉l.take k1 from by
     obtain⟨h1,h2⟩:=HY.out
     rw[←HK1.out.1,List.take_succ_eq_append_getElem h1,List.mem_append,List.mem_singleton,h2]
     exact fun q=>q.elim HG.out.1 (fun q=>e q.symm))
    clear e
    go_wp2_with fail
    exact⟨⟨k1,rfl,by rw[←HK1.out.1];exact HK1.out.2,hD0 ⟨HT.out,HG.out.2⟩⟩,by rw[←HK1.out.1];exact Zk HK1.out.2⟩
  ·obtain rfl:k=n:=Nat.le_antisymm hk (Nat.le_of_not_lt hlt)
   have Y5:¬k<k:=Nat.lt_irrefl k
   have HT:=hD0 (show B=false from by
    rw[←HB.out,decide_eq_false_iff_not]
    have:=HG.out.1
    rwa [List.take_of_length_le (by rw[HN.out];exact Nat.le_refl _)] at this)
   clear hlt
   go_wp2_with fail
   go_ret
   exact⟨by rw[HT.out];rfl,HG.out.2⟩
theorem Z3m{w0:World}(a b:Int × Int) :
  Calls prog 36 #[egV a,egV b] w0 fun e w'=>e=.returned (.bool (decide (Yq a b)))∧Nw w0 w':=by
 obtain⟨a1,a2⟩:=a
 obtain⟨b1,b2⟩:=b
 have hN:Nw w0 ((w0.alloc (.cells #[.int .i64 a1,.int .i64 a2] 29)).alloc (.cells #[.int .i64 b1,.int .i64 b2] 29)):=((Nw.refl w0).alloc _).alloc _
 have HN:=hD0 hN
 clear hN
 rcases Int.lt_trichotomy a1 b1 with h | h | h
 ·have d:decide (a1<b1)=true:=decide_eq_true h
  have HE:=hD0 (show decide (Yq (a1,a2) (b1,b2))=true from decide_eq_true (.inl h))
  rw[HE.out]
  clear h
  go_enter func36,ntmps36
  go_wp2_with fail
  go_ret
  exact⟨rfl,HN.out⟩
 ·subst h
  have d:decide (a1<a1)=false:=decide_eq_false (Int.lt_irrefl _)
  obtain⟨c,hc⟩:∃c,decide (a2<b2)=c:=⟨_,rfl⟩
  have HE:=hD0 (show decide (Yq (a1,a2) (a1,b2))=c from by
   rw[←hc]
   unfold Yq
   simp[Int.lt_irrefl])
  rw[HE.out]
  go_enter func36,ntmps36
  go_wp2_with fail
  go_ret
  exact⟨rfl,HN.out⟩
 ·have d:decide (a1<b1)=false:=by rw[decide_eq_false_iff_not];omega
  have d2:(a1==b1)=false:=by rw[beq_eq_false_iff_ne];omega
  have HE:=hD0 (show decide (Yq (a1,a2) (b1,b2))=false from by
   rw[decide_eq_false_iff_not]
   unfold Yq
   simp only
   omega)
  rw[HE.out]
  clear h
  go_enter func36,ntmps36
  go_wp2_with fail
  go_ret
  exact⟨rfl,HN.out⟩
def Z6r:Value→Nat
 | .slice _ n _=>n
 | _=>0
structure ReW(W0:World)(l:List (Int × Int))(a:Int)(out:List Int)(v:Value)(w:World):Prop where
 is:IS w v out
 nw:Nw W0 w
 inv:ReI l a out
structure ReJ(W0:World)(l:List (Int × Int))(a:Int)(out0 out:List Int)(more:Bool)(i:Nat)(v:Value)(w:World):Prop where
 rw_:ReW W0 l a out v w
 no:more=false→out.length=out0.length∧ReC l a out i
 yes:more=true→out0.length<out.length
def Z72:Value→Prop
 | .slice _ n c=>n≤c
 | _=>True
def hoI(a b:Rq):Int:=if (a.md != 0)=(b.md != 0)then 0 else if (a.md != 0)=true then -1 else 1
def cmI(a b:Int):Int:=if a<b then -1 else if b<a then 1 else 0
def toI(a b:Rq):Int:=if hoI a b≠0 then hoI a b else cmI a.sn b.sn
structure RqB(w:World)(p:Nat)(a b m n s:Int):Prop where
 lt:p<w.heap.size
 c0:w.cell? ⟨p,0,none⟩=some (.int .i64 a)
 c1:w.cell? ⟨p,1,none⟩=some (.int .i64 b)
 c2:w.cell? ⟨p,2,none⟩=some (.int .i64 m)
 c3:w.cell? ⟨p,3,none⟩=some (.int .i64 n)
 c4:w.cell? ⟨p,4,none⟩=some (.int .i64 s)
structure SmH(w:World)(gf:Nat)(lb:Array Value)(g n a b:Nat)(l:List Int):Prop where
 eg:∀args w,(callFunc gf args).run prog w=.ok (.enter gf args) w
 cell:∀i z,i<n→Nw w z→z.cell? ⟨g,i,none⟩=some (.int .i64 (l.getD i 0))
 call:∀i j,a≤i→i<j→j<b→∃v:Int,decide (v<0)=false∧∀z,Nw w z→Calls prog gf (#[.int .i64 (l.getD j 0),.int .i64 (l.getD i 0)]++lb) z fun e w'=>e=.returned (.int .i64 v)∧Nw z w'
def HR2(X:Hq × Bool × Int)(w:World)(e:Ending)(w':World):Prop:=∃v',e=.returned (.tuple #[hdV X.1.t X.1.r v' X.1.W,.bool X.2.1,.int .i64 X.2.2])∧Nw w w'∧Z6y w' v' X.1.q∧Z72 v'
def Z3o(q:List Rq)(x:Int):Rq:=q.getD x.toNat ⟨0,0,0,0,0⟩
def tC(q:List Rq)(x y:Int):Int:=toI (Z3o q x) (Z3o q y)
end Go.Proofs.Ytbnpnccpobkodaa
namespace Go.Proofs
open _root_.Go.Proofs.Try
open Go.Shelf
def Try.lays114_ren:Go.Shelf.Ren:=⟨fun | 114=>65 | n=>n,fun | 28=>25 | 3=>3 | 4=>4 | 9=>9 | 20=>20 | 0=>0 | n=>n,fun | n=>n⟩
theorem Try.lays114:Go.Proofs.Lays.n114 prog Try.lays114_ren:={
 mixed:=by kernel_rfl
 f114:=func65.trans (congrArg some (by kernel_rfl))
 t0:=underlying0
 a0:=Try.isAgg0
 z0:=Try.sizeOf0
 v0:=Try.zeroValue0
 t3:=underlying3
 a3:=Try.isAgg3
 z3:=Try.sizeOf3
 v3:=Try.zeroValue3
 t4:=underlying4
 a4:=Try.isAgg4
 z4:=Try.sizeOf4
 v4:=Try.zeroValue4
 t9:=underlying9
 a9:=Try.isAgg9
 z9:=Try.sizeOf9
 v9:=Try.zeroValue9
 t20:=underlying20
 a20:=Try.isAgg20
 z20:=Try.sizeOf20
 v20:=Try.zeroValue20
 t28:=underlying25
 a28:=Try.isAgg25
 z28:=Try.sizeOf25
 v28:=Try.zeroValue25 }
open Go.Lib in
theorem Try.slices_Min_int(b off n c:Nat)(zs:List Int)(w:World)(hn:0<n)(hz:n≤zs.length)(hbig:n≤9223372036854775807)(hc:∀j,j<zs.length→w.cell? ⟨b,off+j,none⟩=some (.int .i64 (zs.getD j 0))) :
  Calls prog 65 #[.slice (some ⟨b,off,none⟩) n c] w fun e w'=>e=.returned (.int .i64 (Lib.minOf (zs.take n)))∧w'=w:=Any.slices_Min_int Try.lays114 b off n c zs w hn hz hbig hc
def Try.lays112_ren:Go.Shelf.Ren:=⟨fun | 112=>45 | n=>n,fun | 28=>25 | 3=>3 | 4=>4 | 0=>0 | n=>n,fun | n=>n⟩
theorem Try.lays112:Go.Proofs.Lays.n112 prog Try.lays112_ren:={
 mixed:=by kernel_rfl
 f112:=func45.trans (congrArg some (by kernel_rfl))
 t0:=underlying0
 a0:=Try.isAgg0
 z0:=Try.sizeOf0
 v0:=Try.zeroValue0
 t3:=underlying3
 a3:=Try.isAgg3
 z3:=Try.sizeOf3
 v3:=Try.zeroValue3
 t4:=underlying4
 a4:=Try.isAgg4
 z4:=Try.sizeOf4
 v4:=Try.zeroValue4
 t28:=underlying25
 a28:=Try.isAgg25
 z28:=Try.sizeOf25
 v28:=Try.zeroValue25 }
open Go.RowKit Go.Lib Go.Sort in
theorem Try.slices_Reverse_int(blk off cap:Nat)(zs:List Int)(w:World)(hH:Holds (Value.int .i64) w blk off zs.toArray)(hsz:zs.length≤9223372036854775807) :
  Calls prog 45 #[.slice (some ⟨blk,off,none⟩) zs.length cap] w fun e w'=>e=.returned (.tuple #[])∧∃n,w'=putRow (Value.int .i64) (Sort.ahead w n) blk off zs.reverse.toArray:=Any.slices_Reverse_int Try.lays112 blk off cap zs w hH hsz
open Go.RowKit Go.Lib Go.Sort in
theorem Try.slices_Reverse_int_empty(a:Option Addr)(cap:Nat)(w:World) :
  Calls prog 45 #[.slice a 0 cap] w fun e w'=>e=.returned (.tuple #[])∧w'=w:=Any.slices_Reverse_int_empty Try.lays112 a cap w
end Go.Proofs
namespace Go.Proofs.Ytbnpnccpobkodaa
open Go.RowKit _root_.Go.Proofs.Try
structure Z86(q q':List Rq)(T:List Int)(i:Nat):Prop where
 same:∀x∈T.drop i,Z3o q' x=Z3o q x
 rest:∀k:Nat,k<q.length→(k:Int)∉T.drop i→¬0<(Z3o q' k).sn
structure TOk(q:List Rq)(T:List Int):Prop where
 sorted:T.Pairwise (fun x y=>tC q x y<0)
 mem:∀x,x∈T↔∃k:Nat,k<q.length∧x=k∧0<(Z3o q x).sn
 nodup:T.Nodup
structure Hv where
 h:Hq
 v:Value
structure Z84(w:World)(x:Hv):Prop where
 at_:Z6y w x.v x.h.q
 ok:Ok x.h.W x.h.q
 len:x.h.q.length≤12
def edL(l:List Hv)(k:Nat):List (Int × Int):=(l.take k).flatMap fun x=>edH x.h.q x.h.q.length
theorem Z1e{w w':World}{row:Option Nat}(g:w.grownBy w' row):Ze (fun b=>row=some b) w w':=⟨g.os,g.tape,g.output,g.size,fun k hk hn=>g.block k hk (fun e=>hn e.symm)⟩
theorem Z4h{α:Type}{P:Program}{ST T:TypeId}{sz bytes:Nat}{row:α→List Value}(E:U5 P ST T sz bytes row){w:World}{g0:Nat}{v v2:Value}{l sg:List α}(h:Y2 T sz row w g0 v l)(h2:Rd sz row w v2 sg)(hsm:l.length+sg.length≤100000)(hg0:g0≤w.heap.size) :
  ∃v' w1,(Builtin.append_ #[ST,ST] ST #[v,v2]).run P w=.ok v' w1∧Y2 T sz row w1 g0 v' (l++sg)∧w.grownBy w1 v.ownBlock∧(v'.ownBlock=v.ownBlock∨v'.ownBlock=some w.heap.size):=by
 obtain⟨a,c,rfl,⟨rfl,h0⟩ | ⟨b,o,rfl,hc⟩⟩:=h2
 ·cases a with
  | none =>
   obtain rfl:=h0 rfl
   obtain⟨i0,z,hi,hz0,hz1,hz2,hz3⟩:=E.inf
   exact⟨_,_,run_append_owned_none (P:=P) w g0 ST ST T i0 sz E.und hi _ _ _ h,by rw[List.append_nil];exact h,(Nw.refl w).grownBy _,.inl rfl⟩
  | some ad=>exact Y2.many E h [] ad c (fun j u hu=>by simp[Z4] at hu) hsm hg0
 ·exact Y2.many E h sg ⟨b,o,none⟩ c (hc.flat E.len E.pos) hsm hg0
structure EdI(W0:World)(l:List Hv)(v:Value)(k:Nat)(w:World):Prop where
 own:Za w W0.heap.size v (edL l k)
 nw:Nw W0 w
structure EdJ(W0 w4:World)(A:Nat)(l:List Hv)(q:List Rq)(v:Value)(k n:Nat)(w:World):Prop where
 own:Za w W0.heap.size v (edL l k++edH q n)
 nw:Nw W0 w
 tch:Ze (fun j=>W0.heap.size≤j∧j≠A) w4 w
 off:v.ownBlock≠some A
end Go.Proofs.Ytbnpnccpobkodaa
