/- Texts merged: WdF -/
import Derived.Test.YtobnolgphljoeaaWaitsCyclesB8
set_option linter.unusedVariables false
set_option maxRecDepth 100000
set_option maxHeartbeats 16000000
namespace Go.Proofs.Ytobnolgphljoeaa
open Go.RowKit _root_.Go.Proofs.Try
theorem Z1i(a:Option Addr)(len cap:Nat)(l:List (Int × Int))(x y:Int)(W:World)(h:EgIn W a len cap l)(hl:len≤1000)(hm:(x,y)∈l) :
  Calls prog 11 #[.slice a len cap,.agg #[.int .i64 x,.int .i64 y]] W fun e W'=>e=.returned (.bool true)∧Nw W W':=by
 have HE:=hD0 h
 have HM:=hD0 (show ∃j,∃h:j<l.length,l[j]=(x,y) from by obtain⟨j,hj,e⟩:=List.getElem_of_mem hm;exact⟨j,hj,e⟩)
 obtain⟨a',c',e',hed⟩:=h.rd
 simp only[Value.slice.injEq] at e'
 obtain⟨rfl,hlx,rfl⟩:=e'
 rcases hed with⟨q,_⟩ | ⟨eb,eo,rfl,hrc⟩
 ·rw[q] at hm;cases hm
 have HD:=hD0 hrc
 clear hlx hrc hm h
 go_enter func11,ntmps11
 go_wp2_with fail
 have HM2:=HM
 obtain⟨j,hj,hjx⟩:=HM.out
 have HJ:=hD0 (show ∃h:j<l.length,l[j]=(x,y) from⟨hj,hjx⟩)
 have hjn:j<len:=by rw[←HE.out.hl];exact hj
 have hal:=Z9 W (.cells #[.int .i64 x,.int .i64 y] 30)
 have g4:Nw W (W.alloc (.cells #[.int .i64 x,.int .i64 y] 30)):=(Nw.refl W).alloc _
 obtain⟨w4,hw4⟩:∃w4,W.alloc (.cells #[.int .i64 x,.int .i64 y] 30)=w4:=⟨_,rfl⟩
 obtain⟨B,hB⟩:∃B,W.heap.size=B:=⟨_,rfl⟩
 rw[hB] at hal ⊢
 rw[hw4] at hal g4 ⊢
 have HAL:=hD0 hal
 have HG4:=hD0 g4
 have HD4:=hD0 (HD.out.nw g4)
 clear hal g4 hw4 hB HM HM2 hj hjx
 go_loopw [5] (fun v wr=>∃k:Nat,v=.int .i64 k∧k≤j∧Hid (Nw w4 wr)) (fun v _=>j-(intOf v).toNat)
 case atStart=>exact⟨0,rfl,Nat.zero_le _,hD0 (Nw.refl _)⟩
 case round =>
  rename_i wr
  obtain⟨k,rfl,hk,HI⟩:=hrel
  have hkn:k<len:=Nat.lt_of_le_of_lt hk hjn
  have hkl:k<l.length:=by rw[HE.out.hl];exact hkn
  have hrw:=HD4.out.nw HI.out
  obtain⟨x0,x1⟩:=hrw.eg hkl
  obtain⟨e,he⟩:∃e,l[k]=e:=⟨_,rfl⟩
  rw[he] at x0 x1
  have hlt':=Zo hkn
  have hw:=Y2 k (k+1) (Nat.le_trans (Nat.le_of_lt hkn) (Nat.le_trans hl (by decide))) rfl
  obtain⟨k1,hk1⟩:∃m,k+1=m:=⟨_,rfl⟩
  have HK1:=hD0 hk1
  rw[hk1] at hw
  obtain⟨ex,ey⟩:=e
  simp only at x0 x1
  have t0:∀z,Nw wr z→z.cell? ⟨B,0,none⟩=some (.int .i64 x):=fun z g=>(HI.out.trans g).kp (Z7 (j:=0) HAL.out)
  have t1:∀z,Nw wr z→z.cell? ⟨B,1,none⟩=some (.int .i64 y):=fun z g=>(HI.out.trans g).kp (Z7 (j:=1) HAL.out)
  have t2:∀z,Nw wr z→z.cell? ⟨eb,eo+k*2,none⟩=some (.int .i64 ex):=fun z g=>g.kp x0
  have t3:∀z,Nw wr z→z.cell? ⟨eb,eo+k*2+1,none⟩=some (.int .i64 ey):=fun z g=>g.kp x1
  have HE1:=hD0 he
  clear hk1 hrw x0 x1 he
  by_cases hx:ex=x
  ·subst hx
   by_cases hy:ey=y
   ·subst hy
    go_wp2_with fail
    refine Z4 [] (Nw wr) (by kernel_rfl) ?_
    change Z5 _ _ _ _ _ _ 6 #[false,false,false,false,false,false] _ wr.drew
    obtain⟨y4,hy4⟩:∃y,wr.drew=y:=⟨_,rfl⟩
    rw[hy4]
    have hS0:Nw wr y4:=by rw[←hy4];exact(Nw.refl wr).dr
    clear hy4
    refine Z0 0 rfl (by kernel_rfl) (by kernel_rfl) (by kernel_rfl) (fun v c a w h=>h) ?_
    (first | (refine⟨undef,Or.inr ⟨by rfl,rfl⟩,?_⟩) | (apply Exists.intro;refine⟨Or.inl ⟨by rfl,?_⟩,?_⟩;(intro x hx';go_simp;first | done | with_reducible rfl)))
    (try simp only[Act.put,List.getElem_toArray,List.getElem_cons_zero,List.getElem_cons_succ,List.setIfInBounds_toArray,List.set_cons_zero,List.set_cons_succ])
    refine Z0 1 rfl (by kernel_rfl) (by kernel_rfl) (by kernel_rfl) (fun v c a w h=>h) ?_
    (first | (refine⟨undef,Or.inr ⟨by rfl,rfl⟩,?_⟩) | (apply Exists.intro;refine⟨Or.inl ⟨by rfl,?_⟩,?_⟩;(intro x hx';go_simp;first | done | with_reducible rfl)))
    (try simp only[Act.put,List.getElem_toArray,List.getElem_cons_zero,List.getElem_cons_succ,List.setIfInBounds_toArray,List.set_cons_zero,List.set_cons_succ])
    refine Z0 2 rfl (by kernel_rfl) (by kernel_rfl) (by kernel_rfl) (fun v c a w h=>h) ?_
    (first | (refine⟨undef,Or.inr ⟨by rfl,rfl⟩,?_⟩) | (apply Exists.intro;refine⟨Or.inl ⟨by rfl,?_⟩,?_⟩;(intro x hx';go_simp;first | done | with_reducible rfl)))
    (try simp only[Act.put,List.getElem_toArray,List.getElem_cons_zero,List.getElem_cons_succ,List.setIfInBounds_toArray,List.set_cons_zero,List.set_cons_succ])
    refine Z1 3 rfl (by kernel_rfl) (by kernel_rfl) (by kernel_rfl) (by kernel_rfl) (fun v c a w h=>h) hS0 ?_
    (first | (refine⟨undef,Or.inr ⟨by rfl,rfl⟩,?_⟩) | (apply Exists.intro;refine⟨Or.inl ⟨by rfl,?_⟩,?_⟩;(intro x hx';go_simp;first | done | with_reducible rfl)))
    (try simp only[Act.put,List.getElem_toArray,List.getElem_cons_zero,List.getElem_cons_succ,List.setIfInBounds_toArray,List.set_cons_zero,List.set_cons_succ])
    refine Z1 4 rfl (by kernel_rfl) (by kernel_rfl) (by kernel_rfl) (by kernel_rfl) (fun v c a w h=>h) hS0 ?_
    (first | (refine⟨undef,Or.inr ⟨by rfl,rfl⟩,?_⟩) | (apply Exists.intro;refine⟨Or.inl ⟨by rfl,?_⟩,?_⟩;(intro x hx';go_simp;first | done | with_reducible rfl)))
    (try simp only[Act.put,List.getElem_toArray,List.getElem_cons_zero,List.getElem_cons_succ,List.setIfInBounds_toArray,List.set_cons_zero,List.set_cons_succ])
    refine Z0 5 rfl (by kernel_rfl) (by kernel_rfl) (by kernel_rfl) (fun v c a w h=>h) ?_
    (first | (refine⟨undef,Or.inr ⟨by rfl,rfl⟩,?_⟩) | (apply Exists.intro;refine⟨Or.inl ⟨by rfl,?_⟩,?_⟩;(intro x hx';go_simp;first | done | with_reducible rfl)))
    (try simp only[Act.put,List.getElem_toArray,List.getElem_cons_zero,List.getElem_cons_succ,List.setIfInBounds_toArray,List.set_cons_zero,List.set_cons_succ])
    refine Z2 (by kernel_rfl) ?_ _
    refine NoPanic.normal ?_
    (try simp only[Act.put,List.getElem_toArray,List.getElem_cons_zero,List.getElem_cons_succ,List.setIfInBounds_toArray,List.set_cons_zero,List.set_cons_succ])
    have HG5:=hD0 (HI.out.trans hS0)
    clear hS0 t0 t1 t2 t3
    go_wp2_with fail
    go_ret
    exact⟨rfl,HG4.out.trans HG5.out⟩
   ·have HN:=hD0 (show k1≤j from by
     obtain⟨h1,h2⟩:=HJ.out
     rw[←HK1.out]
     rcases Nat.lt_or_ge k j with q | q
     ·exact q
     ·obtain rfl:k=j:=Nat.le_antisymm hk q
      rw[HE1.out] at h2
      exact absurd (Prod.mk.inj h2).2 hy)
    go_wp2_with fail
    refine Z4 [] (Nw wr) (by kernel_rfl) ?_
    change Z5 _ _ _ _ _ _ 6 #[false,false,false,false,false,false] _ wr.drew
    obtain⟨y4,hy4⟩:∃y,wr.drew=y:=⟨_,rfl⟩
    rw[hy4]
    have hS0:Nw wr y4:=by rw[←hy4];exact(Nw.refl wr).dr
    clear hy4
    refine Z0 0 rfl (by kernel_rfl) (by kernel_rfl) (by kernel_rfl) (fun v c a w h=>h) ?_
    (first | (refine⟨undef,Or.inr ⟨by rfl,rfl⟩,?_⟩) | (apply Exists.intro;refine⟨Or.inl ⟨by rfl,?_⟩,?_⟩;(intro x hx';go_simp;first | done | with_reducible rfl)))
    (try simp only[Act.put,List.getElem_toArray,List.getElem_cons_zero,List.getElem_cons_succ,List.setIfInBounds_toArray,List.set_cons_zero,List.set_cons_succ])
    refine Z0 1 rfl (by kernel_rfl) (by kernel_rfl) (by kernel_rfl) (fun v c a w h=>h) ?_
    (first | (refine⟨undef,Or.inr ⟨by rfl,rfl⟩,?_⟩) | (apply Exists.intro;refine⟨Or.inl ⟨by rfl,?_⟩,?_⟩;(intro x hx';go_simp;first | done | with_reducible rfl)))
    (try simp only[Act.put,List.getElem_toArray,List.getElem_cons_zero,List.getElem_cons_succ,List.setIfInBounds_toArray,List.set_cons_zero,List.set_cons_succ])
    refine Z0 2 rfl (by kernel_rfl) (by kernel_rfl) (by kernel_rfl) (fun v c a w h=>h) ?_
    (first | (refine⟨undef,Or.inr ⟨by rfl,rfl⟩,?_⟩) | (apply Exists.intro;refine⟨Or.inl ⟨by rfl,?_⟩,?_⟩;(intro x hx';go_simp;first | done | with_reducible rfl)))
    (try simp only[Act.put,List.getElem_toArray,List.getElem_cons_zero,List.getElem_cons_succ,List.setIfInBounds_toArray,List.set_cons_zero,List.set_cons_succ])
    refine Z1 3 rfl (by kernel_rfl) (by kernel_rfl) (by kernel_rfl) (by kernel_rfl) (fun v c a w h=>h) hS0 ?_
    (first | (refine⟨undef,Or.inr ⟨by rfl,rfl⟩,?_⟩) | (apply Exists.intro;refine⟨Or.inl ⟨by rfl,?_⟩,?_⟩;(intro x hx';go_simp;first | done | with_reducible rfl)))
    (try simp only[Act.put,List.getElem_toArray,List.getElem_cons_zero,List.getElem_cons_succ,List.setIfInBounds_toArray,List.set_cons_zero,List.set_cons_succ])
    refine Z1 4 rfl (by kernel_rfl) (by kernel_rfl) (by kernel_rfl) (by kernel_rfl) (fun v c a w h=>h) hS0 ?_
    (first | (refine⟨undef,Or.inr ⟨by rfl,rfl⟩,?_⟩) | (apply Exists.intro;refine⟨Or.inl ⟨by rfl,?_⟩,?_⟩;(intro x hx';go_simp;first | done | with_reducible rfl)))
    (try simp only[Act.put,List.getElem_toArray,List.getElem_cons_zero,List.getElem_cons_succ,List.setIfInBounds_toArray,List.set_cons_zero,List.set_cons_succ])
    refine Z0 5 rfl (by kernel_rfl) (by kernel_rfl) (by kernel_rfl) (fun v c a w h=>h) ?_
    (first | (refine⟨undef,Or.inr ⟨by rfl,rfl⟩,?_⟩) | (apply Exists.intro;refine⟨Or.inl ⟨by rfl,?_⟩,?_⟩;(intro x hx';go_simp;first | done | with_reducible rfl)))
    (try simp only[Act.put,List.getElem_toArray,List.getElem_cons_zero,List.getElem_cons_succ,List.setIfInBounds_toArray,List.set_cons_zero,List.set_cons_succ])
    refine Z2 (by kernel_rfl) ?_ _
    refine NoPanic.normal ?_
    (try simp only[Act.put,List.getElem_toArray,List.getElem_cons_zero,List.getElem_cons_succ,List.setIfInBounds_toArray,List.set_cons_zero,List.set_cons_succ])
    have HG5:=hD0 (HI.out.trans hS0)
    clear hS0 t0 t1 t2 t3
    go_wp2_with fail
    exact⟨⟨k1,rfl,HN.out,HG5⟩,by have:=HN.out;rw[←HK1.out] at this ⊢;exact Zz this⟩
  ·have HN:=hD0 (show k1≤j from by
    obtain⟨h1,h2⟩:=HJ.out
    rw[←HK1.out]
    rcases Nat.lt_or_ge k j with q | q
    ·exact q
    ·obtain rfl:k=j:=Nat.le_antisymm hk q
     rw[HE1.out] at h2
     exact absurd (Prod.mk.inj h2).1 hx)
   go_wp2_with fail
   refine Z4 [] (Nw wr) (by kernel_rfl) ?_
   change Z5 _ _ _ _ _ _ 6 #[false,false,false,false,false,false] _ wr.drew
   obtain⟨y4,hy4⟩:∃y,wr.drew=y:=⟨_,rfl⟩
   rw[hy4]
   have hS0:Nw wr y4:=by rw[←hy4];exact(Nw.refl wr).dr
   clear hy4
   refine Z0 0 rfl (by kernel_rfl) (by kernel_rfl) (by kernel_rfl) (fun v c a w h=>h) ?_
   (first | (refine⟨undef,Or.inr ⟨by rfl,rfl⟩,?_⟩) | (apply Exists.intro;refine⟨Or.inl ⟨by rfl,?_⟩,?_⟩;(intro x hx';go_simp;first | done | with_reducible rfl)))
   (try simp only[Act.put,List.getElem_toArray,List.getElem_cons_zero,List.getElem_cons_succ,List.setIfInBounds_toArray,List.set_cons_zero,List.set_cons_succ])
   refine Z0 1 rfl (by kernel_rfl) (by kernel_rfl) (by kernel_rfl) (fun v c a w h=>h) ?_
   (first | (refine⟨undef,Or.inr ⟨by rfl,rfl⟩,?_⟩) | (apply Exists.intro;refine⟨Or.inl ⟨by rfl,?_⟩,?_⟩;(intro x hx';go_simp;first | done | with_reducible rfl)))
   (try simp only[Act.put,List.getElem_toArray,List.getElem_cons_zero,List.getElem_cons_succ,List.setIfInBounds_toArray,List.set_cons_zero,List.set_cons_succ])
   refine Z0 2 rfl (by kernel_rfl) (by kernel_rfl) (by kernel_rfl) (fun v c a w h=>h) ?_
   (first | (refine⟨undef,Or.inr ⟨by rfl,rfl⟩,?_⟩) | (apply Exists.intro;refine⟨Or.inl ⟨by rfl,?_⟩,?_⟩;(intro x hx';go_simp;first | done | with_reducible rfl)))
   (try simp only[Act.put,List.getElem_toArray,List.getElem_cons_zero,List.getElem_cons_succ,List.setIfInBounds_toArray,List.set_cons_zero,List.set_cons_succ])
   refine Z1 3 rfl (by kernel_rfl) (by kernel_rfl) (by kernel_rfl) (by kernel_rfl) (fun v c a w h=>h) hS0 ?_
   (first | (refine⟨undef,Or.inr ⟨by rfl,rfl⟩,?_⟩) | (apply Exists.intro;refine⟨Or.inl ⟨by rfl,?_⟩,?_⟩;(intro x hx';go_simp;first | done | with_reducible rfl)))
   (try simp only[Act.put,List.getElem_toArray,List.getElem_cons_zero,List.getElem_cons_succ,List.setIfInBounds_toArray,List.set_cons_zero,List.set_cons_succ])
   refine Z1 4 rfl (by kernel_rfl) (by kernel_rfl) (by kernel_rfl) (by kernel_rfl) (fun v c a w h=>h) hS0 ?_
   (first | (refine⟨undef,Or.inr ⟨by rfl,rfl⟩,?_⟩) | (apply Exists.intro;refine⟨Or.inl ⟨by rfl,?_⟩,?_⟩;(intro x hx';go_simp;first | done | with_reducible rfl)))
   (try simp only[Act.put,List.getElem_toArray,List.getElem_cons_zero,List.getElem_cons_succ,List.setIfInBounds_toArray,List.set_cons_zero,List.set_cons_succ])
   refine Z0 5 rfl (by kernel_rfl) (by kernel_rfl) (by kernel_rfl) (fun v c a w h=>h) ?_
   (first | (refine⟨undef,Or.inr ⟨by rfl,rfl⟩,?_⟩) | (apply Exists.intro;refine⟨Or.inl ⟨by rfl,?_⟩,?_⟩;(intro x hx';go_simp;first | done | with_reducible rfl)))
   (try simp only[Act.put,List.getElem_toArray,List.getElem_cons_zero,List.getElem_cons_succ,List.setIfInBounds_toArray,List.set_cons_zero,List.set_cons_succ])
   refine Z2 (by kernel_rfl) ?_ _
   refine NoPanic.normal ?_
   (try simp only[Act.put,List.getElem_toArray,List.getElem_cons_zero,List.getElem_cons_succ,List.setIfInBounds_toArray,List.set_cons_zero,List.set_cons_succ])
   have HG5:=hD0 (HI.out.trans hS0)
   clear hS0 t0 t1 t2 t3
   go_wp2_with fail
   exact⟨⟨k1,rfl,HN.out,HG5⟩,by have:=HN.out;rw[←HK1.out] at this ⊢;exact Zz this⟩
theorem V7{l:List (Int × Int)}{b a:Int}{n:Nat}{r:List Int}(g:Greedy l b a n r)(f:Far l a b n):∀i,(h:i<(a::r).length)→Far l (a::r)[i] b (n-i):=by
 induction g with
 | last k =>
  intro i h
  obtain rfl:i=0:=by simp at h;exact h
  exact f
 | @step a x n r k fx mn _ ih =>
  intro i h
  match i,h with
  | 0,_=>exact f
  | i+1,h =>
   have:=ih fx i (by simpa using h)
   rw[show n+2-(i+1)=n+1-i by omega]
   exact this
theorem Ui{l:List (Int × Int)}{b a:Int}{n:Nat}{r:List Int}(g:Greedy l b a n r):∀i,(h:i<(a::r).length)→((a::r)[i],((a::r)[i+1]?).getD b)∈l:=by
 induction g with
 | last k =>
  intro i h
  obtain rfl:i=0:=by simp at h;exact h
  exact k
 | @step a x n r k fx mn _ ih =>
  intro i h
  match i,h with
  | 0,_=>exact k
  | i+1,h=>exact ih i (by simpa using h)
theorem Vp{l:List (Int × Int)}{c:List Int}{b:Bool}(p:Yq l c b){i:Nat}(h:i<c.length)(h0:0<c.length):(c[i],(c[i+1]?).getD c[0])∈l:=by
 obtain⟨p1,p2,p3⟩:=p
 cases b with
 | false=>rw[p2 rfl] at h0;exact absurd h0 (Nat.lt_irrefl 0)
 | true =>
  obtain⟨a,r,rfl,q1,q2,q3,q4⟩:=p3 rfl
  exact Ui q4 i h
theorem Vq{l:List (Int × Int)}{c:List Int}{b:Bool}(p:Yq l c b){i k:Nat}(h:i<c.length)(hk:k<i):c[k]'(Nat.lt_trans hk h)≠c[i]:=by
 obtain⟨p1,p2,p3⟩:=p
 cases b with
 | false=>have:=p2 rfl;subst this;exact absurd h (Nat.not_lt_zero i)
 | true =>
  obtain⟨a,r,rfl,q1,q2,q3,q4⟩:=p3 rfl
  intro e
  have f1:=V7 q4 q3 k (Nat.lt_trans hk h)
  have f2:=V7 q4 q3 i h
  rw[e] at f1
  have:=Ug f1 f2
  simp at h
  omega
theorem Z1b{l:List (Int × Int)}{c:List Int}{b:Bool}(p:Yq l c b):(0<c.length↔b=true):=by
 obtain⟨p1,p2,p3⟩:=p
 cases b with
 | false=>rw[p2 rfl];simp
 | true =>
  obtain⟨a,r,rfl,_⟩:=p3 rfl
  simp
theorem Z08{l:List (Int × Int)}{c:List Int}{b:Bool}(p:Yq l c b){x:Int}(r:Y0 l x x):b=true∧∃h:0<c.length,c[0]≤x:=by
 obtain⟨p1,p2,p3⟩:=p
 have hb:=p1.2 ⟨x,r⟩
 obtain⟨a,r',rfl,q1,q2,q3,q4⟩:=p3 hb
 exact⟨hb,by simp,q2 x r⟩
theorem Z1c{l:List (Int × Int)}{c:List Int}{b:Bool}(p:Yq l c b):c.length≤l.length:=by
 have hn:c.Nodup:=by
  rw[List.nodup_iff_pairwise_ne,List.pairwise_iff_getElem]
  exact fun i j hi hj hij=>Vq p hj hij
 have:=Ym (m:=l.map Prod.fst) hn fun y hy=>by
  obtain⟨i,hi,rfl⟩:=List.getElem_of_mem hy
  exact List.mem_map.2 ⟨_,Vp p hi (Nat.lt_of_le_of_lt (Nat.zero_le i) hi),rfl⟩
 simpa using this
theorem Z09(a0:Option Addr)(len0 cap0:Nat)(l:List (Int × Int))(W:World)(h:EgIn W a0 len0 cap0 l) :
  Calls prog 3 #[.slice a0 len0 cap0] W fun e W'=>e=.returned (.bool true)∧Nw W W':=by
 have HL:=hD0 (Z18 W)
 have HE:=hD0 h
 clear h
 by_cases hlen:40<len0
 ·have d:decide ((40:Int)<(len0:Int))=true:=by rw[decide_eq_true_iff];omega
  have d2:decide (40<len0)=true:=by simpa using hlen
  clear hlen
  go_enter func3,ntmps3
  go_wp2_with fail
  refine HL.out.mono ?_
  rintro e w1 ⟨rfl,g1⟩
  have HG:=hD0 g1
  clear g1
  go_wp2_with fail
  go_ret
  exact⟨rfl,HG.out⟩
 ·have d:decide ((40:Int)<(len0:Int))=false:=by rw[decide_eq_false_iff_not];omega
  have d2:decide (40<len0)=false:=by rw[decide_eq_false_iff_not];exact hlen
  have hll:len0≤40:=Nat.le_of_not_lt hlen
  have hl1000:l.length≤1000:=by rw[HE.out.hl];omega
  have HB:=hD0 (aI0 hll hl1000)
  have HRe:=hD0 (fun(z:World) (g:Nw W z) (y:Int) (hy:Z8 y)=>Z0l (HE.out.rd.nw g) hl1000 HE.out.fit y hy)
  have HAc:=hD0 (fun(z:World) (g:Nw W z)=>Uc (HE.out.rd.nw g) hl1000 HE.out.fit)
  have HCy:=hD0 (fun(z:World) (g:Nw W z)=>Vs (HE.out.rd.nw g) hl1000 HE.out.fit)
  clear hlen hll hl1000
  go_enter func3,ntmps3
  go_wp2_with fail
  refine HL.out.mono ?_
  rintro e w1 ⟨rfl,g1⟩
  have HG:=hD0 g1
  have HC1:=hD0 (HCy.out w1 g1)
  clear g1 HL
  go_wp2_with fail
  refine HC1.out.mono ?_
  rintro e w2 ⟨vc,c,is,rfl,hI,hP,g2⟩
  obtain⟨ca,cc,rfl,hca⟩:=hI.box
  have HCA:=hD0 hca
  have HI:=hD0 (aI0 hI hP)
  have HG2:=hD0 (HG.out.trans g2)
  have HA2:=hD0 (HAc.out w2 (HG.out.trans g2))
  have hcl:=Nat.le_trans (Z1c hP) HB.out.2
  have hcp:=Z1b hP
  obtain⟨nc,hnc⟩:∃n,c.length=n:=⟨_,rfl⟩
  have HNC:=hD0 hnc
  rw[hnc] at hcl hcp ⊢
  clear hI hP g2 hca hnc HC1 HCy HG HAc
  go_wp2_with fail
  refine HA2.out.mono ?_
  rintro e w3 ⟨b,rfl,hb,g3⟩
  have HG3:=hD0 (HG2.out.trans g3)
  have HI3:=hD0 (show ∀z,Nw w3 z→IS z (.slice ca nc cc) c from fun z g=>by have:=HI.out.1.nw (g3.trans g);rwa [HNC.out] at this)
  have hb1:(is==b)=false:=by
   have h1:=HI.out.2.1
   cases is<;>cases b<;>simp_all
  have hb2:decide (0<nc)=is:=by
   cases is<;>simp_all
  have hb3:decide ((0:Int)<(nc:Int))=is:=by
   cases is<;>simp_all
  have HCP:=hD0 hcp
  clear hb g3 HA2 hcp HG2
  go_wp2_with fail
  go_loopw [5] (fun v wr=>∃k:Nat,v=.int .i64 k∧k≤len0∧Hid (Nw w3 wr)) (fun v _=>len0-(intOf v).toNat)
  case atStart=>exact⟨0,rfl,Nat.zero_le _,hD0 (Nw.refl _)⟩
  case round =>
   obtain⟨k,rfl,hk,HW⟩:=hrel
   by_cases hlt:k<len0
   ·have hkl:k<l.length:=by rw[HE.out.hl];exact hlt
    have hin:=HE.out.nw (HG3.out.trans HW.out)
    obtain⟨a',c',e',hed⟩:=hin.rd
    simp only[Value.slice.injEq] at e'
    obtain⟨rfl,hlx,rfl⟩:=e'
    rcases hed with⟨q,_⟩ | ⟨eb,eo,rfl,hrw⟩
    ·rw[q] at hkl;simp at hkl
    obtain⟨x0,x1⟩:=hrw.eg hkl
    have hebl:=hrw.lt
    have hfit:=(HE.out.fit _ (gM0 hkl)).1
    obtain⟨x,hx⟩:∃y,l[k].1=y:=⟨_,rfl⟩
    rw[hx] at x0 hfit
    have hlt':=Zo hlt
    have hw:=Y2 k (k+1) (by have:=HB.out.1;omega) rfl
    obtain⟨k1,hk1⟩:∃m,k+1=m:=⟨_,rfl⟩
    have HK1:=hD0 (aI0 hk1 hlt)
    rw[hk1] at hw
    have HR:=hD0 (HRe.out wr (HG3.out.trans HW.out) x hfit)
    have HX0:=hD0 (show ∀z,Nw wr z→z.cell? ⟨eb,eo+k*2,none⟩=some (.int .i64 x) from fun z g=>g.kp x0)
    clear hk1 hx hkl hrw hfit x1 hlt hin hlx
    go_wp2_with fail
    refine HR.out.mono ?_
    rintro e w4 ⟨v4,R,rfl,hI,hP,g4⟩
    obtain⟨ra,rc,rfl,hra⟩:=hI.box
    have tx:∀z,Nw w4 z→z.cell? ⟨eb,eo+k*2,none⟩=some (.int .i64 x):=fun z g=>HX0.out z (g4.trans g)
    have HRA:=hD0 hra
    have HRI:=hD0 (aI0 hI hP)
    have hrl:R.length≤1000:=Nat.le_trans (Z1t hP) HB.out.2
    obtain⟨nr,hnr⟩:∃n,R.length=n:=⟨_,rfl⟩
    have HNR:=hD0 hnr
    have HG4:=hD0 (HW.out.trans g4)
    rw[hnr] at hrl ⊢
    clear hI hP g4 HX0 x0 hra hnr
    go_wp2_with fail
    go_loopw [7,8] (fun v7 v8 wr=>∃(n:Nat) (self:Bool),v7=.bool self∧v8=.int .i64 n∧n≤nr∧Hid ((self=true→Y0 l x x)∧Nw w4 wr)) (fun _ v8 _=>nr-(intOf v8).toNat)
    case atStart=>exact⟨0,false,rfl,rfl,Nat.zero_le _,hD0 ⟨(fun h=>nomatch h),Nw.refl _⟩⟩
    case round =>
     obtain⟨n,self,rfl,rfl,hn,HI6⟩:=hrel
     by_cases hlt2:n<nr
     ·have hnR:n<R.length:=by rw[HNR.out];exact hlt2
      obtain⟨rg,rfl,_⟩:=HRA.out (by omega)
      obtain⟨y,hy⟩:∃y,R[n]=y:=⟨_,rfl⟩
      have hyR:y∈R:=hy▸gM0 hnR
      have cy:=V8 (HRI.out.1.nw HI6.out.2) hnR
      rw[hy] at cy
      have HYR:=hD0 ((HRI.out.2.2 y).1 hyR)
      have hlt2':=Zo hlt2
      have hw2:=Y2 n (n+1) (Nat.le_trans (Nat.le_of_lt hlt2) (Nat.le_trans hrl (by decide))) rfl
      obtain⟨n1,hn1⟩:∃m,n+1=m:=⟨_,rfl⟩
      have HN1:=hD0 (aI0 hn1 hlt2)
      rw[hn1] at hw2
      have ty:∀z,Nw wr z→z.cell? ⟨rg,n,none⟩=some (.int .i64 y):=fun z g=>g.kp cy
      have tx':∀z,Nw wr z→z.cell? ⟨eb,eo+k*2,none⟩=some (.int .i64 x):=fun z g=>tx z (HI6.out.2.trans g)
      clear hnR hy hyR cy hn1 hlt2
      cases self with
      | true =>
       go_wp2_with fail
       refine Z4 [] (Nw wr) (by kernel_rfl) ?_
       change Z5 _ _ _ _ _ _ 14 #[false,false,false,false,false,false,false,false,false,false,false,false,false,false] _ wr.drew
       obtain⟨y4,hy4⟩:∃y,wr.drew=y:=⟨_,rfl⟩
       rw[hy4]
       have hS0:Nw wr y4:=by rw[←hy4];exact(Nw.refl wr).dr
       clear hy4
       refine Z0 0 rfl (by kernel_rfl) (by kernel_rfl) (by kernel_rfl) (fun v c a w h=>h) ?_
       (first | (refine⟨undef,Or.inr ⟨by rfl,rfl⟩,?_⟩) | (apply Exists.intro;refine⟨Or.inl ⟨by rfl,?_⟩,?_⟩;(intro x hx';go_simp;first | done | with_reducible rfl)))
       (try simp only[Act.put,List.getElem_toArray,List.getElem_cons_zero,List.getElem_cons_succ,List.setIfInBounds_toArray,List.set_cons_zero,List.set_cons_succ])
       refine Z0 1 rfl (by kernel_rfl) (by kernel_rfl) (by kernel_rfl) (fun v c a w h=>h) ?_
       (first | (refine⟨undef,Or.inr ⟨by rfl,rfl⟩,?_⟩) | (apply Exists.intro;refine⟨Or.inl ⟨by rfl,?_⟩,?_⟩;(intro x hx';go_simp;first | done | with_reducible rfl)))
       (try simp only[Act.put,List.getElem_toArray,List.getElem_cons_zero,List.getElem_cons_succ,List.setIfInBounds_toArray,List.set_cons_zero,List.set_cons_succ])
       refine Z0 2 rfl (by kernel_rfl) (by kernel_rfl) (by kernel_rfl) (fun v c a w h=>h) ?_
       (first | (refine⟨undef,Or.inr ⟨by rfl,rfl⟩,?_⟩) | (apply Exists.intro;refine⟨Or.inl ⟨by rfl,?_⟩,?_⟩;(intro x hx';go_simp;first | done | with_reducible rfl)))
       (try simp only[Act.put,List.getElem_toArray,List.getElem_cons_zero,List.getElem_cons_succ,List.setIfInBounds_toArray,List.set_cons_zero,List.set_cons_succ])
       refine Z0 3 rfl (by kernel_rfl) (by kernel_rfl) (by kernel_rfl) (fun v c a w h=>h) ?_
       (first | (refine⟨undef,Or.inr ⟨by rfl,rfl⟩,?_⟩) | (apply Exists.intro;refine⟨Or.inl ⟨by rfl,?_⟩,?_⟩;(intro x hx';go_simp;first | done | with_reducible rfl)))
       (try simp only[Act.put,List.getElem_toArray,List.getElem_cons_zero,List.getElem_cons_succ,List.setIfInBounds_toArray,List.set_cons_zero,List.set_cons_succ])
       refine Z0 4 rfl (by kernel_rfl) (by kernel_rfl) (by kernel_rfl) (fun v c a w h=>h) ?_
       (first | (refine⟨undef,Or.inr ⟨by rfl,rfl⟩,?_⟩) | (apply Exists.intro;refine⟨Or.inl ⟨by rfl,?_⟩,?_⟩;(intro x hx';go_simp;first | done | with_reducible rfl)))
       (try simp only[Act.put,List.getElem_toArray,List.getElem_cons_zero,List.getElem_cons_succ,List.setIfInBounds_toArray,List.set_cons_zero,List.set_cons_succ])
       refine Z1 5 rfl (by kernel_rfl) (by kernel_rfl) (by kernel_rfl) (by kernel_rfl) (fun v c a w h=>h) hS0 ?_
       (first | (refine⟨undef,Or.inr ⟨by rfl,rfl⟩,?_⟩) | (apply Exists.intro;refine⟨Or.inl ⟨by rfl,?_⟩,?_⟩;(intro x hx';go_simp;first | done | with_reducible rfl)))
       (try simp only[Act.put,List.getElem_toArray,List.getElem_cons_zero,List.getElem_cons_succ,List.setIfInBounds_toArray,List.set_cons_zero,List.set_cons_succ])
       refine Z0 6 rfl (by kernel_rfl) (by kernel_rfl) (by kernel_rfl) (fun v c a w h=>h) ?_
       (first | (refine⟨undef,Or.inr ⟨by rfl,rfl⟩,?_⟩) | (apply Exists.intro;refine⟨Or.inl ⟨by rfl,?_⟩,?_⟩;(intro x hx';go_simp;first | done | with_reducible rfl)))
       (try simp only[Act.put,List.getElem_toArray,List.getElem_cons_zero,List.getElem_cons_succ,List.setIfInBounds_toArray,List.set_cons_zero,List.set_cons_succ])
       refine Z0 7 rfl (by kernel_rfl) (by kernel_rfl) (by kernel_rfl) (fun v c a w h=>h) ?_
       (first | (refine⟨undef,Or.inr ⟨by rfl,rfl⟩,?_⟩) | (apply Exists.intro;refine⟨Or.inl ⟨by rfl,?_⟩,?_⟩;(intro x hx';go_simp;first | done | with_reducible rfl)))
       (try simp only[Act.put,List.getElem_toArray,List.getElem_cons_zero,List.getElem_cons_succ,List.setIfInBounds_toArray,List.set_cons_zero,List.set_cons_succ])
       refine Z0 8 rfl (by kernel_rfl) (by kernel_rfl) (by kernel_rfl) (fun v c a w h=>h) ?_
       (first | (refine⟨undef,Or.inr ⟨by rfl,rfl⟩,?_⟩) | (apply Exists.intro;refine⟨Or.inl ⟨by rfl,?_⟩,?_⟩;(intro x hx';go_simp;first | done | with_reducible rfl)))
       (try simp only[Act.put,List.getElem_toArray,List.getElem_cons_zero,List.getElem_cons_succ,List.setIfInBounds_toArray,List.set_cons_zero,List.set_cons_succ])
       refine Z0 9 rfl (by kernel_rfl) (by kernel_rfl) (by kernel_rfl) (fun v c a w h=>h) ?_
       (first | (refine⟨undef,Or.inr ⟨by rfl,rfl⟩,?_⟩) | (apply Exists.intro;refine⟨Or.inl ⟨by rfl,?_⟩,?_⟩;(intro x hx';go_simp;first | done | with_reducible rfl)))
       (try simp only[Act.put,List.getElem_toArray,List.getElem_cons_zero,List.getElem_cons_succ,List.setIfInBounds_toArray,List.set_cons_zero,List.set_cons_succ])
       refine Z1 10 rfl (by kernel_rfl) (by kernel_rfl) (by kernel_rfl) (by kernel_rfl) (fun v c a w h=>h) hS0 ?_
       (first | (refine⟨undef,Or.inr ⟨by rfl,rfl⟩,?_⟩) | (apply Exists.intro;refine⟨Or.inl ⟨by rfl,?_⟩,?_⟩;(intro x hx';go_simp;first | done | with_reducible rfl)))
       (try simp only[Act.put,List.getElem_toArray,List.getElem_cons_zero,List.getElem_cons_succ,List.setIfInBounds_toArray,List.set_cons_zero,List.set_cons_succ])
       refine Z0 11 rfl (by kernel_rfl) (by kernel_rfl) (by kernel_rfl) (fun v c a w h=>h) ?_
       (first | (refine⟨undef,Or.inr ⟨by rfl,rfl⟩,?_⟩) | (apply Exists.intro;refine⟨Or.inl ⟨by rfl,?_⟩,?_⟩;(intro x hx';go_simp;first | done | with_reducible rfl)))
       (try simp only[Act.put,List.getElem_toArray,List.getElem_cons_zero,List.getElem_cons_succ,List.setIfInBounds_toArray,List.set_cons_zero,List.set_cons_succ])
       refine Z0 12 rfl (by kernel_rfl) (by kernel_rfl) (by kernel_rfl) (fun v c a w h=>h) ?_
       (first | (refine⟨undef,Or.inr ⟨by rfl,rfl⟩,?_⟩) | (apply Exists.intro;refine⟨Or.inl ⟨by rfl,?_⟩,?_⟩;(intro x hx';go_simp;first | done | with_reducible rfl)))
       (try simp only[Act.put,List.getElem_toArray,List.getElem_cons_zero,List.getElem_cons_succ,List.setIfInBounds_toArray,List.set_cons_zero,List.set_cons_succ])
       refine Z0 13 rfl (by kernel_rfl) (by kernel_rfl) (by kernel_rfl) (fun v c a w h=>h) ?_
       (first | (refine⟨undef,Or.inr ⟨by rfl,rfl⟩,?_⟩) | (apply Exists.intro;refine⟨Or.inl ⟨by rfl,?_⟩,?_⟩;(intro x hx';go_simp;first | done | with_reducible rfl)))
       (try simp only[Act.put,List.getElem_toArray,List.getElem_cons_zero,List.getElem_cons_succ,List.setIfInBounds_toArray,List.set_cons_zero,List.set_cons_succ])
       refine Z2 (by kernel_rfl) ?_ _
       refine NoPanic.normal ?_
       (try simp only[Act.put,List.getElem_toArray,List.getElem_cons_zero,List.getElem_cons_succ,List.setIfInBounds_toArray,List.set_cons_zero,List.set_cons_succ])
       have HG5:=hD0 (HI6.out.2.trans hS0)
       clear hS0 tx' ty
       go_wp2_with fail
       exact⟨⟨n1,true,rfl,rfl,by rw[←HN1.out.1];exact HN1.out.2,hD0 ⟨fun _=>HI6.out.1 (by simp),HG5.out⟩⟩,by rw[←HN1.out.1];exact Zz HN1.out.2⟩
      | false =>
       by_cases hyx:y=x
       ·subst hyx
        go_wp2_with fail
        refine Z4 [] (Nw wr) (by kernel_rfl) ?_
        change Z5 _ _ _ _ _ _ 14 #[false,false,false,false,false,false,false,false,false,false,false,false,false,false] _ wr.drew
        obtain⟨y4,hy4⟩:∃y,wr.drew=y:=⟨_,rfl⟩
        rw[hy4]
        have hS0:Nw wr y4:=by rw[←hy4];exact(Nw.refl wr).dr
        clear hy4
        refine Z0 0 rfl (by kernel_rfl) (by kernel_rfl) (by kernel_rfl) (fun v c a w h=>h) ?_
        (first | (refine⟨undef,Or.inr ⟨by rfl,rfl⟩,?_⟩) | (apply Exists.intro;refine⟨Or.inl ⟨by rfl,?_⟩,?_⟩;(intro x hx';go_simp;first | done | with_reducible rfl)))
        (try simp only[Act.put,List.getElem_toArray,List.getElem_cons_zero,List.getElem_cons_succ,List.setIfInBounds_toArray,List.set_cons_zero,List.set_cons_succ])
        refine Z0 1 rfl (by kernel_rfl) (by kernel_rfl) (by kernel_rfl) (fun v c a w h=>h) ?_
        (first | (refine⟨undef,Or.inr ⟨by rfl,rfl⟩,?_⟩) | (apply Exists.intro;refine⟨Or.inl ⟨by rfl,?_⟩,?_⟩;(intro x hx';go_simp;first | done | with_reducible rfl)))
        (try simp only[Act.put,List.getElem_toArray,List.getElem_cons_zero,List.getElem_cons_succ,List.setIfInBounds_toArray,List.set_cons_zero,List.set_cons_succ])
        refine Z0 2 rfl (by kernel_rfl) (by kernel_rfl) (by kernel_rfl) (fun v c a w h=>h) ?_
        (first | (refine⟨undef,Or.inr ⟨by rfl,rfl⟩,?_⟩) | (apply Exists.intro;refine⟨Or.inl ⟨by rfl,?_⟩,?_⟩;(intro x hx';go_simp;first | done | with_reducible rfl)))
        (try simp only[Act.put,List.getElem_toArray,List.getElem_cons_zero,List.getElem_cons_succ,List.setIfInBounds_toArray,List.set_cons_zero,List.set_cons_succ])
        refine Z0 3 rfl (by kernel_rfl) (by kernel_rfl) (by kernel_rfl) (fun v c a w h=>h) ?_
        (first | (refine⟨undef,Or.inr ⟨by rfl,rfl⟩,?_⟩) | (apply Exists.intro;refine⟨Or.inl ⟨by rfl,?_⟩,?_⟩;(intro x hx';go_simp;first | done | with_reducible rfl)))
        (try simp only[Act.put,List.getElem_toArray,List.getElem_cons_zero,List.getElem_cons_succ,List.setIfInBounds_toArray,List.set_cons_zero,List.set_cons_succ])
        refine Z0 4 rfl (by kernel_rfl) (by kernel_rfl) (by kernel_rfl) (fun v c a w h=>h) ?_
        (first | (refine⟨undef,Or.inr ⟨by rfl,rfl⟩,?_⟩) | (apply Exists.intro;refine⟨Or.inl ⟨by rfl,?_⟩,?_⟩;(intro x hx';go_simp;first | done | with_reducible rfl)))
        (try simp only[Act.put,List.getElem_toArray,List.getElem_cons_zero,List.getElem_cons_succ,List.setIfInBounds_toArray,List.set_cons_zero,List.set_cons_succ])
        refine Z1 5 rfl (by kernel_rfl) (by kernel_rfl) (by kernel_rfl) (by kernel_rfl) (fun v c a w h=>h) hS0 ?_
        (first | (refine⟨undef,Or.inr ⟨by rfl,rfl⟩,?_⟩) | (apply Exists.intro;refine⟨Or.inl ⟨by rfl,?_⟩,?_⟩;(intro x hx';go_simp;first | done | with_reducible rfl)))
        (try simp only[Act.put,List.getElem_toArray,List.getElem_cons_zero,List.getElem_cons_succ,List.setIfInBounds_toArray,List.set_cons_zero,List.set_cons_succ])
        refine Z0 6 rfl (by kernel_rfl) (by kernel_rfl) (by kernel_rfl) (fun v c a w h=>h) ?_
        (first | (refine⟨undef,Or.inr ⟨by rfl,rfl⟩,?_⟩) | (apply Exists.intro;refine⟨Or.inl ⟨by rfl,?_⟩,?_⟩;(intro x hx';go_simp;first | done | with_reducible rfl)))
        (try simp only[Act.put,List.getElem_toArray,List.getElem_cons_zero,List.getElem_cons_succ,List.setIfInBounds_toArray,List.set_cons_zero,List.set_cons_succ])
        refine Z0 7 rfl (by kernel_rfl) (by kernel_rfl) (by kernel_rfl) (fun v c a w h=>h) ?_
        (first | (refine⟨undef,Or.inr ⟨by rfl,rfl⟩,?_⟩) | (apply Exists.intro;refine⟨Or.inl ⟨by rfl,?_⟩,?_⟩;(intro x hx';go_simp;first | done | with_reducible rfl)))
        (try simp only[Act.put,List.getElem_toArray,List.getElem_cons_zero,List.getElem_cons_succ,List.setIfInBounds_toArray,List.set_cons_zero,List.set_cons_succ])
        refine Z0 8 rfl (by kernel_rfl) (by kernel_rfl) (by kernel_rfl) (fun v c a w h=>h) ?_
        (first | (refine⟨undef,Or.inr ⟨by rfl,rfl⟩,?_⟩) | (apply Exists.intro;refine⟨Or.inl ⟨by rfl,?_⟩,?_⟩;(intro x hx';go_simp;first | done | with_reducible rfl)))
        (try simp only[Act.put,List.getElem_toArray,List.getElem_cons_zero,List.getElem_cons_succ,List.setIfInBounds_toArray,List.set_cons_zero,List.set_cons_succ])
        refine Z0 9 rfl (by kernel_rfl) (by kernel_rfl) (by kernel_rfl) (fun v c a w h=>h) ?_
        (first | (refine⟨undef,Or.inr ⟨by rfl,rfl⟩,?_⟩) | (apply Exists.intro;refine⟨Or.inl ⟨by rfl,?_⟩,?_⟩;(intro x hx';go_simp;first | done | with_reducible rfl)))
        (try simp only[Act.put,List.getElem_toArray,List.getElem_cons_zero,List.getElem_cons_succ,List.setIfInBounds_toArray,List.set_cons_zero,List.set_cons_succ])
        refine Z1 10 rfl (by kernel_rfl) (by kernel_rfl) (by kernel_rfl) (by kernel_rfl) (fun v c a w h=>h) hS0 ?_
        (first | (refine⟨undef,Or.inr ⟨by rfl,rfl⟩,?_⟩) | (apply Exists.intro;refine⟨Or.inl ⟨by rfl,?_⟩,?_⟩;(intro x hx';go_simp;first | done | with_reducible rfl)))
        (try simp only[Act.put,List.getElem_toArray,List.getElem_cons_zero,List.getElem_cons_succ,List.setIfInBounds_toArray,List.set_cons_zero,List.set_cons_succ])
        refine Z0 11 rfl (by kernel_rfl) (by kernel_rfl) (by kernel_rfl) (fun v c a w h=>h) ?_
        (first | (refine⟨undef,Or.inr ⟨by rfl,rfl⟩,?_⟩) | (apply Exists.intro;refine⟨Or.inl ⟨by rfl,?_⟩,?_⟩;(intro x hx';go_simp;first | done | with_reducible rfl)))
        (try simp only[Act.put,List.getElem_toArray,List.getElem_cons_zero,List.getElem_cons_succ,List.setIfInBounds_toArray,List.set_cons_zero,List.set_cons_succ])
        refine Z0 12 rfl (by kernel_rfl) (by kernel_rfl) (by kernel_rfl) (fun v c a w h=>h) ?_
        (first | (refine⟨undef,Or.inr ⟨by rfl,rfl⟩,?_⟩) | (apply Exists.intro;refine⟨Or.inl ⟨by rfl,?_⟩,?_⟩;(intro x hx';go_simp;first | done | with_reducible rfl)))
        (try simp only[Act.put,List.getElem_toArray,List.getElem_cons_zero,List.getElem_cons_succ,List.setIfInBounds_toArray,List.set_cons_zero,List.set_cons_succ])
        refine Z0 13 rfl (by kernel_rfl) (by kernel_rfl) (by kernel_rfl) (fun v c a w h=>h) ?_
        (first | (refine⟨undef,Or.inr ⟨by rfl,rfl⟩,?_⟩) | (apply Exists.intro;refine⟨Or.inl ⟨by rfl,?_⟩,?_⟩;(intro x hx';go_simp;first | done | with_reducible rfl)))
        (try simp only[Act.put,List.getElem_toArray,List.getElem_cons_zero,List.getElem_cons_succ,List.setIfInBounds_toArray,List.set_cons_zero,List.set_cons_succ])
        refine Z2 (by kernel_rfl) ?_ _
        refine NoPanic.normal ?_
        (try simp only[Act.put,List.getElem_toArray,List.getElem_cons_zero,List.getElem_cons_succ,List.setIfInBounds_toArray,List.set_cons_zero,List.set_cons_succ])
        have HG5:=hD0 (HI6.out.2.trans hS0)
        clear hS0 tx' ty
        go_wp2_with fail
        exact⟨⟨n1,true,rfl,rfl,by rw[←HN1.out.1];exact HN1.out.2,hD0 ⟨fun _=>HYR.out,HG5.out⟩⟩,by rw[←HN1.out.1];exact Zz HN1.out.2⟩
       ·have hyb:(y==x)=false:=by rw[beq_eq_false_iff_ne];exact hyx
        go_wp2_with fail
        refine Z4 [] (Nw wr) (by kernel_rfl) ?_
        change Z5 _ _ _ _ _ _ 14 #[false,false,false,false,false,false,false,false,false,false,false,false,false,false] _ wr.drew
        obtain⟨y4,hy4⟩:∃y,wr.drew=y:=⟨_,rfl⟩
        rw[hy4]
        have hS0:Nw wr y4:=by rw[←hy4];exact(Nw.refl wr).dr
        clear hy4
        refine Z0 0 rfl (by kernel_rfl) (by kernel_rfl) (by kernel_rfl) (fun v c a w h=>h) ?_
        (first | (refine⟨undef,Or.inr ⟨by rfl,rfl⟩,?_⟩) | (apply Exists.intro;refine⟨Or.inl ⟨by rfl,?_⟩,?_⟩;(intro x hx';go_simp;first | done | with_reducible rfl)))
        (try simp only[Act.put,List.getElem_toArray,List.getElem_cons_zero,List.getElem_cons_succ,List.setIfInBounds_toArray,List.set_cons_zero,List.set_cons_succ])
        refine Z0 1 rfl (by kernel_rfl) (by kernel_rfl) (by kernel_rfl) (fun v c a w h=>h) ?_
        (first | (refine⟨undef,Or.inr ⟨by rfl,rfl⟩,?_⟩) | (apply Exists.intro;refine⟨Or.inl ⟨by rfl,?_⟩,?_⟩;(intro x hx';go_simp;first | done | with_reducible rfl)))
        (try simp only[Act.put,List.getElem_toArray,List.getElem_cons_zero,List.getElem_cons_succ,List.setIfInBounds_toArray,List.set_cons_zero,List.set_cons_succ])
        refine Z0 2 rfl (by kernel_rfl) (by kernel_rfl) (by kernel_rfl) (fun v c a w h=>h) ?_
        (first | (refine⟨undef,Or.inr ⟨by rfl,rfl⟩,?_⟩) | (apply Exists.intro;refine⟨Or.inl ⟨by rfl,?_⟩,?_⟩;(intro x hx';go_simp;first | done | with_reducible rfl)))
        (try simp only[Act.put,List.getElem_toArray,List.getElem_cons_zero,List.getElem_cons_succ,List.setIfInBounds_toArray,List.set_cons_zero,List.set_cons_succ])
        refine Z0 3 rfl (by kernel_rfl) (by kernel_rfl) (by kernel_rfl) (fun v c a w h=>h) ?_
        (first | (refine⟨undef,Or.inr ⟨by rfl,rfl⟩,?_⟩) | (apply Exists.intro;refine⟨Or.inl ⟨by rfl,?_⟩,?_⟩;(intro x hx';go_simp;first | done | with_reducible rfl)))
        (try simp only[Act.put,List.getElem_toArray,List.getElem_cons_zero,List.getElem_cons_succ,List.setIfInBounds_toArray,List.set_cons_zero,List.set_cons_succ])
        refine Z0 4 rfl (by kernel_rfl) (by kernel_rfl) (by kernel_rfl) (fun v c a w h=>h) ?_
        (first | (refine⟨undef,Or.inr ⟨by rfl,rfl⟩,?_⟩) | (apply Exists.intro;refine⟨Or.inl ⟨by rfl,?_⟩,?_⟩;(intro x hx';go_simp;first | done | with_reducible rfl)))
        (try simp only[Act.put,List.getElem_toArray,List.getElem_cons_zero,List.getElem_cons_succ,List.setIfInBounds_toArray,List.set_cons_zero,List.set_cons_succ])
        refine Z1 5 rfl (by kernel_rfl) (by kernel_rfl) (by kernel_rfl) (by kernel_rfl) (fun v c a w h=>h) hS0 ?_
        (first | (refine⟨undef,Or.inr ⟨by rfl,rfl⟩,?_⟩) | (apply Exists.intro;refine⟨Or.inl ⟨by rfl,?_⟩,?_⟩;(intro x hx';go_simp;first | done | with_reducible rfl)))
        (try simp only[Act.put,List.getElem_toArray,List.getElem_cons_zero,List.getElem_cons_succ,List.setIfInBounds_toArray,List.set_cons_zero,List.set_cons_succ])
        refine Z0 6 rfl (by kernel_rfl) (by kernel_rfl) (by kernel_rfl) (fun v c a w h=>h) ?_
        (first | (refine⟨undef,Or.inr ⟨by rfl,rfl⟩,?_⟩) | (apply Exists.intro;refine⟨Or.inl ⟨by rfl,?_⟩,?_⟩;(intro x hx';go_simp;first | done | with_reducible rfl)))
        (try simp only[Act.put,List.getElem_toArray,List.getElem_cons_zero,List.getElem_cons_succ,List.setIfInBounds_toArray,List.set_cons_zero,List.set_cons_succ])
        refine Z0 7 rfl (by kernel_rfl) (by kernel_rfl) (by kernel_rfl) (fun v c a w h=>h) ?_
        (first | (refine⟨undef,Or.inr ⟨by rfl,rfl⟩,?_⟩) | (apply Exists.intro;refine⟨Or.inl ⟨by rfl,?_⟩,?_⟩;(intro x hx';go_simp;first | done | with_reducible rfl)))
        (try simp only[Act.put,List.getElem_toArray,List.getElem_cons_zero,List.getElem_cons_succ,List.setIfInBounds_toArray,List.set_cons_zero,List.set_cons_succ])
        refine Z0 8 rfl (by kernel_rfl) (by kernel_rfl) (by kernel_rfl) (fun v c a w h=>h) ?_
        (first | (refine⟨undef,Or.inr ⟨by rfl,rfl⟩,?_⟩) | (apply Exists.intro;refine⟨Or.inl ⟨by rfl,?_⟩,?_⟩;(intro x hx';go_simp;first | done | with_reducible rfl)))
        (try simp only[Act.put,List.getElem_toArray,List.getElem_cons_zero,List.getElem_cons_succ,List.setIfInBounds_toArray,List.set_cons_zero,List.set_cons_succ])
        refine Z0 9 rfl (by kernel_rfl) (by kernel_rfl) (by kernel_rfl) (fun v c a w h=>h) ?_
        (first | (refine⟨undef,Or.inr ⟨by rfl,rfl⟩,?_⟩) | (apply Exists.intro;refine⟨Or.inl ⟨by rfl,?_⟩,?_⟩;(intro x hx';go_simp;first | done | with_reducible rfl)))
        (try simp only[Act.put,List.getElem_toArray,List.getElem_cons_zero,List.getElem_cons_succ,List.setIfInBounds_toArray,List.set_cons_zero,List.set_cons_succ])
        refine Z1 10 rfl (by kernel_rfl) (by kernel_rfl) (by kernel_rfl) (by kernel_rfl) (fun v c a w h=>h) hS0 ?_
        (first | (refine⟨undef,Or.inr ⟨by rfl,rfl⟩,?_⟩) | (apply Exists.intro;refine⟨Or.inl ⟨by rfl,?_⟩,?_⟩;(intro x hx';go_simp;first | done | with_reducible rfl)))
        (try simp only[Act.put,List.getElem_toArray,List.getElem_cons_zero,List.getElem_cons_succ,List.setIfInBounds_toArray,List.set_cons_zero,List.set_cons_succ])
        refine Z0 11 rfl (by kernel_rfl) (by kernel_rfl) (by kernel_rfl) (fun v c a w h=>h) ?_
        (first | (refine⟨undef,Or.inr ⟨by rfl,rfl⟩,?_⟩) | (apply Exists.intro;refine⟨Or.inl ⟨by rfl,?_⟩,?_⟩;(intro x hx';go_simp;first | done | with_reducible rfl)))
        (try simp only[Act.put,List.getElem_toArray,List.getElem_cons_zero,List.getElem_cons_succ,List.setIfInBounds_toArray,List.set_cons_zero,List.set_cons_succ])
        refine Z0 12 rfl (by kernel_rfl) (by kernel_rfl) (by kernel_rfl) (fun v c a w h=>h) ?_
        (first | (refine⟨undef,Or.inr ⟨by rfl,rfl⟩,?_⟩) | (apply Exists.intro;refine⟨Or.inl ⟨by rfl,?_⟩,?_⟩;(intro x hx';go_simp;first | done | with_reducible rfl)))
        (try simp only[Act.put,List.getElem_toArray,List.getElem_cons_zero,List.getElem_cons_succ,List.setIfInBounds_toArray,List.set_cons_zero,List.set_cons_succ])
        refine Z0 13 rfl (by kernel_rfl) (by kernel_rfl) (by kernel_rfl) (fun v c a w h=>h) ?_
        (first | (refine⟨undef,Or.inr ⟨by rfl,rfl⟩,?_⟩) | (apply Exists.intro;refine⟨Or.inl ⟨by rfl,?_⟩,?_⟩;(intro x hx';go_simp;first | done | with_reducible rfl)))
        (try simp only[Act.put,List.getElem_toArray,List.getElem_cons_zero,List.getElem_cons_succ,List.setIfInBounds_toArray,List.set_cons_zero,List.set_cons_succ])
        refine Z2 (by kernel_rfl) ?_ _
        refine NoPanic.normal ?_
        (try simp only[Act.put,List.getElem_toArray,List.getElem_cons_zero,List.getElem_cons_succ,List.setIfInBounds_toArray,List.set_cons_zero,List.set_cons_succ])
        have HG5:=hD0 (HI6.out.2.trans hS0)
        clear hS0 tx' ty
        go_wp2_with fail
        exact⟨⟨n1,false,rfl,rfl,by rw[←HN1.out.1];exact HN1.out.2,hD0 ⟨(fun h=>nomatch h),HG5.out⟩⟩,by rw[←HN1.out.1];exact Zz HN1.out.2⟩
     ·obtain rfl:n=nr:=Nat.le_antisymm hn (Nat.le_of_not_lt hlt2)
      have hlt2':¬n<n:=Nat.lt_irrefl n
      have HZ:=hD0 (HG4.out.trans HI6.out.2)
      have tx':∀z,Nw wr z→z.cell? ⟨eb,eo+k*2,none⟩=some (.int .i64 x):=fun z g=>tx z (HI6.out.2.trans g)
      clear hlt2
      cases self with
      | false =>
       go_wp2_with fail
       refine Z4 [] (Nw wr) (by kernel_rfl) ?_
       change Z5 _ _ _ _ _ _ 16 #[false,false,false,false,false,false,false,false,false,false,false,false,false,false,false,false] _ wr.drew
       obtain⟨y4,hy4⟩:∃y,wr.drew=y:=⟨_,rfl⟩
       rw[hy4]
       have hS0:Nw wr y4:=by rw[←hy4];exact(Nw.refl wr).dr
       clear hy4
       refine Z0 0 rfl (by kernel_rfl) (by kernel_rfl) (by kernel_rfl) (fun v c a w h=>h) ?_
       (first | (refine⟨undef,Or.inr ⟨by rfl,rfl⟩,?_⟩) | (apply Exists.intro;refine⟨Or.inl ⟨by rfl,?_⟩,?_⟩;(intro x hx';go_simp;first | done | with_reducible rfl)))
       (try simp only[Act.put,List.getElem_toArray,List.getElem_cons_zero,List.getElem_cons_succ,List.setIfInBounds_toArray,List.set_cons_zero,List.set_cons_succ])
       refine Z0 1 rfl (by kernel_rfl) (by kernel_rfl) (by kernel_rfl) (fun v c a w h=>h) ?_
       (first | (refine⟨undef,Or.inr ⟨by rfl,rfl⟩,?_⟩) | (apply Exists.intro;refine⟨Or.inl ⟨by rfl,?_⟩,?_⟩;(intro x hx';go_simp;first | done | with_reducible rfl)))
       (try simp only[Act.put,List.getElem_toArray,List.getElem_cons_zero,List.getElem_cons_succ,List.setIfInBounds_toArray,List.set_cons_zero,List.set_cons_succ])
       refine Z0 2 rfl (by kernel_rfl) (by kernel_rfl) (by kernel_rfl) (fun v c a w h=>h) ?_
       (first | (refine⟨undef,Or.inr ⟨by rfl,rfl⟩,?_⟩) | (apply Exists.intro;refine⟨Or.inl ⟨by rfl,?_⟩,?_⟩;(intro x hx';go_simp;first | done | with_reducible rfl)))
       (try simp only[Act.put,List.getElem_toArray,List.getElem_cons_zero,List.getElem_cons_succ,List.setIfInBounds_toArray,List.set_cons_zero,List.set_cons_succ])
       refine Z0 3 rfl (by kernel_rfl) (by kernel_rfl) (by kernel_rfl) (fun v c a w h=>h) ?_
       (first | (refine⟨undef,Or.inr ⟨by rfl,rfl⟩,?_⟩) | (apply Exists.intro;refine⟨Or.inl ⟨by rfl,?_⟩,?_⟩;(intro x hx';go_simp;first | done | with_reducible rfl)))
       (try simp only[Act.put,List.getElem_toArray,List.getElem_cons_zero,List.getElem_cons_succ,List.setIfInBounds_toArray,List.set_cons_zero,List.set_cons_succ])
       refine Z0 4 rfl (by kernel_rfl) (by kernel_rfl) (by kernel_rfl) (fun v c a w h=>h) ?_
       (first | (refine⟨undef,Or.inr ⟨by rfl,rfl⟩,?_⟩) | (apply Exists.intro;refine⟨Or.inl ⟨by rfl,?_⟩,?_⟩;(intro x hx';go_simp;first | done | with_reducible rfl)))
       (try simp only[Act.put,List.getElem_toArray,List.getElem_cons_zero,List.getElem_cons_succ,List.setIfInBounds_toArray,List.set_cons_zero,List.set_cons_succ])
       refine Z0 5 rfl (by kernel_rfl) (by kernel_rfl) (by kernel_rfl) (fun v c a w h=>h) ?_
       (first | (refine⟨undef,Or.inr ⟨by rfl,rfl⟩,?_⟩) | (apply Exists.intro;refine⟨Or.inl ⟨by rfl,?_⟩,?_⟩;(intro x hx';go_simp;first | done | with_reducible rfl)))
       (try simp only[Act.put,List.getElem_toArray,List.getElem_cons_zero,List.getElem_cons_succ,List.setIfInBounds_toArray,List.set_cons_zero,List.set_cons_succ])
       refine Z0 6 rfl (by kernel_rfl) (by kernel_rfl) (by kernel_rfl) (fun v c a w h=>h) ?_
       (first | (refine⟨undef,Or.inr ⟨by rfl,rfl⟩,?_⟩) | (apply Exists.intro;refine⟨Or.inl ⟨by rfl,?_⟩,?_⟩;(intro x hx';go_simp;first | done | with_reducible rfl)))
       (try simp only[Act.put,List.getElem_toArray,List.getElem_cons_zero,List.getElem_cons_succ,List.setIfInBounds_toArray,List.set_cons_zero,List.set_cons_succ])
       refine Z0 7 rfl (by kernel_rfl) (by kernel_rfl) (by kernel_rfl) (fun v c a w h=>h) ?_
       (first | (refine⟨undef,Or.inr ⟨by rfl,rfl⟩,?_⟩) | (apply Exists.intro;refine⟨Or.inl ⟨by rfl,?_⟩,?_⟩;(intro x hx';go_simp;first | done | with_reducible rfl)))
       (try simp only[Act.put,List.getElem_toArray,List.getElem_cons_zero,List.getElem_cons_succ,List.setIfInBounds_toArray,List.set_cons_zero,List.set_cons_succ])
       refine Z0 8 rfl (by kernel_rfl) (by kernel_rfl) (by kernel_rfl) (fun v c a w h=>h) ?_
       (first | (refine⟨undef,Or.inr ⟨by rfl,rfl⟩,?_⟩) | (apply Exists.intro;refine⟨Or.inl ⟨by rfl,?_⟩,?_⟩;(intro x hx';go_simp;first | done | with_reducible rfl)))
       (try simp only[Act.put,List.getElem_toArray,List.getElem_cons_zero,List.getElem_cons_succ,List.setIfInBounds_toArray,List.set_cons_zero,List.set_cons_succ])
       refine Z1 9 rfl (by kernel_rfl) (by kernel_rfl) (by kernel_rfl) (by kernel_rfl) (fun v c a w h=>h) hS0 ?_
       (first | (refine⟨undef,Or.inr ⟨by rfl,rfl⟩,?_⟩) | (apply Exists.intro;refine⟨Or.inl ⟨by rfl,?_⟩,?_⟩;(intro x hx';go_simp;first | done | with_reducible rfl)))
       (try simp only[Act.put,List.getElem_toArray,List.getElem_cons_zero,List.getElem_cons_succ,List.setIfInBounds_toArray,List.set_cons_zero,List.set_cons_succ])
       refine Z0 10 rfl (by kernel_rfl) (by kernel_rfl) (by kernel_rfl) (fun v c a w h=>h) ?_
       (first | (refine⟨undef,Or.inr ⟨by rfl,rfl⟩,?_⟩) | (apply Exists.intro;refine⟨Or.inl ⟨by rfl,?_⟩,?_⟩;(intro x hx';go_simp;first | done | with_reducible rfl)))
       (try simp only[Act.put,List.getElem_toArray,List.getElem_cons_zero,List.getElem_cons_succ,List.setIfInBounds_toArray,List.set_cons_zero,List.set_cons_succ])
       refine Z0 11 rfl (by kernel_rfl) (by kernel_rfl) (by kernel_rfl) (fun v c a w h=>h) ?_
       (first | (refine⟨undef,Or.inr ⟨by rfl,rfl⟩,?_⟩) | (apply Exists.intro;refine⟨Or.inl ⟨by rfl,?_⟩,?_⟩;(intro x hx';go_simp;first | done | with_reducible rfl)))
       (try simp only[Act.put,List.getElem_toArray,List.getElem_cons_zero,List.getElem_cons_succ,List.setIfInBounds_toArray,List.set_cons_zero,List.set_cons_succ])
       refine Z1 12 rfl (by kernel_rfl) (by kernel_rfl) (by kernel_rfl) (by kernel_rfl) (fun v c a w h=>h) hS0 ?_
       (first | (refine⟨undef,Or.inr ⟨by rfl,rfl⟩,?_⟩) | (apply Exists.intro;refine⟨Or.inl ⟨by rfl,?_⟩,?_⟩;(intro x hx';go_simp;first | done | with_reducible rfl)))
       (try simp only[Act.put,List.getElem_toArray,List.getElem_cons_zero,List.getElem_cons_succ,List.setIfInBounds_toArray,List.set_cons_zero,List.set_cons_succ])
       refine Z0 13 rfl (by kernel_rfl) (by kernel_rfl) (by kernel_rfl) (fun v c a w h=>h) ?_
       (first | (refine⟨undef,Or.inr ⟨by rfl,rfl⟩,?_⟩) | (apply Exists.intro;refine⟨Or.inl ⟨by rfl,?_⟩,?_⟩;(intro x hx';go_simp;first | done | with_reducible rfl)))
       (try simp only[Act.put,List.getElem_toArray,List.getElem_cons_zero,List.getElem_cons_succ,List.setIfInBounds_toArray,List.set_cons_zero,List.set_cons_succ])
       refine Z0 14 rfl (by kernel_rfl) (by kernel_rfl) (by kernel_rfl) (fun v c a w h=>h) ?_
       (first | (refine⟨undef,Or.inr ⟨by rfl,rfl⟩,?_⟩) | (apply Exists.intro;refine⟨Or.inl ⟨by rfl,?_⟩,?_⟩;(intro x hx';go_simp;first | done | with_reducible rfl)))
       (try simp only[Act.put,List.getElem_toArray,List.getElem_cons_zero,List.getElem_cons_succ,List.setIfInBounds_toArray,List.set_cons_zero,List.set_cons_succ])
       refine Z0 15 rfl (by kernel_rfl) (by kernel_rfl) (by kernel_rfl) (fun v c a w h=>h) ?_
       (first | (refine⟨undef,Or.inr ⟨by rfl,rfl⟩,?_⟩) | (apply Exists.intro;refine⟨Or.inl ⟨by rfl,?_⟩,?_⟩;(intro x hx';go_simp;first | done | with_reducible rfl)))
       (try simp only[Act.put,List.getElem_toArray,List.getElem_cons_zero,List.getElem_cons_succ,List.setIfInBounds_toArray,List.set_cons_zero,List.set_cons_succ])
       refine Z2 (by kernel_rfl) ?_ _
       refine NoPanic.normal ?_
       (try simp only[Act.put,List.getElem_toArray,List.getElem_cons_zero,List.getElem_cons_succ,List.setIfInBounds_toArray,List.set_cons_zero,List.set_cons_succ])
       have HG5:=hD0 ((HG4.out.trans HI6.out.2).trans hS0)
       clear hS0 tx'
       go_wp2_with fail
       exact⟨⟨k1,rfl,by rw[←HK1.out.1];exact HK1.out.2,HG5⟩,by rw[←HK1.out.1];exact Zz HK1.out.2⟩
      | true =>
       obtain⟨hb,hc0,hcx⟩:=Z08 HI.out.2 (HI6.out.1 rfl)
       subst hb
       obtain⟨cg,rfl,_⟩:=HCA.out hc0
       obtain⟨c0,hc0'⟩:∃y,c[0]=y:=⟨_,rfl⟩
       have ic:=HI3.out wr HZ.out
       rw[←HNC.out] at ic
       have c0c:=V8 ic hc0
       rw[hc0'] at c0c hcx
       have dcx:decide (x<c0)=false:=by rw[decide_eq_false_iff_not];omega
       have tc:∀z,Nw wr z→z.cell? ⟨cg,0,none⟩=some (.int .i64 c0):=fun z g=>g.kp c0c
       have hnc0:0<nc:=by rw[←HNC.out];exact hc0
       clear hc0' hcx ic c0c hc0
       go_wp2_with fail
       refine Z4 [] (Nw wr) (by kernel_rfl) ?_
       change Z5 _ _ _ _ _ _ 16 #[false,false,false,false,false,false,false,false,false,false,false,false,false,false,false,false] _ wr.drew
       obtain⟨y4,hy4⟩:∃y,wr.drew=y:=⟨_,rfl⟩
       rw[hy4]
       have hS0:Nw wr y4:=by rw[←hy4];exact(Nw.refl wr).dr
       clear hy4
       refine Z0 0 rfl (by kernel_rfl) (by kernel_rfl) (by kernel_rfl) (fun v c a w h=>h) ?_
       (first | (refine⟨undef,Or.inr ⟨by rfl,rfl⟩,?_⟩) | (apply Exists.intro;refine⟨Or.inl ⟨by rfl,?_⟩,?_⟩;(intro x hx';go_simp;first | done | with_reducible rfl)))
       (try simp only[Act.put,List.getElem_toArray,List.getElem_cons_zero,List.getElem_cons_succ,List.setIfInBounds_toArray,List.set_cons_zero,List.set_cons_succ])
       refine Z0 1 rfl (by kernel_rfl) (by kernel_rfl) (by kernel_rfl) (fun v c a w h=>h) ?_
       (first | (refine⟨undef,Or.inr ⟨by rfl,rfl⟩,?_⟩) | (apply Exists.intro;refine⟨Or.inl ⟨by rfl,?_⟩,?_⟩;(intro x hx';go_simp;first | done | with_reducible rfl)))
       (try simp only[Act.put,List.getElem_toArray,List.getElem_cons_zero,List.getElem_cons_succ,List.setIfInBounds_toArray,List.set_cons_zero,List.set_cons_succ])
       refine Z0 2 rfl (by kernel_rfl) (by kernel_rfl) (by kernel_rfl) (fun v c a w h=>h) ?_
       (first | (refine⟨undef,Or.inr ⟨by rfl,rfl⟩,?_⟩) | (apply Exists.intro;refine⟨Or.inl ⟨by rfl,?_⟩,?_⟩;(intro x hx';go_simp;first | done | with_reducible rfl)))
       (try simp only[Act.put,List.getElem_toArray,List.getElem_cons_zero,List.getElem_cons_succ,List.setIfInBounds_toArray,List.set_cons_zero,List.set_cons_succ])
       refine Z0 3 rfl (by kernel_rfl) (by kernel_rfl) (by kernel_rfl) (fun v c a w h=>h) ?_
       (first | (refine⟨undef,Or.inr ⟨by rfl,rfl⟩,?_⟩) | (apply Exists.intro;refine⟨Or.inl ⟨by rfl,?_⟩,?_⟩;(intro x hx';go_simp;first | done | with_reducible rfl)))
       (try simp only[Act.put,List.getElem_toArray,List.getElem_cons_zero,List.getElem_cons_succ,List.setIfInBounds_toArray,List.set_cons_zero,List.set_cons_succ])
       refine Z0 4 rfl (by kernel_rfl) (by kernel_rfl) (by kernel_rfl) (fun v c a w h=>h) ?_
       (first | (refine⟨undef,Or.inr ⟨by rfl,rfl⟩,?_⟩) | (apply Exists.intro;refine⟨Or.inl ⟨by rfl,?_⟩,?_⟩;(intro x hx';go_simp;first | done | with_reducible rfl)))
       (try simp only[Act.put,List.getElem_toArray,List.getElem_cons_zero,List.getElem_cons_succ,List.setIfInBounds_toArray,List.set_cons_zero,List.set_cons_succ])
       refine Z0 5 rfl (by kernel_rfl) (by kernel_rfl) (by kernel_rfl) (fun v c a w h=>h) ?_
       (first | (refine⟨undef,Or.inr ⟨by rfl,rfl⟩,?_⟩) | (apply Exists.intro;refine⟨Or.inl ⟨by rfl,?_⟩,?_⟩;(intro x hx';go_simp;first | done | with_reducible rfl)))
       (try simp only[Act.put,List.getElem_toArray,List.getElem_cons_zero,List.getElem_cons_succ,List.setIfInBounds_toArray,List.set_cons_zero,List.set_cons_succ])
       refine Z0 6 rfl (by kernel_rfl) (by kernel_rfl) (by kernel_rfl) (fun v c a w h=>h) ?_
       (first | (refine⟨undef,Or.inr ⟨by rfl,rfl⟩,?_⟩) | (apply Exists.intro;refine⟨Or.inl ⟨by rfl,?_⟩,?_⟩;(intro x hx';go_simp;first | done | with_reducible rfl)))
       (try simp only[Act.put,List.getElem_toArray,List.getElem_cons_zero,List.getElem_cons_succ,List.setIfInBounds_toArray,List.set_cons_zero,List.set_cons_succ])
       refine Z0 7 rfl (by kernel_rfl) (by kernel_rfl) (by kernel_rfl) (fun v c a w h=>h) ?_
       (first | (refine⟨undef,Or.inr ⟨by rfl,rfl⟩,?_⟩) | (apply Exists.intro;refine⟨Or.inl ⟨by rfl,?_⟩,?_⟩;(intro x hx';go_simp;first | done | with_reducible rfl)))
       (try simp only[Act.put,List.getElem_toArray,List.getElem_cons_zero,List.getElem_cons_succ,List.setIfInBounds_toArray,List.set_cons_zero,List.set_cons_succ])
       refine Z0 8 rfl (by kernel_rfl) (by kernel_rfl) (by kernel_rfl) (fun v c a w h=>h) ?_
       (first | (refine⟨undef,Or.inr ⟨by rfl,rfl⟩,?_⟩) | (apply Exists.intro;refine⟨Or.inl ⟨by rfl,?_⟩,?_⟩;(intro x hx';go_simp;first | done | with_reducible rfl)))
       (try simp only[Act.put,List.getElem_toArray,List.getElem_cons_zero,List.getElem_cons_succ,List.setIfInBounds_toArray,List.set_cons_zero,List.set_cons_succ])
       refine Z1 9 rfl (by kernel_rfl) (by kernel_rfl) (by kernel_rfl) (by kernel_rfl) (fun v c a w h=>h) hS0 ?_
       (first | (refine⟨undef,Or.inr ⟨by rfl,rfl⟩,?_⟩) | (apply Exists.intro;refine⟨Or.inl ⟨by rfl,?_⟩,?_⟩;(intro x hx';go_simp;first | done | with_reducible rfl)))
       (try simp only[Act.put,List.getElem_toArray,List.getElem_cons_zero,List.getElem_cons_succ,List.setIfInBounds_toArray,List.set_cons_zero,List.set_cons_succ])
       refine Z0 10 rfl (by kernel_rfl) (by kernel_rfl) (by kernel_rfl) (fun v c a w h=>h) ?_
       (first | (refine⟨undef,Or.inr ⟨by rfl,rfl⟩,?_⟩) | (apply Exists.intro;refine⟨Or.inl ⟨by rfl,?_⟩,?_⟩;(intro x hx';go_simp;first | done | with_reducible rfl)))
       (try simp only[Act.put,List.getElem_toArray,List.getElem_cons_zero,List.getElem_cons_succ,List.setIfInBounds_toArray,List.set_cons_zero,List.set_cons_succ])
       refine Z0 11 rfl (by kernel_rfl) (by kernel_rfl) (by kernel_rfl) (fun v c a w h=>h) ?_
       (first | (refine⟨undef,Or.inr ⟨by rfl,rfl⟩,?_⟩) | (apply Exists.intro;refine⟨Or.inl ⟨by rfl,?_⟩,?_⟩;(intro x hx';go_simp;first | done | with_reducible rfl)))
       (try simp only[Act.put,List.getElem_toArray,List.getElem_cons_zero,List.getElem_cons_succ,List.setIfInBounds_toArray,List.set_cons_zero,List.set_cons_succ])
       refine Z1 12 rfl (by kernel_rfl) (by kernel_rfl) (by kernel_rfl) (by kernel_rfl) (fun v c a w h=>h) hS0 ?_
       (first | (refine⟨undef,Or.inr ⟨by rfl,rfl⟩,?_⟩) | (apply Exists.intro;refine⟨Or.inl ⟨by rfl,?_⟩,?_⟩;(intro x hx';go_simp;first | done | with_reducible rfl)))
       (try simp only[Act.put,List.getElem_toArray,List.getElem_cons_zero,List.getElem_cons_succ,List.setIfInBounds_toArray,List.set_cons_zero,List.set_cons_succ])
       refine Z0 13 rfl (by kernel_rfl) (by kernel_rfl) (by kernel_rfl) (fun v c a w h=>h) ?_
       (first | (refine⟨undef,Or.inr ⟨by rfl,rfl⟩,?_⟩) | (apply Exists.intro;refine⟨Or.inl ⟨by rfl,?_⟩,?_⟩;(intro x hx';go_simp;first | done | with_reducible rfl)))
       (try simp only[Act.put,List.getElem_toArray,List.getElem_cons_zero,List.getElem_cons_succ,List.setIfInBounds_toArray,List.set_cons_zero,List.set_cons_succ])
       refine Z0 14 rfl (by kernel_rfl) (by kernel_rfl) (by kernel_rfl) (fun v c a w h=>h) ?_
       (first | (refine⟨undef,Or.inr ⟨by rfl,rfl⟩,?_⟩) | (apply Exists.intro;refine⟨Or.inl ⟨by rfl,?_⟩,?_⟩;(intro x hx';go_simp;first | done | with_reducible rfl)))
       (try simp only[Act.put,List.getElem_toArray,List.getElem_cons_zero,List.getElem_cons_succ,List.setIfInBounds_toArray,List.set_cons_zero,List.set_cons_succ])
       refine Z0 15 rfl (by kernel_rfl) (by kernel_rfl) (by kernel_rfl) (fun v c a w h=>h) ?_
       (first | (refine⟨undef,Or.inr ⟨by rfl,rfl⟩,?_⟩) | (apply Exists.intro;refine⟨Or.inl ⟨by rfl,?_⟩,?_⟩;(intro x hx';go_simp;first | done | with_reducible rfl)))
       (try simp only[Act.put,List.getElem_toArray,List.getElem_cons_zero,List.getElem_cons_succ,List.setIfInBounds_toArray,List.set_cons_zero,List.set_cons_succ])
       refine Z2 (by kernel_rfl) ?_ _
       refine NoPanic.normal ?_
       (try simp only[Act.put,List.getElem_toArray,List.getElem_cons_zero,List.getElem_cons_succ,List.setIfInBounds_toArray,List.set_cons_zero,List.set_cons_succ])
       have HG5:=hD0 ((HG4.out.trans HI6.out.2).trans hS0)
       clear hS0 tx'
       go_wp2_with fail
       exact⟨⟨k1,rfl,by rw[←HK1.out.1];exact HK1.out.2,HG5⟩,by rw[←HK1.out.1];exact Zz HK1.out.2⟩
   ·obtain rfl:k=len0:=Nat.le_antisymm hk (Nat.le_of_not_lt hlt)
    have hlt':¬k<k:=Nat.lt_irrefl k
    have HG5:=hD0 HW.out
    clear hlt HW
    go_wp2_with fail
    go_loopw [9] (fun v wr=>∃n:Nat,v=.int .i64 n∧n≤nc∧Hid (Nw w3 wr)) (fun v _=>nc-(intOf v).toNat)
    case atStart=>exact⟨0,rfl,Nat.zero_le _,HG5⟩
    case round =>
     obtain⟨n,rfl,hn,HI6⟩:=hrel
     by_cases hlt2:n<nc
     ·have hnc:n<c.length:=by rw[HNC.out];exact hlt2
      have h0c:0<c.length:=Nat.lt_of_le_of_lt (Nat.zero_le n) hnc
      obtain⟨cg,rfl,_⟩:=HCA.out h0c
      have hed:=Vp HI.out.2 hnc h0c
      have ic:=HI3.out wr HI6.out
      rw[←HNC.out] at ic
      have z0:=V8 ic h0c
      have zn:=V8 ic hnc
      obtain⟨c0,hc0⟩:∃y,c[0]=y:=⟨_,rfl⟩
      obtain⟨cn,hcn⟩:∃y,c[n]=y:=⟨_,rfl⟩
      rw[hc0] at z0 hed
      rw[hcn] at zn hed
      have hlt2':=Zo hlt2
      have hw2:=Y2 n (n+1) (Nat.le_trans (Nat.le_of_lt hlt2) (Nat.le_trans hcl (by decide))) rfl
      obtain⟨n1,hn1⟩:∃m,n+1=m:=⟨_,rfl⟩
      have HN1:=hD0 (aI0 hn1 hlt2)
      rw[hn1] at hw2 hed
      have HON:=hD0 (show ∀j,j<n→∃h:j<c.length,c[j]≠cn from fun j hj=>⟨Nat.lt_trans hj hnc,by rw[←hcn];exact Vq HI.out.2 hnc hj⟩)
      have hnc0:0<nc:=by rw[←HNC.out];exact h0c
      have hcgl:=(show cg<wr.heap.size from by
       have:=World.block_lt_of_cell? _ _ z0
       exact this)
      by_cases hl1:n1<nc
      ·have hl1':=Zo hl1
       have h1c:n1<c.length:=by rw[HNC.out];exact hl1
       have z1:=V8 ic h1c
       obtain⟨c1,hc1⟩:∃y,c[n1]=y:=⟨_,rfl⟩
       rw[List.getElem?_eq_getElem h1c,Option.getD_some,hc1] at hed
       rw[hc1] at z1
       have HY:=hD0 (Z1i a0 k cap0 l cn c1 wr (HE.out.nw (HG3.out.trans HI6.out)) (Nat.le_trans HB.out.1 (by decide)) hed)
       clear hnc h0c ic hc0 hcn hn1 hed h1c hc1
       go_wp2_with fail
       refine HY.out.mono ?_
       rintro e w5 ⟨rfl,g5⟩
       have HG5:=hD0 (HI6.out.trans g5)
       have HIS:=hD0 (show ∀z,Nw w5 z→IS z (.slice (some ⟨cg,0,none⟩) nc cc) c from fun z g=>HI3.out z ((HI6.out.trans g5).trans g))
       have HZN:=hD0 (g5.kp zn)
       have hnl:=hlt2
       clear HY g5 z0 zn z1
       go_wp2_with fail
       go_loopw [11] (fun v wr=>∃j:Nat,v=.int .i64 j∧j≤n∧Hid (Nw w5 wr)) (fun v _=>n-(intOf v).toNat)
       case atStart=>exact⟨0,rfl,Nat.zero_le _,hD0 (Nw.refl _)⟩
       case round =>
        obtain⟨j,rfl,hj,HI7⟩:=hrel
        by_cases hlt3:j<n
        ·obtain⟨hjc,hjne⟩:=HON.out j hlt3
         have ij:=HIS.out wr HI7.out
         rw[←HNC.out] at ij
         have zj:=V8 ij hjc
         obtain⟨cj,hcj⟩:∃y,c[j]=y:=⟨_,rfl⟩
         rw[hcj] at zj hjne
         have hjb:(cj==cn)=false:=by rw[beq_eq_false_iff_ne];exact hjne
         have hlt3':=Zo hlt3
         have hjn:j<nc:=Nat.lt_trans hlt3 hlt2
         have hjn':=Zo hjn
         have hw3:=Y2 j (j+1) (Nat.le_trans (Nat.le_of_lt (Nat.lt_trans hlt3 hlt2)) (Nat.le_trans hcl (by decide))) rfl
         obtain⟨j1,hj1⟩:∃m,j+1=m:=⟨_,rfl⟩
         have HJ1:=hD0 (aI0 hj1 hlt3)
         rw[hj1] at hw3
         have tj:∀z,Nw wr z→z.cell? ⟨cg,j,none⟩=some (.int .i64 cj):=fun z g=>g.kp zj
         have tn:∀z,Nw wr z→z.cell? ⟨cg,n,none⟩=some (.int .i64 cn):=fun z g=>(HI7.out.trans g).kp HZN.out
         clear hjc ij hcj hj1 hjne
         go_wp2_with fail
         refine Z4 [] (Nw wr) (by kernel_rfl) ?_
         change Z5 _ _ _ _ _ _ 9 #[false,false,false,false,false,false,false,false,false] _ wr.drew
         obtain⟨y4,hy4⟩:∃y,wr.drew=y:=⟨_,rfl⟩
         rw[hy4]
         have hS0:Nw wr y4:=by rw[←hy4];exact(Nw.refl wr).dr
         clear hy4
         refine Z0 0 rfl (by kernel_rfl) (by kernel_rfl) (by kernel_rfl) (fun v c a w h=>h) ?_
         (first | (refine⟨undef,Or.inr ⟨by rfl,rfl⟩,?_⟩) | (apply Exists.intro;refine⟨Or.inl ⟨by rfl,?_⟩,?_⟩;(intro x hx';go_simp;first | done | with_reducible rfl)))
         (try simp only[Act.put,List.getElem_toArray,List.getElem_cons_zero,List.getElem_cons_succ,List.setIfInBounds_toArray,List.set_cons_zero,List.set_cons_succ])
         refine Z0 1 rfl (by kernel_rfl) (by kernel_rfl) (by kernel_rfl) (fun v c a w h=>h) ?_
         (first | (refine⟨undef,Or.inr ⟨by rfl,rfl⟩,?_⟩) | (apply Exists.intro;refine⟨Or.inl ⟨by rfl,?_⟩,?_⟩;(intro x hx';go_simp;first | done | with_reducible rfl)))
         (try simp only[Act.put,List.getElem_toArray,List.getElem_cons_zero,List.getElem_cons_succ,List.setIfInBounds_toArray,List.set_cons_zero,List.set_cons_succ])
         refine Z0 2 rfl (by kernel_rfl) (by kernel_rfl) (by kernel_rfl) (fun v c a w h=>h) ?_
         (first | (refine⟨undef,Or.inr ⟨by rfl,rfl⟩,?_⟩) | (apply Exists.intro;refine⟨Or.inl ⟨by rfl,?_⟩,?_⟩;(intro x hx';go_simp;first | done | with_reducible rfl)))
         (try simp only[Act.put,List.getElem_toArray,List.getElem_cons_zero,List.getElem_cons_succ,List.setIfInBounds_toArray,List.set_cons_zero,List.set_cons_succ])
         refine Z1 3 rfl (by kernel_rfl) (by kernel_rfl) (by kernel_rfl) (by kernel_rfl) (fun v c a w h=>h) hS0 ?_
         (first | (refine⟨undef,Or.inr ⟨by rfl,rfl⟩,?_⟩) | (apply Exists.intro;refine⟨Or.inl ⟨by rfl,?_⟩,?_⟩;(intro x hx';go_simp;first | done | with_reducible rfl)))
         (try simp only[Act.put,List.getElem_toArray,List.getElem_cons_zero,List.getElem_cons_succ,List.setIfInBounds_toArray,List.set_cons_zero,List.set_cons_succ])
         refine Z0 4 rfl (by kernel_rfl) (by kernel_rfl) (by kernel_rfl) (fun v c a w h=>h) ?_
         (first | (refine⟨undef,Or.inr ⟨by rfl,rfl⟩,?_⟩) | (apply Exists.intro;refine⟨Or.inl ⟨by rfl,?_⟩,?_⟩;(intro x hx';go_simp;first | done | with_reducible rfl)))
         (try simp only[Act.put,List.getElem_toArray,List.getElem_cons_zero,List.getElem_cons_succ,List.setIfInBounds_toArray,List.set_cons_zero,List.set_cons_succ])
         refine Z0 5 rfl (by kernel_rfl) (by kernel_rfl) (by kernel_rfl) (fun v c a w h=>h) ?_
         (first | (refine⟨undef,Or.inr ⟨by rfl,rfl⟩,?_⟩) | (apply Exists.intro;refine⟨Or.inl ⟨by rfl,?_⟩,?_⟩;(intro x hx';go_simp;first | done | with_reducible rfl)))
         (try simp only[Act.put,List.getElem_toArray,List.getElem_cons_zero,List.getElem_cons_succ,List.setIfInBounds_toArray,List.set_cons_zero,List.set_cons_succ])
         refine Z0 6 rfl (by kernel_rfl) (by kernel_rfl) (by kernel_rfl) (fun v c a w h=>h) ?_
         (first | (refine⟨undef,Or.inr ⟨by rfl,rfl⟩,?_⟩) | (apply Exists.intro;refine⟨Or.inl ⟨by rfl,?_⟩,?_⟩;(intro x hx';go_simp;first | done | with_reducible rfl)))
         (try simp only[Act.put,List.getElem_toArray,List.getElem_cons_zero,List.getElem_cons_succ,List.setIfInBounds_toArray,List.set_cons_zero,List.set_cons_succ])
         refine Z1 7 rfl (by kernel_rfl) (by kernel_rfl) (by kernel_rfl) (by kernel_rfl) (fun v c a w h=>h) hS0 ?_
         (first | (refine⟨undef,Or.inr ⟨by rfl,rfl⟩,?_⟩) | (apply Exists.intro;refine⟨Or.inl ⟨by rfl,?_⟩,?_⟩;(intro x hx';go_simp;first | done | with_reducible rfl)))
         (try simp only[Act.put,List.getElem_toArray,List.getElem_cons_zero,List.getElem_cons_succ,List.setIfInBounds_toArray,List.set_cons_zero,List.set_cons_succ])
         refine Z0 8 rfl (by kernel_rfl) (by kernel_rfl) (by kernel_rfl) (fun v c a w h=>h) ?_
         (first | (refine⟨undef,Or.inr ⟨by rfl,rfl⟩,?_⟩) | (apply Exists.intro;refine⟨Or.inl ⟨by rfl,?_⟩,?_⟩;(intro x hx';go_simp;first | done | with_reducible rfl)))
         (try simp only[Act.put,List.getElem_toArray,List.getElem_cons_zero,List.getElem_cons_succ,List.setIfInBounds_toArray,List.set_cons_zero,List.set_cons_succ])
         refine Z2 (by kernel_rfl) ?_ _
         refine NoPanic.normal ?_
         (try simp only[Act.put,List.getElem_toArray,List.getElem_cons_zero,List.getElem_cons_succ,List.setIfInBounds_toArray,List.set_cons_zero,List.set_cons_succ])
         have HG9:=hD0 (HI7.out.trans hS0)
         clear hS0 tj tn
         go_wp2_with fail
         exact⟨⟨j1,rfl,by rw[←HJ1.out.1];exact HJ1.out.2,HG9⟩,by rw[←HJ1.out.1];exact Zz HJ1.out.2⟩
        ·obtain rfl:j=n:=Nat.le_antisymm hj (Nat.le_of_not_lt hlt3)
         have hlt3':¬j<j:=Nat.lt_irrefl j
         have HG8:=hD0 (HG5.out.trans HI7.out)
         clear hlt3
         go_wp2_with fail
         exact⟨⟨n1,rfl,by rw[←HN1.out.1];exact HN1.out.2,HG8⟩,by rw[←HN1.out.1];exact Zz HN1.out.2⟩
      ·have hl1':¬((n1:Int)<(nc:Int)):=by omega
       have hnn:c[n1]?=none:=List.getElem?_eq_none (by rw[HNC.out];omega)
       rw[hnn,Option.getD_none] at hed
       have HY:=hD0 (Z1i a0 k cap0 l cn c0 wr (HE.out.nw (HG3.out.trans HI6.out)) (Nat.le_trans HB.out.1 (by decide)) hed)
       clear hnc h0c ic hc0 hcn hn1 hed hnn
       go_wp2_with fail
       refine HY.out.mono ?_
       rintro e w5 ⟨rfl,g5⟩
       have HG5:=hD0 (HI6.out.trans g5)
       have HIS:=hD0 (show ∀z,Nw w5 z→IS z (.slice (some ⟨cg,0,none⟩) nc cc) c from fun z g=>HI3.out z ((HI6.out.trans g5).trans g))
       have HZN:=hD0 (g5.kp zn)
       have hnl:=hlt2
       clear HY g5 z0 zn
       go_wp2_with fail
       go_loopw [11] (fun v wr=>∃j:Nat,v=.int .i64 j∧j≤n∧Hid (Nw w5 wr)) (fun v _=>n-(intOf v).toNat)
       case atStart=>exact⟨0,rfl,Nat.zero_le _,hD0 (Nw.refl _)⟩
       case round =>
        obtain⟨j,rfl,hj,HI7⟩:=hrel
        by_cases hlt3:j<n
        ·obtain⟨hjc,hjne⟩:=HON.out j hlt3
         have ij:=HIS.out wr HI7.out
         rw[←HNC.out] at ij
         have zj:=V8 ij hjc
         obtain⟨cj,hcj⟩:∃y,c[j]=y:=⟨_,rfl⟩
         rw[hcj] at zj hjne
         have hjb:(cj==cn)=false:=by rw[beq_eq_false_iff_ne];exact hjne
         have hlt3':=Zo hlt3
         have hjn:j<nc:=Nat.lt_trans hlt3 hlt2
         have hjn':=Zo hjn
         have hw3:=Y2 j (j+1) (Nat.le_trans (Nat.le_of_lt (Nat.lt_trans hlt3 hlt2)) (Nat.le_trans hcl (by decide))) rfl
         obtain⟨j1,hj1⟩:∃m,j+1=m:=⟨_,rfl⟩
         have HJ1:=hD0 (aI0 hj1 hlt3)
         rw[hj1] at hw3
         have tj:∀z,Nw wr z→z.cell? ⟨cg,j,none⟩=some (.int .i64 cj):=fun z g=>g.kp zj
         have tn:∀z,Nw wr z→z.cell? ⟨cg,n,none⟩=some (.int .i64 cn):=fun z g=>(HI7.out.trans g).kp HZN.out
         clear hjc ij hcj hj1 hjne
         go_wp2_with fail
         refine Z4 [] (Nw wr) (by kernel_rfl) ?_
         change Z5 _ _ _ _ _ _ 9 #[false,false,false,false,false,false,false,false,false] _ wr.drew
         obtain⟨y4,hy4⟩:∃y,wr.drew=y:=⟨_,rfl⟩
         rw[hy4]
         have hS0:Nw wr y4:=by rw[←hy4];exact(Nw.refl wr).dr
         clear hy4
         refine Z0 0 rfl (by kernel_rfl) (by kernel_rfl) (by kernel_rfl) (fun v c a w h=>h) ?_
         (first | (refine⟨undef,Or.inr ⟨by rfl,rfl⟩,?_⟩) | (apply Exists.intro;refine⟨Or.inl ⟨by rfl,?_⟩,?_⟩;(intro x hx';go_simp;first | done | with_reducible rfl)))
         (try simp only[Act.put,List.getElem_toArray,List.getElem_cons_zero,List.getElem_cons_succ,List.setIfInBounds_toArray,List.set_cons_zero,List.set_cons_succ])
         refine Z0 1 rfl (by kernel_rfl) (by kernel_rfl) (by kernel_rfl) (fun v c a w h=>h) ?_
         (first | (refine⟨undef,Or.inr ⟨by rfl,rfl⟩,?_⟩) | (apply Exists.intro;refine⟨Or.inl ⟨by rfl,?_⟩,?_⟩;(intro x hx';go_simp;first | done | with_reducible rfl)))
         (try simp only[Act.put,List.getElem_toArray,List.getElem_cons_zero,List.getElem_cons_succ,List.setIfInBounds_toArray,List.set_cons_zero,List.set_cons_succ])
         refine Z0 2 rfl (by kernel_rfl) (by kernel_rfl) (by kernel_rfl) (fun v c a w h=>h) ?_
         (first | (refine⟨undef,Or.inr ⟨by rfl,rfl⟩,?_⟩) | (apply Exists.intro;refine⟨Or.inl ⟨by rfl,?_⟩,?_⟩;(intro x hx';go_simp;first | done | with_reducible rfl)))
         (try simp only[Act.put,List.getElem_toArray,List.getElem_cons_zero,List.getElem_cons_succ,List.setIfInBounds_toArray,List.set_cons_zero,List.set_cons_succ])
         refine Z1 3 rfl (by kernel_rfl) (by kernel_rfl) (by kernel_rfl) (by kernel_rfl) (fun v c a w h=>h) hS0 ?_
         (first | (refine⟨undef,Or.inr ⟨by rfl,rfl⟩,?_⟩) | (apply Exists.intro;refine⟨Or.inl ⟨by rfl,?_⟩,?_⟩;(intro x hx';go_simp;first | done | with_reducible rfl)))
         (try simp only[Act.put,List.getElem_toArray,List.getElem_cons_zero,List.getElem_cons_succ,List.setIfInBounds_toArray,List.set_cons_zero,List.set_cons_succ])
         refine Z0 4 rfl (by kernel_rfl) (by kernel_rfl) (by kernel_rfl) (fun v c a w h=>h) ?_
         (first | (refine⟨undef,Or.inr ⟨by rfl,rfl⟩,?_⟩) | (apply Exists.intro;refine⟨Or.inl ⟨by rfl,?_⟩,?_⟩;(intro x hx';go_simp;first | done | with_reducible rfl)))
         (try simp only[Act.put,List.getElem_toArray,List.getElem_cons_zero,List.getElem_cons_succ,List.setIfInBounds_toArray,List.set_cons_zero,List.set_cons_succ])
         refine Z0 5 rfl (by kernel_rfl) (by kernel_rfl) (by kernel_rfl) (fun v c a w h=>h) ?_
         (first | (refine⟨undef,Or.inr ⟨by rfl,rfl⟩,?_⟩) | (apply Exists.intro;refine⟨Or.inl ⟨by rfl,?_⟩,?_⟩;(intro x hx';go_simp;first | done | with_reducible rfl)))
         (try simp only[Act.put,List.getElem_toArray,List.getElem_cons_zero,List.getElem_cons_succ,List.setIfInBounds_toArray,List.set_cons_zero,List.set_cons_succ])
         refine Z0 6 rfl (by kernel_rfl) (by kernel_rfl) (by kernel_rfl) (fun v c a w h=>h) ?_
         (first | (refine⟨undef,Or.inr ⟨by rfl,rfl⟩,?_⟩) | (apply Exists.intro;refine⟨Or.inl ⟨by rfl,?_⟩,?_⟩;(intro x hx';go_simp;first | done | with_reducible rfl)))
         (try simp only[Act.put,List.getElem_toArray,List.getElem_cons_zero,List.getElem_cons_succ,List.setIfInBounds_toArray,List.set_cons_zero,List.set_cons_succ])
         refine Z1 7 rfl (by kernel_rfl) (by kernel_rfl) (by kernel_rfl) (by kernel_rfl) (fun v c a w h=>h) hS0 ?_
         (first | (refine⟨undef,Or.inr ⟨by rfl,rfl⟩,?_⟩) | (apply Exists.intro;refine⟨Or.inl ⟨by rfl,?_⟩,?_⟩;(intro x hx';go_simp;first | done | with_reducible rfl)))
         (try simp only[Act.put,List.getElem_toArray,List.getElem_cons_zero,List.getElem_cons_succ,List.setIfInBounds_toArray,List.set_cons_zero,List.set_cons_succ])
         refine Z0 8 rfl (by kernel_rfl) (by kernel_rfl) (by kernel_rfl) (fun v c a w h=>h) ?_
         (first | (refine⟨undef,Or.inr ⟨by rfl,rfl⟩,?_⟩) | (apply Exists.intro;refine⟨Or.inl ⟨by rfl,?_⟩,?_⟩;(intro x hx';go_simp;first | done | with_reducible rfl)))
         (try simp only[Act.put,List.getElem_toArray,List.getElem_cons_zero,List.getElem_cons_succ,List.setIfInBounds_toArray,List.set_cons_zero,List.set_cons_succ])
         refine Z2 (by kernel_rfl) ?_ _
         refine NoPanic.normal ?_
         (try simp only[Act.put,List.getElem_toArray,List.getElem_cons_zero,List.getElem_cons_succ,List.setIfInBounds_toArray,List.set_cons_zero,List.set_cons_succ])
         have HG9:=hD0 (HI7.out.trans hS0)
         clear hS0 tj tn
         go_wp2_with fail
         exact⟨⟨j1,rfl,by rw[←HJ1.out.1];exact HJ1.out.2,HG9⟩,by rw[←HJ1.out.1];exact Zz HJ1.out.2⟩
        ·obtain rfl:j=n:=Nat.le_antisymm hj (Nat.le_of_not_lt hlt3)
         have hlt3':¬j<j:=Nat.lt_irrefl j
         have HG8:=hD0 (HG5.out.trans HI7.out)
         clear hlt3
         go_wp2_with fail
         exact⟨⟨n1,rfl,by rw[←HN1.out.1];exact HN1.out.2,HG8⟩,by rw[←HN1.out.1];exact Zz HN1.out.2⟩
     ·obtain rfl:n=nc:=Nat.le_antisymm hn (Nat.le_of_not_lt hlt2)
      have hlt2':¬n<n:=Nat.lt_irrefl n
      have HZ:=hD0 (HG3.out.trans HI6.out)
      clear hlt2
      go_wp2_with fail
      go_ret
      exact⟨rfl,HZ.out⟩
theorem waitsCycles_law(a0:Option Addr)(len0 cap0:Nat)(l:List (Int × Int))(W:World)(h:EgIn W a0 len0 cap0 l) :
  Calls prog 3 #[.slice a0 len0 cap0] W fun e W'=>e=.returned (.bool true)∧Below W.heap.size W W':=Z09 a0 len0 cap0 l W h
end Go.Proofs.Ytobnolgphljoeaa
