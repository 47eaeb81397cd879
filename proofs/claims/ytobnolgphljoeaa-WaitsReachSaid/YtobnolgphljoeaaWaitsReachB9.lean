/- Texts merged: WdC -/
import Derived.Test.YtobnolgphljoeaaWaitsReachB8
set_option linter.unusedVariables false
set_option maxRecDepth 100000
set_option maxHeartbeats 16000000
namespace Go.Proofs.Ytobnolgphljoeaa
open Go.RowKit _root_.Go.Proofs.Try
theorem Yc{l:List (Int × Int)}{a:Int}{out:List Int}(h:Z35 l a out):out.length≤l.length:=by
 have hnd:out.Nodup:=h.1.imp (fun {a b} q=>by omega)
 have:=Vg (m:=l.map Prod.snd) hnd fun y hy=>by
  obtain⟨x,hx⟩:=Vi ((h.2 y).1 hy)
  exact List.mem_map.2 ⟨_,hx,rfl⟩
 simpa using this
theorem Z2k{l:List (Int × Int)}{a:Int}{out:List Int}(h:Z35 l a out)(hF:∀e∈l,Z8 e.1∧Z8 e.2):∀y∈out,Z8 y:=by
 intro y hy
 obtain⟨x,hx⟩:=Vi ((h.2 y).1 hy)
 exact(hF _ hx).2
theorem U0{l:List (Int × Int)}{t:Int}:∀e∈Yg l t,e∈l:=fun e he=>(Yx.1 he).1
theorem Yw(l:List (Int × Int))(t:Int):(Yg l t).length≤l.length:=List.length_filter_le _ _
theorem EgIn.take{w:World}{a:Option Addr}{len cap:Nat}{l:List (Int × Int)}(h:EgIn w a len cap l){k:Nat}(hk:k≤len):Y2 w (.slice a k cap) (l.take k):=by
 obtain⟨a',c',e,hh⟩:=h.rd
 simp only[Value.slice.injEq] at e
 obtain⟨rfl,_,rfl⟩:=e
 have hl:(l.take k).length=k:=by rw[List.length_take,h.hl,Nat.min_eq_left hk]
 rcases hh with⟨rfl,hc⟩ | ⟨b,o,rfl,hc⟩
 ·exact⟨a,cap,by rw[hl],.inl ⟨by simp,hc⟩⟩
 ·refine⟨_,cap,by rw[hl],.inr ⟨b,o,rfl,?_⟩⟩
  have:=hc.part 0 k
  simpa using this
theorem Z29{w:World}{g n cap:Nat}{l:List Int}(h:IS w (.slice (some ⟨g,0,none⟩) n cap) l){i:Nat}(hi:i<l.length):w.cell? ⟨g,i,none⟩=some (.int .i64 l[i]):=by
 rw[h.cell i hi,List.getD_eq_getElem?_getD,List.getElem?_eq_getElem hi];rfl
theorem Z2g(n:Int)(m:Nat):∃k:Nat,n%((m:Int)+1)=k∧k≤m:=by
 have h0:0≤n%((m:Int)+1):=Int.emod_nonneg _ (by omega)
 have h1:n%((m:Int)+1)<(m:Int)+1:=Int.emod_lt_of_pos _ (by omega)
 exact⟨(n%((m:Int)+1)).toNat,by omega,by omega⟩
theorem Z1r(a0:Option Addr)(len0 cap0:Nat)(l:List (Int × Int))(a cut x:Int)(W:World)(h:EgIn W a0 len0 cap0 l)(ha:Z8 a)(hx:Z8 x) :
  Calls prog 6 #[.slice a0 len0 cap0,.int .i64 a,.int .i64 cut,.int .i64 x] W fun e W'=>e=.returned (.bool true)∧Nw W W':=by
 have HL:=hD0 (Z1w W)
 have HE:=hD0 h
 have HF:=hD0 (aI0 ha hx)
 clear h ha hx
 by_cases hlen:30<len0
 ·have d:decide ((30:Int)<(len0:Int))=true:=by rw[decide_eq_true_iff];omega
  have d2:decide (30<len0)=true:=by simpa using hlen
  clear hlen
  go_enter func6,ntmps6
  go_wp2_with fail
  refine HL.out.mono ?_
  rintro e w1 ⟨rfl,g1⟩
  have HG:=hD0 g1
  clear g1
  go_wp2_with fail
  go_ret
  exact⟨rfl,HG.out⟩
 ·have d:decide ((30:Int)<(len0:Int))=false:=by rw[decide_eq_false_iff_not];omega
  have d2:decide (30<len0)=false:=by rw[decide_eq_false_iff_not];exact hlen
  have hll:len0≤30:=Nat.le_of_not_lt hlen
  have hl1000:l.length≤1000:=by rw[HE.out.hl];omega
  have HB:=hD0 (aI0 hll hl1000)
  have HRe:=hD0 (fun(z:World) (g:Nw W z) (y:Int) (hy:Z8 y)=>Yj (HE.out.rd.nw g) hl1000 HE.out.fit y hy)
  clear hlen hll hl1000
  go_enter func6,ntmps6
  go_wp2_with fail
  refine HL.out.mono ?_
  rintro e w1 ⟨rfl,g1⟩
  have HR1:=hD0 (HRe.out w1 g1 a HF.out.1)
  have HG:=hD0 g1
  clear g1 HL
  go_wp2_with fail
  refine HR1.out.mono ?_
  rintro e w2 ⟨va,A,rfl,hI,hP,g2⟩
  have HA:=hD0 (aI0 hI hP)
  have HG2:=hD0 (HG.out.trans g2)
  obtain⟨aa,ac,rfl,haa⟩:=hI.box
  have HAA:=hD0 haa
  have hAl:=Nat.le_trans (Yc hP) HB.out.2
  obtain⟨na,hna⟩:∃n,A.length=n:=⟨_,rfl⟩
  have HNA:=hD0 hna
  rw[hna] at hAl ⊢
  have HA3_:=hD0 (fun(z:World) (g:Nw w2 z)=>HA.out.1.nw g)
  clear hI hP g2 haa hna HG HR1
  go_wp2_with fail
  go_loopw [10] (fun v wr=>∃k:Nat,v=.int .i64 k∧k≤na∧Hid (Nw w2 wr)) (fun v _=>na-(intOf v).toNat)
  case atStart=>exact⟨0,rfl,Nat.zero_le _,hD0 (Nw.refl _)⟩
  case round =>
   obtain⟨k,rfl,hk,HW⟩:=hrel
   by_cases hlt:k<na
   ·have hkA:k<A.length:=by rw[HNA.out];exact hlt
    obtain⟨ag,rfl,_⟩:=HAA.out (by omega)
    obtain⟨y,hy⟩:∃y,A[k]=y:=⟨_,rfl⟩
    have hyA:y∈A:=hy▸gM0 hkA
    have hiw:=HA.out.1.nw HW.out
    have cy:=Z29 hiw hkA
    rw[hy] at cy
    have hlt':=Y0 hlt
    have hw:=Y7 k (k+1) (Nat.le_trans (Nat.le_of_lt hlt) (Nat.le_trans hAl (by decide))) rfl
    obtain⟨k1,hk1⟩:∃m,k+1=m:=⟨_,rfl⟩
    have HK1:=hD0 hk1
    rw[hk1] at hw
    have ty:∀z,Nw wr z→z.cell? ⟨ag,k,none⟩=some (.int .i64 y):=fun z g=>g.kp cy
    have HR2:=hD0 (fun(z:World) (g:Nw wr z)=>HRe.out z ((HG2.out.trans HW.out).trans g) y (Z2k HA.out.2 HE.out.fit y hyA))
    have HYA:=hD0 hyA
    by_cases hz:k=0
    ·subst hz
     obtain rfl:k1=1:=HK1.out.symm
     clear hkA hy hyA hiw cy hk1
     go_wp2_with fail
     refine Z4 [] (Nw wr) (by kernel_rfl) ?_
     change Z5 _ _ _ _ _ _ 25 #[false,false,false,false,false,false,false,false,false,false,false,false,false,false,false,false,false,false,false,false,false,false,false,false,false] _ wr.drew
     obtain⟨y4,hy4⟩:∃y,wr.drew=y:=⟨_,rfl⟩
     rw[hy4]
     have hS0:Nw wr y4:=by rw[←hy4];exact(Nw.refl wr).dr
     clear hy4
     refine Z0 0 rfl (by kernel_rfl) (by kernel_rfl) (by kernel_rfl) (fun v c a w h=>h) ?_
     (first | (refine⟨undef,Or.inr ⟨by rfl,rfl⟩,?_⟩) | (apply Exists.intro;refine⟨Or.inl ⟨by rfl,?_⟩,?_⟩;(intro x hx';go_simp;first | done | with_reducible rfl)))
     (try simp only[Act.put,List.getElem_toArray,List.getElem_cons_zero,List.getElem_cons_succ,List.setIfInBounds_toArray,List.set_cons_zero,List.set_cons_succ])
     refine Z0 1 rfl (by kernel_rfl) (by kernel_rfl) (by kernel_rfl) (fun v c a w h=>h) ?_
     (first | (refine⟨undef,Or.inr ⟨by rfl,rfl⟩,?_⟩) | (apply Exists.intro;refine⟨Or.inl ⟨by rfl,?_⟩,?_⟩;(intro x hx';go_simp;first | done | with_reducible rfl)))
     (try simp only[Act.put,List.getElem_toArray,List.getElem_cons_zero,List.getElem_cons_succ,List.setIfInBounds_toArray,List.set_cons_zero,List.set_cons_succ])
     refine Z0 2 rfl (by kernel_rfl) (by kernel_rfl) (by kernel_rfl) (fun v c a w h=>h) ?_
     (first | (refine⟨undef,Or.inr ⟨by rfl,rfl⟩,?_⟩) | (apply Exists.intro;refine⟨Or.inl ⟨by rfl,?_⟩,?_⟩;(intro x hx';go_simp;first | done | with_reducible rfl)))
     (try simp only[Act.put,List.getElem_toArray,List.getElem_cons_zero,List.getElem_cons_succ,List.setIfInBounds_toArray,List.set_cons_zero,List.set_cons_succ])
     refine Z0 3 rfl (by kernel_rfl) (by kernel_rfl) (by kernel_rfl) (fun v c a w h=>h) ?_
     (first | (refine⟨undef,Or.inr ⟨by rfl,rfl⟩,?_⟩) | (apply Exists.intro;refine⟨Or.inl ⟨by rfl,?_⟩,?_⟩;(intro x hx';go_simp;first | done | with_reducible rfl)))
     (try simp only[Act.put,List.getElem_toArray,List.getElem_cons_zero,List.getElem_cons_succ,List.setIfInBounds_toArray,List.set_cons_zero,List.set_cons_succ])
     refine Z0 4 rfl (by kernel_rfl) (by kernel_rfl) (by kernel_rfl) (fun v c a w h=>h) ?_
     (first | (refine⟨undef,Or.inr ⟨by rfl,rfl⟩,?_⟩) | (apply Exists.intro;refine⟨Or.inl ⟨by rfl,?_⟩,?_⟩;(intro x hx';go_simp;first | done | with_reducible rfl)))
     (try simp only[Act.put,List.getElem_toArray,List.getElem_cons_zero,List.getElem_cons_succ,List.setIfInBounds_toArray,List.set_cons_zero,List.set_cons_succ])
     refine Z0 5 rfl (by kernel_rfl) (by kernel_rfl) (by kernel_rfl) (fun v c a w h=>h) ?_
     (first | (refine⟨undef,Or.inr ⟨by rfl,rfl⟩,?_⟩) | (apply Exists.intro;refine⟨Or.inl ⟨by rfl,?_⟩,?_⟩;(intro x hx';go_simp;first | done | with_reducible rfl)))
     (try simp only[Act.put,List.getElem_toArray,List.getElem_cons_zero,List.getElem_cons_succ,List.setIfInBounds_toArray,List.set_cons_zero,List.set_cons_succ])
     refine Z0 6 rfl (by kernel_rfl) (by kernel_rfl) (by kernel_rfl) (fun v c a w h=>h) ?_
     (first | (refine⟨undef,Or.inr ⟨by rfl,rfl⟩,?_⟩) | (apply Exists.intro;refine⟨Or.inl ⟨by rfl,?_⟩,?_⟩;(intro x hx';go_simp;first | done | with_reducible rfl)))
     (try simp only[Act.put,List.getElem_toArray,List.getElem_cons_zero,List.getElem_cons_succ,List.setIfInBounds_toArray,List.set_cons_zero,List.set_cons_succ])
     refine Z1 7 rfl (by kernel_rfl) (by kernel_rfl) (by kernel_rfl) (by kernel_rfl) (fun v c a w h=>h) hS0 ?_
     (first | (refine⟨undef,Or.inr ⟨by rfl,rfl⟩,?_⟩) | (apply Exists.intro;refine⟨Or.inl ⟨by rfl,?_⟩,?_⟩;(intro x hx';go_simp;first | done | with_reducible rfl)))
     (try simp only[Act.put,List.getElem_toArray,List.getElem_cons_zero,List.getElem_cons_succ,List.setIfInBounds_toArray,List.set_cons_zero,List.set_cons_succ])
     refine Z0 8 rfl (by kernel_rfl) (by kernel_rfl) (by kernel_rfl) (fun v c a w h=>h) ?_
     (first | (refine⟨undef,Or.inr ⟨by rfl,rfl⟩,?_⟩) | (apply Exists.intro;refine⟨Or.inl ⟨by rfl,?_⟩,?_⟩;(intro x hx';go_simp;first | done | with_reducible rfl)))
     (try simp only[Act.put,List.getElem_toArray,List.getElem_cons_zero,List.getElem_cons_succ,List.setIfInBounds_toArray,List.set_cons_zero,List.set_cons_succ])
     refine Z0 9 rfl (by kernel_rfl) (by kernel_rfl) (by kernel_rfl) (fun v c a w h=>h) ?_
     (first | (refine⟨undef,Or.inr ⟨by rfl,rfl⟩,?_⟩) | (apply Exists.intro;refine⟨Or.inl ⟨by rfl,?_⟩,?_⟩;(intro x hx';go_simp;first | done | with_reducible rfl)))
     (try simp only[Act.put,List.getElem_toArray,List.getElem_cons_zero,List.getElem_cons_succ,List.setIfInBounds_toArray,List.set_cons_zero,List.set_cons_succ])
     refine Z0 10 rfl (by kernel_rfl) (by kernel_rfl) (by kernel_rfl) (fun v c a w h=>h) ?_
     (first | (refine⟨undef,Or.inr ⟨by rfl,rfl⟩,?_⟩) | (apply Exists.intro;refine⟨Or.inl ⟨by rfl,?_⟩,?_⟩;(intro x hx';go_simp;first | done | with_reducible rfl)))
     (try simp only[Act.put,List.getElem_toArray,List.getElem_cons_zero,List.getElem_cons_succ,List.setIfInBounds_toArray,List.set_cons_zero,List.set_cons_succ])
     refine Z1 11 rfl (by kernel_rfl) (by kernel_rfl) (by kernel_rfl) (by kernel_rfl) (fun v c a w h=>h) hS0 ?_
     (first | (refine⟨undef,Or.inr ⟨by rfl,rfl⟩,?_⟩) | (apply Exists.intro;refine⟨Or.inl ⟨by rfl,?_⟩,?_⟩;(intro x hx';go_simp;first | done | with_reducible rfl)))
     (try simp only[Act.put,List.getElem_toArray,List.getElem_cons_zero,List.getElem_cons_succ,List.setIfInBounds_toArray,List.set_cons_zero,List.set_cons_succ])
     refine Z0 12 rfl (by kernel_rfl) (by kernel_rfl) (by kernel_rfl) (fun v c a w h=>h) ?_
     (first | (refine⟨undef,Or.inr ⟨by rfl,rfl⟩,?_⟩) | (apply Exists.intro;refine⟨Or.inl ⟨by rfl,?_⟩,?_⟩;(intro x hx';go_simp;first | done | with_reducible rfl)))
     (try simp only[Act.put,List.getElem_toArray,List.getElem_cons_zero,List.getElem_cons_succ,List.setIfInBounds_toArray,List.set_cons_zero,List.set_cons_succ])
     refine Z0 13 rfl (by kernel_rfl) (by kernel_rfl) (by kernel_rfl) (fun v c a w h=>h) ?_
     (first | (refine⟨undef,Or.inr ⟨by rfl,rfl⟩,?_⟩) | (apply Exists.intro;refine⟨Or.inl ⟨by rfl,?_⟩,?_⟩;(intro x hx';go_simp;first | done | with_reducible rfl)))
     (try simp only[Act.put,List.getElem_toArray,List.getElem_cons_zero,List.getElem_cons_succ,List.setIfInBounds_toArray,List.set_cons_zero,List.set_cons_succ])
     refine Z0 14 rfl (by kernel_rfl) (by kernel_rfl) (by kernel_rfl) (fun v c a w h=>h) ?_
     (first | (refine⟨undef,Or.inr ⟨by rfl,rfl⟩,?_⟩) | (apply Exists.intro;refine⟨Or.inl ⟨by rfl,?_⟩,?_⟩;(intro x hx';go_simp;first | done | with_reducible rfl)))
     (try simp only[Act.put,List.getElem_toArray,List.getElem_cons_zero,List.getElem_cons_succ,List.setIfInBounds_toArray,List.set_cons_zero,List.set_cons_succ])
     refine Z0 15 rfl (by kernel_rfl) (by kernel_rfl) (by kernel_rfl) (fun v c a w h=>h) ?_
     (first | (refine⟨undef,Or.inr ⟨by rfl,rfl⟩,?_⟩) | (apply Exists.intro;refine⟨Or.inl ⟨by rfl,?_⟩,?_⟩;(intro x hx';go_simp;first | done | with_reducible rfl)))
     (try simp only[Act.put,List.getElem_toArray,List.getElem_cons_zero,List.getElem_cons_succ,List.setIfInBounds_toArray,List.set_cons_zero,List.set_cons_succ])
     refine Z0 16 rfl (by kernel_rfl) (by kernel_rfl) (by kernel_rfl) (fun v c a w h=>h) ?_
     (first | (refine⟨undef,Or.inr ⟨by rfl,rfl⟩,?_⟩) | (apply Exists.intro;refine⟨Or.inl ⟨by rfl,?_⟩,?_⟩;(intro x hx';go_simp;first | done | with_reducible rfl)))
     (try simp only[Act.put,List.getElem_toArray,List.getElem_cons_zero,List.getElem_cons_succ,List.setIfInBounds_toArray,List.set_cons_zero,List.set_cons_succ])
     refine Z0 17 rfl (by kernel_rfl) (by kernel_rfl) (by kernel_rfl) (fun v c a w h=>h) ?_
     (first | (refine⟨undef,Or.inr ⟨by rfl,rfl⟩,?_⟩) | (apply Exists.intro;refine⟨Or.inl ⟨by rfl,?_⟩,?_⟩;(intro x hx';go_simp;first | done | with_reducible rfl)))
     (try simp only[Act.put,List.getElem_toArray,List.getElem_cons_zero,List.getElem_cons_succ,List.setIfInBounds_toArray,List.set_cons_zero,List.set_cons_succ])
     refine Z0 18 rfl (by kernel_rfl) (by kernel_rfl) (by kernel_rfl) (fun v c a w h=>h) ?_
     (first | (refine⟨undef,Or.inr ⟨by rfl,rfl⟩,?_⟩) | (apply Exists.intro;refine⟨Or.inl ⟨by rfl,?_⟩,?_⟩;(intro x hx';go_simp;first | done | with_reducible rfl)))
     (try simp only[Act.put,List.getElem_toArray,List.getElem_cons_zero,List.getElem_cons_succ,List.setIfInBounds_toArray,List.set_cons_zero,List.set_cons_succ])
     refine Z0 19 rfl (by kernel_rfl) (by kernel_rfl) (by kernel_rfl) (fun v c a w h=>h) ?_
     (first | (refine⟨undef,Or.inr ⟨by rfl,rfl⟩,?_⟩) | (apply Exists.intro;refine⟨Or.inl ⟨by rfl,?_⟩,?_⟩;(intro x hx';go_simp;first | done | with_reducible rfl)))
     (try simp only[Act.put,List.getElem_toArray,List.getElem_cons_zero,List.getElem_cons_succ,List.setIfInBounds_toArray,List.set_cons_zero,List.set_cons_succ])
     refine Z1 20 rfl (by kernel_rfl) (by kernel_rfl) (by kernel_rfl) (by kernel_rfl) (fun v c a w h=>h) hS0 ?_
     (first | (refine⟨undef,Or.inr ⟨by rfl,rfl⟩,?_⟩) | (apply Exists.intro;refine⟨Or.inl ⟨by rfl,?_⟩,?_⟩;(intro x hx';go_simp;first | done | with_reducible rfl)))
     (try simp only[Act.put,List.getElem_toArray,List.getElem_cons_zero,List.getElem_cons_succ,List.setIfInBounds_toArray,List.set_cons_zero,List.set_cons_succ])
     refine Z2 21 (by kernel_rfl) rfl (fun K hK=>?_)
     rw[if_pos (by rfl)]
     (try simp only[List.getElem_toArray,List.getElem_cons_zero,List.getElem_cons_succ])
     go_simp
     refine(HR2.out y4 hS0).mono ?_
     rintro e w4 ⟨v4,B4,rfl,hI4,hP4,g4⟩
     refine hK _ _ (.inr (hS0.trans g4)) ?_
     clear hK K
     (try simp only[Act.put,List.getElem_toArray,List.getElem_cons_zero,List.getElem_cons_succ,List.setIfInBounds_toArray,List.set_cons_zero,List.set_cons_succ])
     have HSo:=hD0 (Yu (HA3_.out _ ((HW.out.trans hS0).trans g4)) hI4 (by rw[HNA.out];omega) (Nat.le_trans (Yc hP4) (Nat.le_trans HB.out.2 (by decide))) (fun q hq=>(HA.out.2.2 q).2 (Relation.TransGen.trans ((HA.out.2.2 y).1 HYA.out) ((hP4.2 q).1 hq))))
     rw[HNA.out] at HSo
     have hS4:=hS0.trans g4
     clear hI4 hP4 g4 hS0
     refine Z2 22 (by kernel_rfl) rfl (fun K hK=>?_)
     rw[if_pos (by rfl)]
     (try simp only[List.getElem_toArray,List.getElem_cons_zero,List.getElem_cons_succ])
     go_simp
     refine HSo.out.mono ?_
     rintro e w5 ⟨rfl,g5⟩
     refine hK _ _ (.inr (hS4.trans g5)) ?_
     clear hK K
     (try simp only[Act.put,List.getElem_toArray,List.getElem_cons_zero,List.getElem_cons_succ,List.setIfInBounds_toArray,List.set_cons_zero,List.set_cons_succ])
     refine Z0 23 rfl (by kernel_rfl) (by kernel_rfl) (by kernel_rfl) (fun v c a w h=>h) ?_
     (first | (refine⟨undef,Or.inr ⟨by rfl,rfl⟩,?_⟩) | (apply Exists.intro;refine⟨Or.inl ⟨by rfl,?_⟩,?_⟩;(intro x hx';go_simp;first | done | with_reducible rfl)))
     (try simp only[Act.put,List.getElem_toArray,List.getElem_cons_zero,List.getElem_cons_succ,List.setIfInBounds_toArray,List.set_cons_zero,List.set_cons_succ])
     refine Z0 24 rfl (by kernel_rfl) (by kernel_rfl) (by kernel_rfl) (fun v c a w h=>h) ?_
     (first | (refine⟨undef,Or.inr ⟨by rfl,rfl⟩,?_⟩) | (apply Exists.intro;refine⟨Or.inl ⟨by rfl,?_⟩,?_⟩;(intro x hx';go_simp;first | done | with_reducible rfl)))
     (try simp only[Act.put,List.getElem_toArray,List.getElem_cons_zero,List.getElem_cons_succ,List.setIfInBounds_toArray,List.set_cons_zero,List.set_cons_succ])
     refine Z3 (by kernel_rfl) ?_ _
     refine NoPanic.normal ?_
     (try simp only[Act.put,List.getElem_toArray,List.getElem_cons_zero,List.getElem_cons_succ,List.setIfInBounds_toArray,List.set_cons_zero,List.set_cons_succ])
     have HG5:=hD0 ((HW.out.trans hS4).trans g5)
     clear hS4 g5 HSo ty
     go_wp2_with fail
     go_roundw
     case rel=>exact⟨1,rfl,hlt,HG5⟩
     case measure=>(show na-(1:Int).toNat<na-((0:Nat):Int).toNat;omega)
    ·obtain⟨j,hj⟩:∃j,k=j+1:=⟨k-1,by omega⟩
     have hjA:j<A.length:=by omega
     obtain⟨x0,hx0⟩:∃x,A[j]=x:=⟨_,rfl⟩
     have cx:=Z29 hiw hjA
     rw[hx0] at cx
     have tx:∀z,Nw wr z→z.cell? ⟨ag,j,none⟩=some (.int .i64 x0):=fun z g=>g.kp cx
     have hdj:=Y8 k j (Nat.le_trans (Nat.le_of_lt hlt) (Nat.le_trans hAl (by decide))) hj
     have hjn:j<na:=by omega
     have hjn':=Y0 hjn
     have hk0:decide ((0:Int)<(k:Int))=true:=by rw[decide_eq_true_iff];omega
     have hk00:decide (0<k)=true:=by rw[decide_eq_true_iff];omega
     have hxy:decide (y≤x0)=false:=by
      have:=List.pairwise_iff_getElem.1 HA.out.2.1 j k hjA hkA (by omega)
      rw[hx0,hy] at this
      rw[decide_eq_false_iff_not];omega
     clear hkA hy hyA hiw cy hk1 cx hj hjA hx0 hz
     go_wp2_with fail
     refine Z4 [] (Nw wr) (by kernel_rfl) ?_
     change Z5 _ _ _ _ _ _ 25 #[false,false,false,false,false,false,false,false,false,false,false,false,false,false,false,false,false,false,false,false,false,false,false,false,false] _ wr.drew
     obtain⟨y4,hy4⟩:∃y,wr.drew=y:=⟨_,rfl⟩
     rw[hy4]
     have hS0:Nw wr y4:=by rw[←hy4];exact(Nw.refl wr).dr
     clear hy4
     refine Z0 0 rfl (by kernel_rfl) (by kernel_rfl) (by kernel_rfl) (fun v c a w h=>h) ?_
     (first | (refine⟨undef,Or.inr ⟨by rfl,rfl⟩,?_⟩) | (apply Exists.intro;refine⟨Or.inl ⟨by rfl,?_⟩,?_⟩;(intro x hx';go_simp;first | done | with_reducible rfl)))
     (try simp only[Act.put,List.getElem_toArray,List.getElem_cons_zero,List.getElem_cons_succ,List.setIfInBounds_toArray,List.set_cons_zero,List.set_cons_succ])
     refine Z0 1 rfl (by kernel_rfl) (by kernel_rfl) (by kernel_rfl) (fun v c a w h=>h) ?_
     (first | (refine⟨undef,Or.inr ⟨by rfl,rfl⟩,?_⟩) | (apply Exists.intro;refine⟨Or.inl ⟨by rfl,?_⟩,?_⟩;(intro x hx';go_simp;first | done | with_reducible rfl)))
     (try simp only[Act.put,List.getElem_toArray,List.getElem_cons_zero,List.getElem_cons_succ,List.setIfInBounds_toArray,List.set_cons_zero,List.set_cons_succ])
     refine Z0 2 rfl (by kernel_rfl) (by kernel_rfl) (by kernel_rfl) (fun v c a w h=>h) ?_
     (first | (refine⟨undef,Or.inr ⟨by rfl,rfl⟩,?_⟩) | (apply Exists.intro;refine⟨Or.inl ⟨by rfl,?_⟩,?_⟩;(intro x hx';go_simp;first | done | with_reducible rfl)))
     (try simp only[Act.put,List.getElem_toArray,List.getElem_cons_zero,List.getElem_cons_succ,List.setIfInBounds_toArray,List.set_cons_zero,List.set_cons_succ])
     refine Z0 3 rfl (by kernel_rfl) (by kernel_rfl) (by kernel_rfl) (fun v c a w h=>h) ?_
     (first | (refine⟨undef,Or.inr ⟨by rfl,rfl⟩,?_⟩) | (apply Exists.intro;refine⟨Or.inl ⟨by rfl,?_⟩,?_⟩;(intro x hx';go_simp;first | done | with_reducible rfl)))
     (try simp only[Act.put,List.getElem_toArray,List.getElem_cons_zero,List.getElem_cons_succ,List.setIfInBounds_toArray,List.set_cons_zero,List.set_cons_succ])
     refine Z0 4 rfl (by kernel_rfl) (by kernel_rfl) (by kernel_rfl) (fun v c a w h=>h) ?_
     (first | (refine⟨undef,Or.inr ⟨by rfl,rfl⟩,?_⟩) | (apply Exists.intro;refine⟨Or.inl ⟨by rfl,?_⟩,?_⟩;(intro x hx';go_simp;first | done | with_reducible rfl)))
     (try simp only[Act.put,List.getElem_toArray,List.getElem_cons_zero,List.getElem_cons_succ,List.setIfInBounds_toArray,List.set_cons_zero,List.set_cons_succ])
     refine Z0 5 rfl (by kernel_rfl) (by kernel_rfl) (by kernel_rfl) (fun v c a w h=>h) ?_
     (first | (refine⟨undef,Or.inr ⟨by rfl,rfl⟩,?_⟩) | (apply Exists.intro;refine⟨Or.inl ⟨by rfl,?_⟩,?_⟩;(intro x hx';go_simp;first | done | with_reducible rfl)))
     (try simp only[Act.put,List.getElem_toArray,List.getElem_cons_zero,List.getElem_cons_succ,List.setIfInBounds_toArray,List.set_cons_zero,List.set_cons_succ])
     refine Z0 6 rfl (by kernel_rfl) (by kernel_rfl) (by kernel_rfl) (fun v c a w h=>h) ?_
     (first | (refine⟨undef,Or.inr ⟨by rfl,rfl⟩,?_⟩) | (apply Exists.intro;refine⟨Or.inl ⟨by rfl,?_⟩,?_⟩;(intro x hx';go_simp;first | done | with_reducible rfl)))
     (try simp only[Act.put,List.getElem_toArray,List.getElem_cons_zero,List.getElem_cons_succ,List.setIfInBounds_toArray,List.set_cons_zero,List.set_cons_succ])
     refine Z1 7 rfl (by kernel_rfl) (by kernel_rfl) (by kernel_rfl) (by kernel_rfl) (fun v c a w h=>h) hS0 ?_
     (first | (refine⟨undef,Or.inr ⟨by rfl,rfl⟩,?_⟩) | (apply Exists.intro;refine⟨Or.inl ⟨by rfl,?_⟩,?_⟩;(intro x hx';go_simp;first | done | with_reducible rfl)))
     (try simp only[Act.put,List.getElem_toArray,List.getElem_cons_zero,List.getElem_cons_succ,List.setIfInBounds_toArray,List.set_cons_zero,List.set_cons_succ])
     refine Z0 8 rfl (by kernel_rfl) (by kernel_rfl) (by kernel_rfl) (fun v c a w h=>h) ?_
     (first | (refine⟨undef,Or.inr ⟨by rfl,rfl⟩,?_⟩) | (apply Exists.intro;refine⟨Or.inl ⟨by rfl,?_⟩,?_⟩;(intro x hx';go_simp;first | done | with_reducible rfl)))
     (try simp only[Act.put,List.getElem_toArray,List.getElem_cons_zero,List.getElem_cons_succ,List.setIfInBounds_toArray,List.set_cons_zero,List.set_cons_succ])
     refine Z0 9 rfl (by kernel_rfl) (by kernel_rfl) (by kernel_rfl) (fun v c a w h=>h) ?_
     (first | (refine⟨undef,Or.inr ⟨by rfl,rfl⟩,?_⟩) | (apply Exists.intro;refine⟨Or.inl ⟨by rfl,?_⟩,?_⟩;(intro x hx';go_simp;first | done | with_reducible rfl)))
     (try simp only[Act.put,List.getElem_toArray,List.getElem_cons_zero,List.getElem_cons_succ,List.setIfInBounds_toArray,List.set_cons_zero,List.set_cons_succ])
     refine Z0 10 rfl (by kernel_rfl) (by kernel_rfl) (by kernel_rfl) (fun v c a w h=>h) ?_
     (first | (refine⟨undef,Or.inr ⟨by rfl,rfl⟩,?_⟩) | (apply Exists.intro;refine⟨Or.inl ⟨by rfl,?_⟩,?_⟩;(intro x hx';go_simp;first | done | with_reducible rfl)))
     (try simp only[Act.put,List.getElem_toArray,List.getElem_cons_zero,List.getElem_cons_succ,List.setIfInBounds_toArray,List.set_cons_zero,List.set_cons_succ])
     refine Z1 11 rfl (by kernel_rfl) (by kernel_rfl) (by kernel_rfl) (by kernel_rfl) (fun v c a w h=>h) hS0 ?_
     (first | (refine⟨undef,Or.inr ⟨by rfl,rfl⟩,?_⟩) | (apply Exists.intro;refine⟨Or.inl ⟨by rfl,?_⟩,?_⟩;(intro x hx';go_simp;first | done | with_reducible rfl)))
     (try simp only[Act.put,List.getElem_toArray,List.getElem_cons_zero,List.getElem_cons_succ,List.setIfInBounds_toArray,List.set_cons_zero,List.set_cons_succ])
     refine Z0 12 rfl (by kernel_rfl) (by kernel_rfl) (by kernel_rfl) (fun v c a w h=>h) ?_
     (first | (refine⟨undef,Or.inr ⟨by rfl,rfl⟩,?_⟩) | (apply Exists.intro;refine⟨Or.inl ⟨by rfl,?_⟩,?_⟩;(intro x hx';go_simp;first | done | with_reducible rfl)))
     (try simp only[Act.put,List.getElem_toArray,List.getElem_cons_zero,List.getElem_cons_succ,List.setIfInBounds_toArray,List.set_cons_zero,List.set_cons_succ])
     refine Z0 13 rfl (by kernel_rfl) (by kernel_rfl) (by kernel_rfl) (fun v c a w h=>h) ?_
     (first | (refine⟨undef,Or.inr ⟨by rfl,rfl⟩,?_⟩) | (apply Exists.intro;refine⟨Or.inl ⟨by rfl,?_⟩,?_⟩;(intro x hx';go_simp;first | done | with_reducible rfl)))
     (try simp only[Act.put,List.getElem_toArray,List.getElem_cons_zero,List.getElem_cons_succ,List.setIfInBounds_toArray,List.set_cons_zero,List.set_cons_succ])
     refine Z0 14 rfl (by kernel_rfl) (by kernel_rfl) (by kernel_rfl) (fun v c a w h=>h) ?_
     (first | (refine⟨undef,Or.inr ⟨by rfl,rfl⟩,?_⟩) | (apply Exists.intro;refine⟨Or.inl ⟨by rfl,?_⟩,?_⟩;(intro x hx';go_simp;first | done | with_reducible rfl)))
     (try simp only[Act.put,List.getElem_toArray,List.getElem_cons_zero,List.getElem_cons_succ,List.setIfInBounds_toArray,List.set_cons_zero,List.set_cons_succ])
     refine Z0 15 rfl (by kernel_rfl) (by kernel_rfl) (by kernel_rfl) (fun v c a w h=>h) ?_
     (first | (refine⟨undef,Or.inr ⟨by rfl,rfl⟩,?_⟩) | (apply Exists.intro;refine⟨Or.inl ⟨by rfl,?_⟩,?_⟩;(intro x hx';go_simp;first | done | with_reducible rfl)))
     (try simp only[Act.put,List.getElem_toArray,List.getElem_cons_zero,List.getElem_cons_succ,List.setIfInBounds_toArray,List.set_cons_zero,List.set_cons_succ])
     refine Z0 16 rfl (by kernel_rfl) (by kernel_rfl) (by kernel_rfl) (fun v c a w h=>h) ?_
     (first | (refine⟨undef,Or.inr ⟨by rfl,rfl⟩,?_⟩) | (apply Exists.intro;refine⟨Or.inl ⟨by rfl,?_⟩,?_⟩;(intro x hx';go_simp;first | done | with_reducible rfl)))
     (try simp only[Act.put,List.getElem_toArray,List.getElem_cons_zero,List.getElem_cons_succ,List.setIfInBounds_toArray,List.set_cons_zero,List.set_cons_succ])
     refine Z0 17 rfl (by kernel_rfl) (by kernel_rfl) (by kernel_rfl) (fun v c a w h=>h) ?_
     (first | (refine⟨undef,Or.inr ⟨by rfl,rfl⟩,?_⟩) | (apply Exists.intro;refine⟨Or.inl ⟨by rfl,?_⟩,?_⟩;(intro x hx';go_simp;first | done | with_reducible rfl)))
     (try simp only[Act.put,List.getElem_toArray,List.getElem_cons_zero,List.getElem_cons_succ,List.setIfInBounds_toArray,List.set_cons_zero,List.set_cons_succ])
     refine Z0 18 rfl (by kernel_rfl) (by kernel_rfl) (by kernel_rfl) (fun v c a w h=>h) ?_
     (first | (refine⟨undef,Or.inr ⟨by rfl,rfl⟩,?_⟩) | (apply Exists.intro;refine⟨Or.inl ⟨by rfl,?_⟩,?_⟩;(intro x hx';go_simp;first | done | with_reducible rfl)))
     (try simp only[Act.put,List.getElem_toArray,List.getElem_cons_zero,List.getElem_cons_succ,List.setIfInBounds_toArray,List.set_cons_zero,List.set_cons_succ])
     refine Z0 19 rfl (by kernel_rfl) (by kernel_rfl) (by kernel_rfl) (fun v c a w h=>h) ?_
     (first | (refine⟨undef,Or.inr ⟨by rfl,rfl⟩,?_⟩) | (apply Exists.intro;refine⟨Or.inl ⟨by rfl,?_⟩,?_⟩;(intro x hx';go_simp;first | done | with_reducible rfl)))
     (try simp only[Act.put,List.getElem_toArray,List.getElem_cons_zero,List.getElem_cons_succ,List.setIfInBounds_toArray,List.set_cons_zero,List.set_cons_succ])
     refine Z1 20 rfl (by kernel_rfl) (by kernel_rfl) (by kernel_rfl) (by kernel_rfl) (fun v c a w h=>h) hS0 ?_
     (first | (refine⟨undef,Or.inr ⟨by rfl,rfl⟩,?_⟩) | (apply Exists.intro;refine⟨Or.inl ⟨by rfl,?_⟩,?_⟩;(intro x hx';go_simp;first | done | with_reducible rfl)))
     (try simp only[Act.put,List.getElem_toArray,List.getElem_cons_zero,List.getElem_cons_succ,List.setIfInBounds_toArray,List.set_cons_zero,List.set_cons_succ])
     refine Z2 21 (by kernel_rfl) rfl (fun K hK=>?_)
     rw[if_pos (by rfl)]
     (try simp only[List.getElem_toArray,List.getElem_cons_zero,List.getElem_cons_succ])
     go_simp
     refine(HR2.out y4 hS0).mono ?_
     rintro e w4 ⟨v4,B4,rfl,hI4,hP4,g4⟩
     refine hK _ _ (.inr (hS0.trans g4)) ?_
     clear hK K
     (try simp only[Act.put,List.getElem_toArray,List.getElem_cons_zero,List.getElem_cons_succ,List.setIfInBounds_toArray,List.set_cons_zero,List.set_cons_succ])
     have HSo:=hD0 (Yu (HA3_.out _ ((HW.out.trans hS0).trans g4)) hI4 (by rw[HNA.out];omega) (Nat.le_trans (Yc hP4) (Nat.le_trans HB.out.2 (by decide))) (fun q hq=>(HA.out.2.2 q).2 (Relation.TransGen.trans ((HA.out.2.2 y).1 HYA.out) ((hP4.2 q).1 hq))))
     rw[HNA.out] at HSo
     have hS4:=hS0.trans g4
     clear hI4 hP4 g4 hS0
     refine Z2 22 (by kernel_rfl) rfl (fun K hK=>?_)
     rw[if_pos (by rfl)]
     (try simp only[List.getElem_toArray,List.getElem_cons_zero,List.getElem_cons_succ])
     go_simp
     refine HSo.out.mono ?_
     rintro e w5 ⟨rfl,g5⟩
     refine hK _ _ (.inr (hS4.trans g5)) ?_
     clear hK K
     (try simp only[Act.put,List.getElem_toArray,List.getElem_cons_zero,List.getElem_cons_succ,List.setIfInBounds_toArray,List.set_cons_zero,List.set_cons_succ])
     refine Z0 23 rfl (by kernel_rfl) (by kernel_rfl) (by kernel_rfl) (fun v c a w h=>h) ?_
     (first | (refine⟨undef,Or.inr ⟨by rfl,rfl⟩,?_⟩) | (apply Exists.intro;refine⟨Or.inl ⟨by rfl,?_⟩,?_⟩;(intro x hx';go_simp;first | done | with_reducible rfl)))
     (try simp only[Act.put,List.getElem_toArray,List.getElem_cons_zero,List.getElem_cons_succ,List.setIfInBounds_toArray,List.set_cons_zero,List.set_cons_succ])
     refine Z0 24 rfl (by kernel_rfl) (by kernel_rfl) (by kernel_rfl) (fun v c a w h=>h) ?_
     (first | (refine⟨undef,Or.inr ⟨by rfl,rfl⟩,?_⟩) | (apply Exists.intro;refine⟨Or.inl ⟨by rfl,?_⟩,?_⟩;(intro x hx';go_simp;first | done | with_reducible rfl)))
     (try simp only[Act.put,List.getElem_toArray,List.getElem_cons_zero,List.getElem_cons_succ,List.setIfInBounds_toArray,List.set_cons_zero,List.set_cons_succ])
     refine Z3 (by kernel_rfl) ?_ _
     refine NoPanic.normal ?_
     (try simp only[Act.put,List.getElem_toArray,List.getElem_cons_zero,List.getElem_cons_succ,List.setIfInBounds_toArray,List.set_cons_zero,List.set_cons_succ])
     have HG5:=hD0 ((HW.out.trans hS4).trans g5)
     clear hS4 g5 HSo ty tx
     go_wp2_with fail
     go_roundw
     case rel=>exact⟨k1,rfl,by rw[←HK1.out];exact hlt,HG5⟩
     case measure=>rw[←HK1.out];exact Yf hlt
   ·obtain rfl:k=na:=Nat.le_antisymm hk (Nat.le_of_not_lt hlt)
    have hlt':¬k<k:=Nat.lt_irrefl k
    have HG3:=hD0 (HG2.out.trans HW.out)
    have g3f:=hD0 HW.out
    obtain⟨kc,hkc,hkl⟩:=Z2g cut len0
    have HP:=hD0 (fun z=>Z2f cut ((len0:Int)+1) z (by omega) (by have:=HB.out.1;omega))
    rw[hkc] at HP
    have hwl:IntKind.i64.wrap ((len0:Int)+1)=(len0:Int)+1:=by rw[IntKind.wrap_i64];have:=HB.out.1;omega
    have hkl1:kc≤cap0:=Nat.le_trans hkl HE.out.hc
    have hkl2:(kc:Int)≤(cap0:Int):=by omega
    have HPre:=hD0 (fun(z:World) (g:Nw W z)=>Yj ((HE.out.nw g).take hkl) (by rw[List.length_take,HE.out.hl];have:=HB.out.1;omega) (fun e he=>HE.out.fit e (List.mem_of_mem_take he)) a HF.out.1)
    have HWo:=hD0 (fun(z:World) (g:Nw W z)=>Z0m (HE.out.rd.nw g) HB.out.2 x)
    clear hlt HG2 HW hkl
    go_wp2_with fail
    refine(HP.out _).mono ?_
    rintro e w3 ⟨rfl,rfl⟩
    go_wp2_with fail
    refine(HPre.out _ HG3.out).mono ?_
    rintro e w4 ⟨v4,P4,rfl,hI4,hP4,g4⟩
    have HF4:=hD0 (aI0 hI4 hP4)
    have HG4:=hD0 (HG3.out.trans g4)
    have HT4:=hD0 g4
    clear hI4 hP4 g4 HP HPre
    go_wp2_with fail
    refine(HWo.out _ HG4.out).mono ?_
    rintro e w5 ⟨v5,rfl,hE5,hc5,g5⟩
    obtain⟨ba,bc,rfl⟩:=hE5.form
    have HE5:=hD0 (aI0 hE5 hc5)
    have HG5:=hD0 (HG4.out.trans g5)
    have HT5:=hD0 g5
    have hdl:=Yw l x
    have hFd:∀e∈Yg l x,Z8 e.1∧Z8 e.2:=fun e he=>HE.out.fit e (U0 e he)
    have HRd:=hD0 (fun(z:World) (g:Nw w5 z) (y:Int) (hy:Z8 y)=>Yj (hE5.nw g) (Nat.le_trans hdl HB.out.2) hFd y hy)
    clear hE5 hc5 g5 hdl hFd
    go_wp2_with fail
    refine(HRd.out _ (Nw.refl _) a HF.out.1).mono ?_
    rintro e w6 ⟨v6,D6,rfl,hI6,hP6,g6⟩
    obtain⟨da,dc,rfl,hda⟩:=hI6.box
    have HDA:=hD0 hda
    have HF6:=hD0 (aI0 hI6 hP6)
    have HG6:=hD0 (HG5.out.trans g6)
    have HT6:=hD0 g6
    obtain⟨nd,hnd⟩:∃n,D6.length=n:=⟨_,rfl⟩
    have HND:=hD0 hnd
    have hDl:nd≤1000:=by rw[←hnd];exact Nat.le_trans (Yc hP6) (Nat.le_trans (Yw l x) HB.out.2)
    have HNX:=hD0 (show ∀y∈D6,y≠x from fun y hy=>by
     obtain⟨z,hz⟩:=Vi ((hP6.2 y).1 hy)
     exact(Yx.1 hz).2.2)
    rw[hnd]
    clear hI6 hP6 g6 hda hnd
    go_wp2_with fail
    go_loopw [14] (fun v wr=>∃k:Nat,v=.int .i64 k∧k≤nd∧Hid (Nw w6 wr)) (fun v _=>nd-(intOf v).toNat)
    case atStart=>exact⟨0,rfl,Nat.zero_le _,hD0 (Nw.refl _)⟩
    case round =>
     rename_i wz
     obtain⟨k,rfl,hk,HW⟩:=hrel
     by_cases hlt:k<nd
     ·have hkD:k<D6.length:=by rw[HND.out];exact hlt
      obtain⟨dg,rfl,_⟩:=HDA.out (by omega)
      obtain⟨y,hy⟩:∃y,D6[k]=y:=⟨_,rfl⟩
      have hyD:y∈D6:=hy▸gM0 hkD
      have cy:=Z29 (HF6.out.1.nw HW.out) hkD
      rw[hy] at cy
      have hyb:(y==x)=false:=by rw[beq_eq_false_iff_ne];exact HNX.out y hyD
      have hlt':=Y0 hlt
      have hw:=Y7 k (k+1) (Nat.le_trans (Nat.le_of_lt hlt) (Nat.le_trans hDl (by decide))) rfl
      obtain⟨k1,hk1⟩:∃m,k+1=m:=⟨_,rfl⟩
      have HK1:=hD0 hk1
      rw[hk1] at hw
      clear hkD hy hyD hk1
      go_wp2_with fail
      exact⟨⟨k1,rfl,by rw[←HK1.out];exact hlt,HW⟩,by rw[←HK1.out];exact Yf hlt⟩
     ·obtain rfl:k=nd:=Nat.le_antisymm hk (Nat.le_of_not_lt hlt)
      have hlt':¬k<k:=Nat.lt_irrefl k
      have HS1:=hD0 (fun(z:World) (g:Nw wr z)=>Yu (HA3_.out z (((((g3f.out.trans HT4.out).trans HT5.out).trans HT6.out).trans HW.out).trans g)) (HF4.out.1.nw (((HT5.out.trans HT6.out).trans HW.out).trans g)) (by rw[HNA.out];omega) (Nat.le_trans (Yc HF4.out.2) (by have:=HB.out.2;rw[List.length_take];omega)) (fun q hq=>(HA.out.2.2 q).2 (Yr (fun e he=>List.mem_of_mem_take he) ((HF4.out.2.2 q).1 hq))))
      have HS2:=hD0 (fun(z:World) (g:Nw wr z)=>Yu (HA3_.out z (((((g3f.out.trans HT4.out).trans HT5.out).trans HT6.out).trans HW.out).trans g)) (HF6.out.1.nw (HW.out.trans g)) (by rw[HNA.out];omega) (by rw[HND.out];omega) (fun q hq=>(HA.out.2.2 q).2 (Yr U0 ((HF6.out.2.2 q).1 hq))))
      rw[HNA.out] at HS1 HS2
      rw[HND.out] at HS2
      have hle:(Yg l x).length≤len0:=by have:=Yw l x;have:=HE.out.hl;omega
      have hle':(((Yg l x).length:Nat):Int)≤(len0:Int):=by omega
      clear hlt
      go_wp2_with fail
      refine(HS1.out _ (Nw.refl _)).mono ?_
      rintro e w7 ⟨rfl,g7⟩
      have HG7:=hD0 g7
      clear g7
      go_wp2_with fail
      refine(HS2.out _ HG7.out).mono ?_
      rintro e w8 ⟨rfl,g8⟩
      have HG8:=hD0 (HG7.out.trans g8)
      clear g8 HG7 HS1 HS2
      go_wp2_with fail
      refine(HRd.out _ ((HT6.out.trans HW.out).trans HG8.out) x HF.out.2).mono ?_
      rintro e w9 ⟨v9,N9,rfl,hI9,hP9,g9⟩
      obtain rfl:N9=[]:=by
       cases N9 with
       | nil=>rfl
       | cons y t =>
        exfalso
        obtain⟨z,hz⟩:=Yq ((hP9.2 y).1 (List.mem_cons_self ..))
        exact(Yx.1 hz).2.1 rfl
      obtain⟨na9,nc9,rfl,_⟩:=hI9.box
      have HG9:=hD0 ((((HG6.out.trans HW.out)).trans HG8.out).trans g9)
      clear hI9 hP9 g9
      go_wp2_with fail
      go_ret
      exact⟨rfl,HG9.out⟩
theorem waitsReach_law(a0:Option Addr)(len0 cap0:Nat)(l:List (Int × Int))(a cut x:Int)(W:World)(h:EgIn W a0 len0 cap0 l)(ha:Z8 a)(hc:Z8 cut)(hx:Z8 x) :
  Calls prog 6 #[.slice a0 len0 cap0,.int .i64 a,.int .i64 cut,.int .i64 x] W fun e W'=>e=.returned (.bool true)∧Below W.heap.size W W':=Z1r a0 len0 cap0 l a cut x W h ha hx
end Go.Proofs.Ytobnolgphljoeaa
