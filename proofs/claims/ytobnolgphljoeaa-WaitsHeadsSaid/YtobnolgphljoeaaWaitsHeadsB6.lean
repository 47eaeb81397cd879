/- Texts merged: QuD, QuE, QuF, QuG, QuI, QuJ, QvC, QsA, QvB, QvD, QuK, QuL, QuN, QvI, QvO, QvK, QvL, Shelf, QwA, QvP -/
import Derived.Test.YtobnolgphljoeaaWaitsHeadsB5
import Derived.StillTailTactics
import Derived.Maps.RangeWalk
import Derived.Lib.SliceRun
import Derived.Deep.Upon
import Derived.Shelf.Small.Bits
import Derived.Shelf.Small.Wraps
import Derived.Shelf.Strconv.Itoa0
import Derived.Shelf.Sort.Plain
import Derived.Shelf.Slices.Turned
import Derived.Shelf.Slices.Reverse
import Derived.Ground.Names2Prog
import Derived.Shelf.Slices.CompactI
import Derived.Shelf.Slices.Cells
import Derived.Shelf.Slices.In.SortNone
import Derived.Test.YtobnolgphljoeaaProg
import Derived.Sort.OwnSortedInts
import Derived.Lib.RowBridge
import Derived.Deep.RegionLaw
set_option linter.unusedVariables false
set_option maxRecDepth 100000
set_option maxHeartbeats 16000000
namespace Go.Proofs.Ytobnolgphljoeaa
open Go.RowKit _root_.Go.Proofs.Try
def Za4(q:List Rq)(id i:Int):Prop:=(i = -1∧fnd q id=none)∨∃k:Nat,i=k∧∃h:k<q.length,fnd q id=some q[k]
def Z9j(q:List Rq)(i:Int):Prop:=(i = -1∧∀a∈q,a.md≠0)∨∃k:Nat,i=k∧∃h:k<q.length,q[k].md=0∧∀a∈q.take k,a.md≠0
theorem V1{α:Type}{l:List α}{k:Nat}(hk:k<l.length){x:α}(hx:x∈l.take (k+1)):x∈l.take k∨x=l[k]:=by
 rw[List.take_add_one,List.getElem?_eq_getElem hk] at hx
 rcases List.mem_append.1 hx with h | h
 ·exact .inl h
 ·simp at h;exact .inr h
theorem Z4m(t r W:Int)(v:Value)(q:List Rq)(w:World)(hl:q.length≤1000)(h:Yg w v q) :
  Calls prog 35 #[Vi t r v W] w fun e w'=>∃i,e=.returned (.int .i64 i)∧Nw w w'∧Z9j q i:=by
 unfold Vi
 obtain⟨a,c,rfl,⟨rfl,_⟩ | ⟨b,o,rfl,hc⟩⟩:=h
 ·go_enter func35,ntmps35
  go_wp2
  refine wp_loop_rounds 1 ?_
  repeat (rw[rounds_succ];go_wp2)
  go_ret
  exact⟨-1,rfl,(Nw.refl _).alloc _,.inl ⟨rfl,by simp⟩⟩
 ·have HC:=hD0 hc
  clear hc
  go_enter func35,ntmps35
  go_wp2
  have hB:=Um.made w t r (.slice (some ⟨b,o,none⟩) q.length c) W 40
  have hN:Nw w (w.alloc (.cells #[.int .i64 t,.int .i64 r,.slice (some ⟨b,o,none⟩) q.length c,.int .i64 W] 40)):=(Nw.refl w).alloc _
  obtain⟨p,hp⟩:∃p,w.heap.size=p:=⟨_,rfl⟩
  rw[hp] at hB
  rw[hp]
  clear hp
  generalize w.alloc (.cells #[.int .i64 t,.int .i64 r,.slice (some ⟨b,o,none⟩) q.length c,.int .i64 W] 40)=z at *
  have HZ:=hD0 (aI0 hB hN)
  have HR:=hD0 (HC.out.nw hN)
  clear hB hN HC
  go_loopw [3] (fun i wr=>∃k:Nat,k≤q.length∧i=.int .i64 k∧(∀a∈q.take k,a.md≠0)∧Nw z wr) (fun i _=>q.length-(intOf i).toNat)
  case atStart=>exact⟨0,Nat.zero_le _,rfl,by simp,Nw.refl _⟩
  case round =>
   obtain⟨k,hk,rfl,hf,hG⟩:=hrel
   have hb:=HZ.out.1.nw hG
   have h0:=hb.c0
   have h1:=hb.c1
   have h2:=hb.c2
   have h3:=hb.c3
   clear hb
   by_cases hlt:k<q.length
   ·have hce:=(HR.out.nw hG).cell k hlt
    have HA2:=hD0 (show q[k].md=0→Z9j q (k:Int) from fun e=>.inr ⟨k,rfl,hlt,e,hf⟩)
    have HS:=hD0 (show q[k].md≠0→∀a∈q.take (k+1),a.md≠0 from fun e a ha=>by
     rcases V1 hlt ha with h | rfl
     ·exact hf a h
     ·exact e)
    generalize q[k]=R at *
    obtain⟨b0,b1,b2,b3,b4⟩:=R
    have e0:=hce 0 _ rfl
    have e1:=hce 1 _ rfl
    have e2:=hce 2 _ rfl
    have e3:=hce 3 _ rfl
    have e4:=hce 4 _ rfl
    simp only[Nat.add_zero] at e0
    have HG:=hD0 hG
    clear hce hf hG
    go_wp2_with fail
    refine(Za _ _ _ _ _ _).mono ?_
    rintro e w2 ⟨rfl,g2⟩
    have HG3:=hD0 (HG.out.trans g2)
    have n0:=g2.kp h0
    have n1:=g2.kp h1
    have n2:=g2.kp h2
    have n3:=g2.kp h3
    clear h0 h1 h2 h3 e0 e1 e2 e3 e4 g2 HG
    by_cases he:b2=0
    ·have d:(b2 != 0)=false:=by simpa using he
     have HR2:=hD0 (HA2.out he)
     clear he HA2 HS
     go_wp2
     go_ret
     exact⟨_,rfl,HZ.out.2.trans HG3.out,HR2.out⟩
    ·have d:(b2 != 0)=true:=by simpa using he
     have HS2:=hD0 (HS.out he)
     clear he HS HA2
     go_wp2
     go_roundw
     case rel=>exact⟨k+1,by omega,by go_num,HS2.out,HG3.out⟩
     case measure=>simp[intOf];omega
   ·obtain rfl:k=q.length:=by omega
    rw[List.take_length] at hf
    have HF:=hD0 hf
    have HG:=hD0 hG
    clear hf hG
    go_wp2
    go_ret
    exact⟨-1,rfl,HZ.out.2.trans HG.out,.inl ⟨rfl,HF.out⟩⟩
def Z0h(q:List Rq)(m but:Int):Prop:=∀k (h:k<q.length),(k:Int)≠but→q[k].md≠0→Ys q[k].md m=true
theorem Z97(t r W m but:Int)(v:Value)(q:List Rq)(w:World)(hl:q.length≤1000)(h:Yg w v q) :
  Calls prog 36 #[Vi t r v W,.int .i64 m,.int .i64 but] w fun e w'=>∃f,e=.returned (.bool f)∧Nw w w'∧(f=true↔Z0h q m but):=by
 unfold Vi
 obtain⟨a,c,rfl,⟨rfl,_⟩ | ⟨b,o,rfl,hc⟩⟩:=h
 ·go_enter func36,ntmps36
  go_wp2
  refine wp_loop_rounds 1 ?_
  repeat (rw[rounds_succ];go_wp2)
  go_ret
  exact⟨true,rfl,(Nw.refl _).alloc _,by simp[Z0h]⟩
 ·have HC:=hD0 hc
  clear hc
  go_enter func36,ntmps36
  go_wp2
  have hB:=Um.made w t r (.slice (some ⟨b,o,none⟩) q.length c) W 40
  have hN:Nw w (w.alloc (.cells #[.int .i64 t,.int .i64 r,.slice (some ⟨b,o,none⟩) q.length c,.int .i64 W] 40)):=(Nw.refl w).alloc _
  obtain⟨p,hp⟩:∃p,w.heap.size=p:=⟨_,rfl⟩
  rw[hp] at hB
  rw[hp]
  clear hp
  generalize w.alloc (.cells #[.int .i64 t,.int .i64 r,.slice (some ⟨b,o,none⟩) q.length c,.int .i64 W] 40)=z at *
  have HZ:=hD0 (aI0 hB hN)
  have HR:=hD0 (HC.out.nw hN)
  clear hB hN HC
  go_loopw [7] (fun i wr=>∃k:Nat,k≤q.length∧i=.int .i64 k∧(∀j (h:j<q.length),j<k→(j:Int)≠but→q[j].md≠0→Ys q[j].md m=true)∧Nw z wr) (fun i _=>q.length-(intOf i).toNat)
  case atStart=>exact⟨0,Nat.zero_le _,rfl,fun j _ h=>absurd h (Nat.not_lt_zero _),Nw.refl _⟩
  case round =>
   obtain⟨k,hk,rfl,hf,hG⟩:=hrel
   have hb:=HZ.out.1.nw hG
   have h0:=hb.c0
   have h1:=hb.c1
   have h2:=hb.c2
   have h3:=hb.c3
   clear hb
   by_cases hlt:k<q.length
   ·have hRw:=HR.out.nw hG
    have hce:=hRw.cell k hlt
    have HA2:=hD0 (show(k:Int)≠but→q[k].md≠0→Ys q[k].md m=false→¬Z0h q m but from fun e1 e2 e3 h=>by
     have:=h k hlt e1 e2
     rw[e3] at this;cases this)
    have HS:=hD0 (show((k:Int)≠but→q[k].md≠0→Ys q[k].md m=true)→∀j (h:j<q.length),j<k+1→(j:Int)≠but→q[j].md≠0→Ys q[j].md m=true from fun e j hj hjk=>by
     rcases Nat.lt_or_ge j k with g | g
     ·exact hf j hj g
     ·obtain rfl:j=k:=by omega
      exact e)
    have hCP:=fun w=>Z66 q[k].md m w
    generalize q[k]=R at *
    obtain⟨b0,b1,b2,b3,b4⟩:=R
    have e0:=hce 0 _ rfl
    have e1:=hce 1 _ rfl
    have e2:=hce 2 _ rfl
    have e3:=hce 3 _ rfl
    have e4:=hce 4 _ rfl
    simp only[Nat.add_zero] at e0
    have HG:=hD0 hG
    simp only at hCP
    obtain⟨x,hx⟩:∃x,Ys b2 m=x:=⟨_,rfl⟩
    simp only at HA2 HS
    have CP:=hD0 hCP
    clear hce hf hG hCP hRw
    by_cases hbu:(k:Int)=but
    ·have d:((k:Int) != but)=false:=by simpa using hbu
     have HS2:=hD0 (HS.out (fun e=>absurd hbu e))
     clear hbu HS HA2 CP hx
     go_wp2
     go_roundw
     case rel=>exact⟨k+1,by omega,by go_num,HS2.out,HG.out⟩
     case measure=>simp[intOf];omega
    ·have d:((k:Int) != but)=true:=by simpa using hbu
     by_cases he:b2=0
     ·have d2:(b2 != 0)=false:=by simpa using he
      have HS2:=hD0 (HS.out (fun _ e=>absurd he e))
      clear hbu he HS HA2 CP hx
      go_wp2_with fail
      refine(Za _ _ _ _ _ _).mono ?_
      rintro e w2 ⟨rfl,g2⟩
      have HG3:=hD0 (HG.out.trans g2)
      have n0:=g2.kp h0
      have n1:=g2.kp h1
      have n2:=g2.kp h2
      have n3:=g2.kp h3
      clear h0 h1 h2 h3 e0 e1 e2 e3 e4 g2 HG
      go_wp2
      go_roundw
      case rel=>exact⟨k+1,by omega,by go_num,HS2.out,HG3.out⟩
      case measure=>simp[intOf];omega
     ·have d2:(b2 != 0)=true:=by simpa using he
      have HA3:=hD0 (HA2.out hbu he)
      have HS3:=hD0 (show Ys b2 m=true→_ from fun c=>HS.out (fun _ _=>c))
      clear hbu he HS HA2
      go_wp2_with fail
      refine(Za _ _ _ _ _ _).mono ?_
      rintro e w2 ⟨rfl,g2⟩
      replace h0:=g2.kp h0
      replace h1:=g2.kp h1
      replace h2:=g2.kp h2
      replace h3:=g2.kp h3
      replace e0:=g2.kp e0
      replace e1:=g2.kp e1
      replace e2:=g2.kp e2
      replace e3:=g2.kp e3
      replace e4:=g2.kp e4
      have HG3:=hD0 (HG.out.trans g2)
      clear g2 HG
      go_wp2_with fail
      refine(CP.out _).mono ?_
      rintro e w3 ⟨rfl,g3⟩
      have HG4:=hD0 (HG3.out.trans g3)
      have n0:=g3.kp h0
      have n1:=g3.kp h1
      have n2:=g3.kp h2
      have n3:=g3.kp h3
      clear h0 h1 h2 h3 e0 e1 e2 e3 e4 g3 HG3 CP
      cases x
      ·have HA4:=hD0 (HA3.out hx)
       clear HA3 HS3
       go_wp2
       go_ret
       exact⟨false,rfl,HZ.out.2.trans HG4.out,by simpa using HA4.out⟩
      ·have HS4:=hD0 (HS3.out hx)
       clear HA3 HS3
       go_wp2
       go_roundw
       case rel=>exact⟨k+1,by omega,by go_num,HS4.out,HG4.out⟩
       case measure=>simp[intOf];omega
   ·obtain rfl:k=q.length:=by omega
    have HF:=hD0 (show Z0h q m but from fun k hk=>hf k hk hk)
    have HG:=hD0 hG
    clear hf hG
    go_wp2
    go_ret
    exact⟨true,rfl,HZ.out.2.trans HG.out,by simpa using HF.out⟩
def UpT(q:List Rq)(k:Nat)(i:Int):Prop:=(i = -1∧∀a∈q.take k,¬U5 a)∨∃m:Nat,i=m∧m<k∧∃h:m<q.length,U5 q[m]∧∀a∈q.take k,U5 a→q[m].sn≤a.sn
theorem UpT.no{q:List Rq}{k:Nat}{i:Int}(h:UpT q k i)(hk:k<q.length)(hn:¬U5 q[k]):UpT q (k+1) i:=by
 rcases h with⟨rfl,h⟩ | ⟨m,rfl,hm,hml,hu,h⟩
 ·refine .inl ⟨rfl,fun a ha=>?_⟩
  rcases V1 hk ha with q1 | rfl
  ·exact h a q1
  ·exact hn
 ·refine .inr ⟨m,rfl,by omega,hml,hu,fun a ha=>?_⟩
  rcases V1 hk ha with q1 | rfl
  ·exact h a q1
  ·exact fun e=>absurd e hn
theorem UpT.yes{q:List Rq}{k:Nat}{i:Int}(h:UpT q k i)(hk:k<q.length)(hu:U5 q[k])(hl:∀m:Nat,i=m→∀h:m<q.length,q[k].sn≤q[m].sn):UpT q (k+1) k:=by
 refine .inr ⟨k,rfl,by omega,hk,hu,fun a ha hau=>?_⟩
 rcases V1 hk ha with q1 | rfl
 ·rcases h with⟨_,h⟩ | ⟨m,e,hm,hml,_,h⟩
  ·exact absurd hau (h a q1)
  ·exact Int.le_trans (hl m e hml) (h a q1 hau)
 ·exact Int.le_refl _
theorem UpT.keep{q:List Rq}{k m:Nat}(h:UpT q k m)(hk:k<q.length)(hml:m<q.length)(hl:q[m].sn≤q[k].sn):UpT q (k+1) m:=by
 rcases h with⟨e,h⟩ | ⟨m',e,hm,hml',hu,h⟩
 ·omega
 ·obtain rfl:m=m':=by omega
  refine .inr ⟨m,rfl,by omega,hml,hu,fun a ha hau=>?_⟩
  rcases V1 hk ha with q1 | rfl
  ·exact h a q1 hau
  ·exact hl
def Hs(S:World→Prop)(x:World):Prop:=S x
theorem Z2d(t r W:Int)(v:Value)(q:List Rq)(w:World)(hl:q.length≤1000)(h:Yg w v q) :
  Calls prog 34 #[Vi t r v W] w fun e w'=>∃i,e=.returned (.int .i64 i)∧Nw w w'∧UpT q q.length i:=by
 unfold Vi
 obtain⟨a,c,rfl,⟨rfl,_⟩ | ⟨b,o,rfl,hc⟩⟩:=h
 ·go_enter func34,ntmps34
  go_wp2
  refine wp_loop_rounds 1 ?_
  repeat (rw[rounds_succ];go_wp2)
  go_ret
  exact⟨-1,rfl,(Nw.refl _).alloc _,.inl ⟨rfl,by simp⟩⟩
 ·have HC:=hD0 hc
  clear hc
  go_enter func34,ntmps34
  go_wp2
  have hB:=Um.made w t r (.slice (some ⟨b,o,none⟩) q.length c) W 40
  have hN:Nw w (w.alloc (.cells #[.int .i64 t,.int .i64 r,.slice (some ⟨b,o,none⟩) q.length c,.int .i64 W] 40)):=(Nw.refl w).alloc _
  obtain⟨p,hp⟩:∃p,w.heap.size=p:=⟨_,rfl⟩
  rw[hp] at hB
  rw[hp]
  clear hp
  generalize w.alloc (.cells #[.int .i64 t,.int .i64 r,.slice (some ⟨b,o,none⟩) q.length c,.int .i64 W] 40)=z at *
  have HZ:=hD0 (aI0 hB hN)
  have HR:=hD0 (HC.out.nw hN)
  clear hB hN HC
  go_loopw [3,4] (fun u i wr=>∃(k:Nat) (j:Int),k≤q.length∧i=.int .i64 k∧u=.int .i64 j∧UpT q k j∧Nw z wr) (fun _ i _=>q.length-(intOf i).toNat)
  case atStart=>exact⟨0,-1,Nat.zero_le _,rfl,rfl,.inl ⟨rfl,by simp⟩,Nw.refl _⟩
  case round =>
   obtain⟨k,j,hk,rfl,rfl,hf,hG⟩:=hrel
   have hb:=HZ.out.1.nw hG
   have h0:=hb.c0
   have h1:=hb.c1
   have h2:=hb.c2
   have h3:=hb.c3
   have hpl:=hb.lt
   clear hb
   by_cases hlt:k<q.length
   ·have hRw:=HR.out.nw hG
    have hce:=hRw.cell k hlt
    have HNo:=hD0 (fun e=>hf.no hlt e)
    have HYes:=hD0 (fun e1 e2=>hf.yes hlt e1 e2)
    have HKeep:=hD0 (show ∀m:Nat,j=m→∀h:m<q.length,q[m].sn≤q[k].sn→UpT q (k+1) j from fun m e h l=>by subst e;exact UpT.keep hf hlt h l)
    have HF:=hD0 hf
    generalize q[k]=R at *
    obtain⟨b0,b1,b2,b3,b4⟩:=R
    have e0:=hce 0 _ rfl
    have e1:=hce 1 _ rfl
    have e2:=hce 2 _ rfl
    have e3:=hce 3 _ rfl
    have e4:=hce 4 _ rfl
    simp only[Nat.add_zero] at e0
    have HG:=hD0 hG
    have HRw:=hD0 hRw
    have hbl:=hRw.lt
    clear hce hf hG hRw
    go_wp2_with fail
    have hal:=Z5 wr (.cells #[.int .i64 b0,.int .i64 b1,.int .i64 b2,.int .i64 b3,.int .i64 b4] 47)
    have hNa:Nw wr (wr.alloc (.cells #[.int .i64 b0,.int .i64 b1,.int .i64 b2,.int .i64 b3,.int .i64 b4] 47)):=(Nw.refl wr).alloc _
    obtain⟨pb,hpb⟩:∃pb,wr.heap.size=pb:=⟨_,rfl⟩
    rw[hpb] at hal
    rw[hpb]
    generalize wr.alloc (.cells #[.int .i64 b0,.int .i64 b1,.int .i64 b2,.int .i64 b3,.int .i64 b4] 47)=y at *
    have HGy:=hD0 (HG.out.trans hNa)
    have HRy:=hD0 (HRw.out.nw hNa)
    replace h0:=hNa.kp h0
    replace h1:=hNa.kp h1
    replace h2:=hNa.kp h2
    replace h3:=hNa.kp h3
    clear e0 e1 e2 e3 e4 hNa hpb HG HRw hbl hpl
    clear wr
    obtain⟨S,hSe⟩:∃S,S=Nw y:=⟨_,rfl⟩
    have hS0:Hs S y.drew:=by subst hSe;exact(Nw.refl _).dr
    have f0:∀x,Hs S x→x.cell? ⟨pb,0,none⟩=some (.int .i64 b0):=fun x h=>by subst hSe;exact Nw.kp h (Z2 hal)
    have f1:∀x,Hs S x→x.cell? ⟨pb,1,none⟩=some (.int .i64 b1):=fun x h=>by subst hSe;exact Nw.kp h (Z2 hal)
    have f2:∀x,Hs S x→x.cell? ⟨pb,2,none⟩=some (.int .i64 b2):=fun x h=>by subst hSe;exact Nw.kp h (Z2 hal)
    have f3:∀x,Hs S x→x.cell? ⟨pb,3,none⟩=some (.int .i64 b3):=fun x h=>by subst hSe;exact Nw.kp h (Z2 hal)
    have f4:∀x,Hs S x→x.cell? ⟨pb,4,none⟩=some (.int .i64 b4):=fun x h=>by subst hSe;exact Nw.kp h (Z2 hal)
    have p0:∀x,Hs S x→x.cell? ⟨p,0,none⟩=some (.int .i64 t):=fun x h=>by subst hSe;exact Nw.kp h h0
    have p1:∀x,Hs S x→x.cell? ⟨p,1,none⟩=some (.int .i64 r):=fun x h=>by subst hSe;exact Nw.kp h h1
    have p2:∀x,Hs S x→x.cell? ⟨p,2,none⟩=some (.slice (some ⟨b,o,none⟩) q.length c):=fun x h=>by subst hSe;exact Nw.kp h h2
    have p3:∀x,Hs S x→x.cell? ⟨p,3,none⟩=some (.int .i64 W):=fun x h=>by subst hSe;exact Nw.kp h h3
    have HN:=hD0 (show ∀a b,Hs S a→Nw a b→Hs S b from fun a b h g=>by subst hSe;exact Nw.trans h g)
    have HV:=hD0 (show ∀a,Hs S a→Nw y a from fun a h=>by subst hSe;exact h)
    have HQ:=hD0 (show ∀m:Nat,∀hm:m<q.length,∀x,Hs S x→x.cell? ⟨b,o+m*5+4,none⟩=some (.int .i64 q[m].sn) from fun m hm x h=>by subst hSe;exact(HRy.out.nw h).cell m hm 4 _ rfl)
    clear hSe h0 h1 h2 h3 hal HRy
    by_cases hmd:b2=0
    ·have d1:(b2 != 0)=false:=by simpa using hmd
     have HU:=hD0 (HNo.out (fun e=>e.1 hmd))
     have HH:=hD0 (fun w=>Za b0 b1 b2 b3 b4 w)
     rw[d1] at HH
     clear HNo HYes HKeep hmd HQ HF
     refine Ze (.take (.off (.go1 (.take (.take (.off (.go1 (.take (.take (.take (.take (.take (.take (.take (.take (.take (.take (.take (.take (.take (.take (.take (.take .fin))))))))))))))))))))))) (Hs S) (by kernel_rfl) (by kernel_rfl) (by kernel_rfl) hS0 ?_
     iterate 1 (refine HP.take' ?_;(first | (refine⟨undef,Or.inr ⟨by rfl,rfl⟩,?_⟩) | (apply Exists.intro;refine⟨Or.inl ⟨by rfl,?_⟩,?_⟩;(intro x hx';go_simp;first | done | with_reducible rfl)));(try simp only[Act.put,List.setIfInBounds_toArray,List.set_cons_zero,List.set_cons_succ]))
     refine HP.off ?_
     refine HP.go1 (fun KK hKK=>?_)
     go_simp
     refine(HH.out _).mono ?_
     rintro e y1 ⟨rfl,g⟩
     have hS1:=HN.out _ _ hS0 g
     refine hKK.out _ _ hS1 ?_
     intro _
     clear hKK KK g
     (try simp only[Act.put,List.setIfInBounds_toArray,List.set_cons_zero,List.set_cons_succ])
     iterate 2 (refine HP.take' ?_;(first | (refine⟨undef,Or.inr ⟨by rfl,rfl⟩,?_⟩) | (apply Exists.intro;refine⟨Or.inl ⟨by rfl,?_⟩,?_⟩;(intro x hx';go_simp;first | done | with_reducible rfl)));(try simp only[Act.put,List.setIfInBounds_toArray,List.set_cons_zero,List.set_cons_succ]))
     refine HP.off ?_
     refine HP.go1 (fun KK hKK=>?_)
     go_simp
     have hS2:=hS1
     refine hKK.out _ _ hS2 ?_
     intro _
     clear hKK KK
     (try simp only[Act.put,List.setIfInBounds_toArray,List.set_cons_zero,List.set_cons_succ])
     iterate 16 (refine HP.take' ?_;(first | (refine⟨undef,Or.inr ⟨by rfl,rfl⟩,?_⟩) | (apply Exists.intro;refine⟨Or.inl ⟨by rfl,?_⟩,?_⟩;(intro x hx';go_simp;first | done | with_reducible rfl)));(try simp only[Act.put,List.setIfInBounds_toArray,List.set_cons_zero,List.set_cons_succ]))
     refine HP.end_ ?_
     refine NoPanic.normal ?_
     have hZ:=HGy.out.trans (HV.out _ hS2)
     clear hS0 hS1 hS2 f0 f1 f2 f3 f4 p0 p1 p2 p3 HN HV
     go_wp2
     go_roundw
     case rel=>exact⟨k+1,_,by omega,by go_num,rfl,HU.out,hZ⟩
     case measure=>simp[intOf];omega
    ·have d1:(b2 != 0)=true:=by simpa using hmd
     have HH:=hD0 (fun w=>Za b0 b1 b2 b3 b4 w)
     rw[d1] at HH
     have HWt:=hD0 (fun w=>Zc b0 b1 b2 b3 b4 w)
     by_cases hsn:0<b4
     ·have d2:decide (0<b4)=true:=by simpa using hsn
      rw[d2] at HWt
      have hY:=HYes.out ⟨hmd,hsn⟩
      rcases HF.out with⟨hj,_⟩ | ⟨m,hj,_,hm,_,_⟩
      ·subst hj
       have HU:=hD0 (hY (fun m e=>by omega))
       clear HNo HYes HKeep hmd hsn HQ HF hY
       refine Ze (.take (.off (.go1 (.take (.take (.off (.go1 (.take (.take (.take (.take (.take (.take (.take (.take (.take (.take (.take (.take (.take (.take (.take (.take .fin))))))))))))))))))))))) (Hs S) (by kernel_rfl) (by kernel_rfl) (by kernel_rfl) hS0 ?_
       iterate 1 (refine HP.take' ?_;(first | (refine⟨undef,Or.inr ⟨by rfl,rfl⟩,?_⟩) | (apply Exists.intro;refine⟨Or.inl ⟨by rfl,?_⟩,?_⟩;(intro x hx';go_simp;first | done | with_reducible rfl)));(try simp only[Act.put,List.setIfInBounds_toArray,List.set_cons_zero,List.set_cons_succ]))
       refine HP.off ?_
       refine HP.go1 (fun KK hKK=>?_)
       go_simp
       refine(HH.out _).mono ?_
       rintro e y1 ⟨rfl,g⟩
       have hS1:=HN.out _ _ hS0 g
       refine hKK.out _ _ hS1 ?_
       intro _
       clear hKK KK g
       (try simp only[Act.put,List.setIfInBounds_toArray,List.set_cons_zero,List.set_cons_succ])
       iterate 2 (refine HP.take' ?_;(first | (refine⟨undef,Or.inr ⟨by rfl,rfl⟩,?_⟩) | (apply Exists.intro;refine⟨Or.inl ⟨by rfl,?_⟩,?_⟩;(intro x hx';go_simp;first | done | with_reducible rfl)));(try simp only[Act.put,List.setIfInBounds_toArray,List.set_cons_zero,List.set_cons_succ]))
       refine HP.off ?_
       refine HP.go1 (fun KK hKK=>?_)
       go_simp
       refine(HWt.out _).mono ?_
       rintro e y2 ⟨rfl,g⟩
       have hS2:=HN.out _ _ hS1 g
       refine hKK.out _ _ hS2 ?_
       intro _
       clear hKK KK g
       (try simp only[Act.put,List.setIfInBounds_toArray,List.set_cons_zero,List.set_cons_succ])
       iterate 16 (refine HP.take' ?_;(first | (refine⟨undef,Or.inr ⟨by rfl,rfl⟩,?_⟩) | (apply Exists.intro;refine⟨Or.inl ⟨by rfl,?_⟩,?_⟩;(intro x hx';go_simp;first | done | with_reducible rfl)));(try simp only[Act.put,List.setIfInBounds_toArray,List.set_cons_zero,List.set_cons_succ]))
       refine HP.end_ ?_
       refine NoPanic.normal ?_
       have hZ:=HGy.out.trans (HV.out _ hS2)
       clear hS0 hS1 hS2 f0 f1 f2 f3 f4 p0 p1 p2 p3 HN HV
       go_wp2
       go_roundw
       case rel=>exact⟨k+1,_,by omega,by go_num,rfl,HU.out,hZ⟩
       case measure=>simp[intOf];omega
      ·have d3:decide ((m:Int)<0)=false:=by simp
       have c4:=HQ.out m hm
       have hK:=HKeep.out m hj hm
       have hY2:b4≤q[m].sn→UpT q (k+1) k:=fun h=>hY (fun m' e h'=>by
        obtain rfl:m=m':=by omega
        exact h)
       subst hj
       generalize q[m].sn=s at *
       have hmi:(m:Int)<(q.length:Int):=by omega
       by_cases hs:b4<s
       ·have d4:decide (b4<s)=true:=by simpa using hs
        have HU:=hD0 (hY2 (Int.le_of_lt hs))
        clear HNo HYes HKeep hmd hsn HQ HF hY hK hY2 hs
        refine Ze (.take (.off (.go1 (.take (.take (.off (.go1 (.take (.take (.take (.take (.take (.take (.take (.take (.take (.take (.take (.take (.take (.take (.take (.take .fin))))))))))))))))))))))) (Hs S) (by kernel_rfl) (by kernel_rfl) (by kernel_rfl) hS0 ?_
        iterate 1 (refine HP.take' ?_;(first | (refine⟨undef,Or.inr ⟨by rfl,rfl⟩,?_⟩) | (apply Exists.intro;refine⟨Or.inl ⟨by rfl,?_⟩,?_⟩;(intro x hx';go_simp;first | done | with_reducible rfl)));(try simp only[Act.put,List.setIfInBounds_toArray,List.set_cons_zero,List.set_cons_succ]))
        refine HP.off ?_
        refine HP.go1 (fun KK hKK=>?_)
        go_simp
        refine(HH.out _).mono ?_
        rintro e y1 ⟨rfl,g⟩
        have hS1:=HN.out _ _ hS0 g
        refine hKK.out _ _ hS1 ?_
        intro _
        clear hKK KK g
        (try simp only[Act.put,List.setIfInBounds_toArray,List.set_cons_zero,List.set_cons_succ])
        iterate 2 (refine HP.take' ?_;(first | (refine⟨undef,Or.inr ⟨by rfl,rfl⟩,?_⟩) | (apply Exists.intro;refine⟨Or.inl ⟨by rfl,?_⟩,?_⟩;(intro x hx';go_simp;first | done | with_reducible rfl)));(try simp only[Act.put,List.setIfInBounds_toArray,List.set_cons_zero,List.set_cons_succ]))
        refine HP.off ?_
        refine HP.go1 (fun KK hKK=>?_)
        go_simp
        refine(HWt.out _).mono ?_
        rintro e y2 ⟨rfl,g⟩
        have hS2:=HN.out _ _ hS1 g
        refine hKK.out _ _ hS2 ?_
        intro _
        clear hKK KK g
        (try simp only[Act.put,List.setIfInBounds_toArray,List.set_cons_zero,List.set_cons_succ])
        iterate 16 (refine HP.take' ?_;(first | (refine⟨undef,Or.inr ⟨by rfl,rfl⟩,?_⟩) | (apply Exists.intro;refine⟨Or.inl ⟨by rfl,?_⟩,?_⟩;(intro x hx';go_simp;first | done | with_reducible rfl)));(try simp only[Act.put,List.setIfInBounds_toArray,List.set_cons_zero,List.set_cons_succ]))
        refine HP.end_ ?_
        refine NoPanic.normal ?_
        have hZ:=HGy.out.trans (HV.out _ hS2)
        clear hS0 hS1 hS2 f0 f1 f2 f3 f4 p0 p1 p2 p3 HN HV c4
        go_wp2
        go_roundw
        case rel=>exact⟨k+1,_,by omega,by go_num,rfl,HU.out,hZ⟩
        case measure=>simp[intOf];omega
       ·have d4:decide (b4<s)=false:=by simpa using hs
        have HU:=hD0 (hK (Int.not_lt.1 hs))
        clear HNo HYes HKeep hmd hsn HQ HF hY hK hY2 hs
        refine Ze (.take (.off (.go1 (.take (.take (.off (.go1 (.take (.take (.take (.take (.take (.take (.take (.take (.take (.take (.take (.take (.take (.take (.take (.take .fin))))))))))))))))))))))) (Hs S) (by kernel_rfl) (by kernel_rfl) (by kernel_rfl) hS0 ?_
        iterate 1 (refine HP.take' ?_;(first | (refine⟨undef,Or.inr ⟨by rfl,rfl⟩,?_⟩) | (apply Exists.intro;refine⟨Or.inl ⟨by rfl,?_⟩,?_⟩;(intro x hx';go_simp;first | done | with_reducible rfl)));(try simp only[Act.put,List.setIfInBounds_toArray,List.set_cons_zero,List.set_cons_succ]))
        refine HP.off ?_
        refine HP.go1 (fun KK hKK=>?_)
        go_simp
        refine(HH.out _).mono ?_
        rintro e y1 ⟨rfl,g⟩
        have hS1:=HN.out _ _ hS0 g
        refine hKK.out _ _ hS1 ?_
        intro _
        clear hKK KK g
        (try simp only[Act.put,List.setIfInBounds_toArray,List.set_cons_zero,List.set_cons_succ])
        iterate 2 (refine HP.take' ?_;(first | (refine⟨undef,Or.inr ⟨by rfl,rfl⟩,?_⟩) | (apply Exists.intro;refine⟨Or.inl ⟨by rfl,?_⟩,?_⟩;(intro x hx';go_simp;first | done | with_reducible rfl)));(try simp only[Act.put,List.setIfInBounds_toArray,List.set_cons_zero,List.set_cons_succ]))
        refine HP.off ?_
        refine HP.go1 (fun KK hKK=>?_)
        go_simp
        refine(HWt.out _).mono ?_
        rintro e y2 ⟨rfl,g⟩
        have hS2:=HN.out _ _ hS1 g
        refine hKK.out _ _ hS2 ?_
        intro _
        clear hKK KK g
        (try simp only[Act.put,List.setIfInBounds_toArray,List.set_cons_zero,List.set_cons_succ])
        iterate 16 (refine HP.take' ?_;(first | (refine⟨undef,Or.inr ⟨by rfl,rfl⟩,?_⟩) | (apply Exists.intro;refine⟨Or.inl ⟨by rfl,?_⟩,?_⟩;(intro x hx';go_simp;first | done | with_reducible rfl)));(try simp only[Act.put,List.setIfInBounds_toArray,List.set_cons_zero,List.set_cons_succ]))
        refine HP.end_ ?_
        refine NoPanic.normal ?_
        have hZ:=HGy.out.trans (HV.out _ hS2)
        clear hS0 hS1 hS2 f0 f1 f2 f3 f4 p0 p1 p2 p3 HN HV c4
        go_wp2
        go_roundw
        case rel=>exact⟨k+1,_,by omega,by go_num,rfl,HU.out,hZ⟩
        case measure=>simp[intOf];omega
     ·have d2:decide (0<b4)=false:=by simpa using hsn
      rw[d2] at HWt
      have HU:=hD0 (HNo.out (fun e=>hsn e.2))
      clear HNo HYes HKeep hmd hsn HQ HF
      refine Ze (.take (.off (.go1 (.take (.take (.off (.go1 (.take (.take (.take (.take (.take (.take (.take (.take (.take (.take (.take (.take (.take (.take (.take (.take .fin))))))))))))))))))))))) (Hs S) (by kernel_rfl) (by kernel_rfl) (by kernel_rfl) hS0 ?_
      iterate 1 (refine HP.take' ?_;(first | (refine⟨undef,Or.inr ⟨by rfl,rfl⟩,?_⟩) | (apply Exists.intro;refine⟨Or.inl ⟨by rfl,?_⟩,?_⟩;(intro x hx';go_simp;first | done | with_reducible rfl)));(try simp only[Act.put,List.setIfInBounds_toArray,List.set_cons_zero,List.set_cons_succ]))
      refine HP.off ?_
      refine HP.go1 (fun KK hKK=>?_)
      go_simp
      refine(HH.out _).mono ?_
      rintro e y1 ⟨rfl,g⟩
      have hS1:=HN.out _ _ hS0 g
      refine hKK.out _ _ hS1 ?_
      intro _
      clear hKK KK g
      (try simp only[Act.put,List.setIfInBounds_toArray,List.set_cons_zero,List.set_cons_succ])
      iterate 2 (refine HP.take' ?_;(first | (refine⟨undef,Or.inr ⟨by rfl,rfl⟩,?_⟩) | (apply Exists.intro;refine⟨Or.inl ⟨by rfl,?_⟩,?_⟩;(intro x hx';go_simp;first | done | with_reducible rfl)));(try simp only[Act.put,List.setIfInBounds_toArray,List.set_cons_zero,List.set_cons_succ]))
      refine HP.off ?_
      refine HP.go1 (fun KK hKK=>?_)
      go_simp
      refine(HWt.out _).mono ?_
      rintro e y2 ⟨rfl,g⟩
      have hS2:=HN.out _ _ hS1 g
      refine hKK.out _ _ hS2 ?_
      intro _
      clear hKK KK g
      (try simp only[Act.put,List.setIfInBounds_toArray,List.set_cons_zero,List.set_cons_succ])
      iterate 16 (refine HP.take' ?_;(first | (refine⟨undef,Or.inr ⟨by rfl,rfl⟩,?_⟩) | (apply Exists.intro;refine⟨Or.inl ⟨by rfl,?_⟩,?_⟩;(intro x hx';go_simp;first | done | with_reducible rfl)));(try simp only[Act.put,List.setIfInBounds_toArray,List.set_cons_zero,List.set_cons_succ]))
      refine HP.end_ ?_
      refine NoPanic.normal ?_
      have hZ:=HGy.out.trans (HV.out _ hS2)
      clear hS0 hS1 hS2 f0 f1 f2 f3 f4 p0 p1 p2 p3 HN HV
      go_wp2
      go_roundw
      case rel=>exact⟨k+1,_,by omega,by go_num,rfl,HU.out,hZ⟩
      case measure=>simp[intOf];omega
   ·obtain rfl:k=q.length:=by omega
    have HG:=hD0 hG
    have HF:=hD0 hf
    clear hf hG
    go_wp2
    go_ret
    exact⟨j,rfl,HZ.out.2.trans HG.out,HF.out⟩
theorem Z68(t r W:Int)(v:Value)(q:List Rq)(w:World)(hl:q.length≤1000)(h:Yg w v q) :
  Calls prog 33 #[Vi t r v W] w fun e w'=>∃v',e=.returned (Vi t r v' W)∧Nw w w'∧Zi w' w.heap.size v' q:=by
 unfold Vi
 have hN2:Nw w ((w.alloc (.cells #[.int .i64 t,.int .i64 r,v,.int .i64 W] 40)).alloc (.cells #[.int .i64 0,.int .i64 0,.slice none 0 0,.int .i64 0] 40)):=((Nw.refl w).alloc _).alloc _
 have hb:=hN2.sz
 have hp0:=Z5 w (.cells #[.int .i64 t,.int .i64 r,v,.int .i64 W] 40)
 have hp:=((Nw.refl _).alloc (.cells #[.int .i64 0,.int .i64 0,.slice none 0 0,.int .i64 0] 40)).at' hp0
 have hq:=Z5 (w.alloc (.cells #[.int .i64 t,.int .i64 r,v,.int .i64 W] 40)) (.cells #[.int .i64 0,.int .i64 0,.slice none 0 0,.int .i64 0] 40)
 obtain⟨v',w1,hrun,hO,hN⟩:=Z0u Z8t (h.nw hN2) (by omega)
 have hp1:=hN.at' hp
 have hq1:=hN.at' hq
 have hOl:=fun g hg=>oge hO (g:=g) hg
 obtain⟨a,c,rfl⟩:=h.form
 obtain⟨a',c',hv'⟩:=(Zi.rd hO).form
 subst hv'
 have hz:w.heap.size+1≤((w.alloc (.cells #[.int .i64 t,.int .i64 r,.slice a q.length c,.int .i64 W] 40)).alloc (.cells #[.int .i64 0,.int .i64 0,.slice none 0 0,.int .i64 0] 40)).heap.size:=by simp
 have hsz1:(w.alloc (.cells #[.int .i64 t,.int .i64 r,.slice a q.length c,.int .i64 W] 40)).heap.size=w.heap.size+1:=by simp
 rw[hsz1] at hq hq1
 have hsz2:((w.alloc (.cells #[.int .i64 t,.int .i64 r,.slice a q.length c,.int .i64 W] 40)).alloc (.cells #[.int .i64 0,.int .i64 0,.slice none 0 0,.int .i64 0] 40)).heap.size=w.heap.size+1+1:=by simp
 rw[hsz2] at hrun hO hOl
 have HR:=hD0 hrun
 have hw1:=hN2.trans hN
 have hz1:w.heap.size+1<w1.heap.size:=lL0 (by rw[hsz2];omega) hN.sz
 have hpc:∀k,w1.cell? ⟨w.heap.size,k,none⟩=_:=fun k=>Z2 (j:=k) hp1
 have c0:=hpc 0
 have c1:=hpc 1
 have c2:=hpc 2
 have c3:=hpc 3
 have hqc:∀k,w1.cell? ⟨w.heap.size+1,k,none⟩=_:=fun k=>Z2 (j:=k) hq1
 have d0:=hqc 0
 have d1:=hqc 1
 have d2:=hqc 2
 have d3:=hqc 3
 have fz:=fun k=>hfz (j:=k) hp1
 have fz':=fun k=>hfz (j:=k) hq1
 have HX:=hD0 (aI0 hO (aI0 hw1 (aI0 hp1 (aI0 hq1 hOl))))
 clear hrun hO hw1 hp1 hq1 hp hq hp0 hN hN2 h hb hOl hpc hqc hsz1 hsz2 hz
 go_enter func33,ntmps33
 go_wp2_with (at_builtin;refine Zn (by rfl) (.tmp 3) (.tmp 5) 38 rfl _ _ _ _ rfl rfl HR.out ?_)
 refine bodyPost_ret (v:=.agg #[.int .i64 t,.int .i64 r,.slice a' q.length c',.int .i64 W]) (by simp[results,results33,go_sem, *]) rfl ⟨_,rfl,?_,?_⟩
 ·exact((((HX.out.2.1.st (Nat.le_refl _) _).st (Nat.le_succ _) _).st (Nat.le_succ _) _).st (Nat.le_succ _) _).st (Nat.le_succ _) _
 ·have hO:=HX.out.1
  have hr:=Yu (Yu (Yu (Yu (Yu hO (p:=⟨w.heap.size,2,none⟩) (by show w.heap.size<_;omega) (.slice a' q.length c')) (p:=⟨w.heap.size+1,0,none⟩) (by show w.heap.size+1<_;omega) (.int .i64 t)) (p:=⟨w.heap.size+1,1,none⟩) (by show w.heap.size+1<_;omega) (.int .i64 r)) (p:=⟨w.heap.size+1,2,none⟩) (by show w.heap.size+1<_;omega) (.slice a' q.length c')) (p:=⟨w.heap.size+1,3,none⟩) (by show w.heap.size+1<_;omega) (.int .i64 W)
  exact Z95 hr (fun g hg=>by have:=oge hr hg;omega)
def Z2y(q:List Rq)(id:Int):Value:=match fnd q id with
 | none=>.tuple #[Uk ⟨0,0,0,0,0⟩,.bool false]
 | some r=>.tuple #[Uk r,.bool true]
theorem Z7o{w:World}{g0 e size g n cap:Nat}{xs:List Value}(h:w.ownsRow g0 e size (.slice (some ⟨g,0,none⟩) n cap) n xs):n≤cap:=by
 obtain⟨_,q | ⟨g',cap',cur,e1,_,_,hn,_⟩⟩:=h
 ·simp at q
 ·simp only[Value.slice.injEq] at e1
  rw[e1.2.2];exact hn
def Up:Value→Prop
 | .slice _ n c=>n≤c
 | _=>True
def HR1(X:Hq × Int)(w:World)(e:Ending)(w':World):Prop:=∃v',e=.returned (.tuple #[Vi X.1.t X.1.r v' X.1.W,.int .i64 X.2])∧Nw w w'∧Yg w' v' X.1.q∧Up v'
def newV(n:Nat)(v:Value):Prop:=∀a l c,v=.slice (some a) l c→n≤a.block
theorem Z5v(n:Nat):newV n (.slice none 0 0):=fun a l c e=>by cases e
theorem Zi.newV{w:World}{g0 n:Nat}{v:Value}{q:List Rq}(h:Zi w g0 v q)(hn:n≤g0):newV n v:=by
 rcases Yx h with⟨rfl,_⟩ | ⟨g,cap,rfl⟩
 ·exact Z5v n
 ·intro a l c e
  cases e
  exact Nat.le_trans hn (oge h rfl)
theorem Zi.cap{w:World}{g0:Nat}{v:Value}{q:List Rq}(h:Zi w g0 v q):Up v:=by
 rcases Yx h with⟨rfl,_⟩ | ⟨g,cap,rfl⟩
 ·exact Nat.le_refl _
 ·exact Z7o h
theorem Z19{w a:World}{rb:Nat}(h:Nw w a)(hb:w.heap.size≤rb)(u0 u1 u2 u3:Value):Nw w ((((a.setCell ⟨rb,0,none⟩ u0).setCell ⟨rb,1,none⟩ u1).setCell ⟨rb,2,none⟩ u2).setCell ⟨rb,3,none⟩ u3) :=
 (((h.st hb _).st hb _).st hb _).st hb _
theorem Us{a:World}{rb g0:Nat}{v:Value}{q:List Rq}(h:Zi a g0 v q)(hb:rb<g0)(u0 u1 u2 u3:Value):Zi ((((a.setCell ⟨rb,0,none⟩ u0).setCell ⟨rb,1,none⟩ u1).setCell ⟨rb,2,none⟩ u2).setCell ⟨rb,3,none⟩ u3) g0 v q :=
 Yu (Yu (Yu (Yu h (p:=⟨rb,0,none⟩) hb u0) (p:=⟨rb,1,none⟩) hb u1) (p:=⟨rb,2,none⟩) hb u2) (p:=⟨rb,3,none⟩) hb u3
theorem V5(w:World)(o1 o2:Obj):((w.alloc o1).alloc o2).heap[w.heap.size]?=some o1∧((w.alloc o1).alloc o2).heap[w.heap.size+1]?=some o2∧Nw w ((w.alloc o1).alloc o2)∧((w.alloc o1).alloc o2).heap.size=w.heap.size+1+1:=by
 have hs:(w.alloc o1).heap.size=w.heap.size+1:=by simp
 refine⟨((Nw.refl _).alloc o2).at' (Z5 w o1),?_,((Nw.refl w).alloc _).alloc _,by simp⟩
 have:=Z5 (w.alloc o1) o2
 rwa [hs] at this
def hoI(a b:Rq):Int:=if (a.md != 0)=(b.md != 0)then 0 else if (a.md != 0)=true then -1 else 1
def cmI(a b:Int):Int:=if a<b then -1 else if b<a then 1 else 0
def toI(a b:Rq):Int:=if hoI a b≠0 then hoI a b else cmI a.sn b.sn
theorem nwS{w:World}:∀a b,Nw w a→Nw a b→Nw w b:=fun _ _ h g=>h.trans g
theorem Nw.drewQ{w a:World}(h:Nw w a):Nw w a.drew:=h.drewN 1
theorem Z2w(A B:Rq)(w:World):Calls prog 102 #[Uk A,Uk B] w fun e w'=>e=.returned (.int .i64 (hoI A B))∧Nw w w':=by
 have HA:=hD0 (Z5b A)
 have HB:=hD0 (Z5b B)
 obtain⟨V,hV⟩:∃V,hoI A B=V:=⟨_,rfl⟩
 have hV2:=hV
 rw[hV]
 unfold hoI at hV2
 generalize (A.md != 0)=x at *
 generalize (B.md != 0)=y at *
 clear hV
 have HV:=hD0 hV2
 clear hV2
 obtain⟨a,b,m,n,s⟩:=A
 obtain⟨a',b',m',n',s'⟩:=B
 unfold Uk at *
 have HX:=hD0 (V5 w (.cells #[.int .i64 a,.int .i64 b,.int .i64 m,.int .i64 n,.int .i64 s] 47) (.cells #[.int .i64 a',.int .i64 b',.int .i64 m',.int .i64 n',.int .i64 s'] 47))
 go_enter func102,ntmps102
 go_wp2_with fail
 generalize (w.alloc (.cells #[.int .i64 a,.int .i64 b,.int .i64 m,.int .i64 n,.int .i64 s] 47)).alloc (.cells #[.int .i64 a',.int .i64 b',.int .i64 m',.int .i64 n',.int .i64 s'] 47)=w1 at *
 obtain⟨p,hp⟩:∃p,w.heap.size=p:=⟨_,rfl⟩
 rw[hp] at HX ⊢
 have hl1:=hlt HX.out.1
 have hl2:=hlt HX.out.2.1
 have c0:=Z2 (j:=0) HX.out.1
 have c1:=Z2 (j:=1) HX.out.1
 have c2:=Z2 (j:=2) HX.out.1
 have c3:=Z2 (j:=3) HX.out.1
 have c4:=Z2 (j:=4) HX.out.1
 have d0:=Z2 (j:=0) HX.out.2.1
 have d1:=Z2 (j:=1) HX.out.2.1
 have d2:=Z2 (j:=2) HX.out.2.1
 have d3:=Z2 (j:=3) HX.out.2.1
 have d4:=Z2 (j:=4) HX.out.2.1
 have HN:=hD0 HX.out.2.2.1
 clear HX hp hl1 hl2
 refine Z4n (Nw w1) (by kernel_rfl) (by kernel_rfl) (Nw.refl _).drewQ ?_
 have e0:∀d:Wd (Nw w1),d.w.cell? _=_:=fun d=>d.h.kp c0
 have e1:∀d:Wd (Nw w1),d.w.cell? _=_:=fun d=>d.h.kp c1
 have e2:∀d:Wd (Nw w1),d.w.cell? _=_:=fun d=>d.h.kp c2
 have e3:∀d:Wd (Nw w1),d.w.cell? _=_:=fun d=>d.h.kp c3
 have e4:∀d:Wd (Nw w1),d.w.cell? _=_:=fun d=>d.h.kp c4
 have f0:∀d:Wd (Nw w1),d.w.cell? _=_:=fun d=>d.h.kp d0
 have f1:∀d:Wd (Nw w1),d.w.cell? _=_:=fun d=>d.h.kp d1
 have f2:∀d:Wd (Nw w1),d.w.cell? _=_:=fun d=>d.h.kp d2
 have f3:∀d:Wd (Nw w1),d.w.cell? _=_:=fun d=>d.h.kp d3
 have f4:∀d:Wd (Nw w1),d.w.cell? _=_:=fun d=>d.h.kp d4
 have hne:Nonempty (Wd (Nw w1)):=⟨⟨_,Nw.refl w1⟩⟩
 repeat (first | go_big_quiet_step ((first | (with_reducible exact Z1d nwS (HA.out _)) | (with_reducible exact Z1d nwS (HB.out _)))) | quiet_step ((first | (with_reducible exact Z1d nwS (HA.out _)) | (with_reducible exact Z1d nwS (HB.out _)))))
 refine wpQuiet_nil ?_
 intro d
 have h6:=d.h
 clear e0 e1 e2 e3 e4 f0 f1 f2 f3 f4 hne
 revert h6
 generalize d.w=w6
 intro h6
 replace c0:=h6.kp c0
 replace c1:=h6.kp c1
 replace c2:=h6.kp c2
 replace c3:=h6.kp c3
 replace c4:=h6.kp c4
 replace HN:=hD0 (HN.out.trans h6)
 clear h6 d0 d1 d2 d3 d4
 cases x<;>cases y
 ·have e:V=0:=by simpa using HV.out.symm
  subst e
  go_wp2
  go_ret
  exact⟨rfl,HN.out⟩
 ·have e:V=1:=by simpa using HV.out.symm
  subst e
  go_wp2_with (go_at_call 111;refine(HA.out _).mono ?_;rintro e w' ⟨rfl,g⟩)
  go_ret
  exact⟨rfl,HN.out.trans g⟩
 ·have e:V = -1:=by simpa using HV.out.symm
  subst e
  go_wp2_with (go_at_call 111;refine(HA.out _).mono ?_;rintro e w' ⟨rfl,g⟩)
  go_ret
  exact⟨rfl,HN.out.trans g⟩
 ·have e:V=0:=by simpa using HV.out.symm
  subst e
  go_wp2
  go_ret
  exact⟨rfl,HN.out⟩
theorem Za7(a:Int)(w:World):Calls prog 62 #[.int .i64 a] w fun e w'=>e=.returned (.bool false)∧w=w':=by
 go_enter func62,ntmps62
 go_wp2
 go_ret
 exact⟨rfl,rfl⟩
theorem Z5a(a b:Int)(w:World):Calls prog 42 #[.int .i64 a,.int .i64 b] w fun e w'=>e=.returned (.int .i64 (cmI a b))∧Nw w w':=by
 have HN:=hD0 Za7
 unfold cmI
 by_cases h1:a<b
 ·rw[if_pos h1]
  go_enter func42,ntmps42
  go_wp2_with (go_at_call 62;refine(HN.out _ _).mono ?_;rintro e w' ⟨rfl,rfl⟩)
  go_ret
  exact⟨rfl,Nw.refl _⟩
 rw[if_neg h1]
 by_cases h2:b<a
 ·rw[if_pos h2]
  go_enter func42,ntmps42
  go_wp2_with (go_at_call 62;refine(HN.out _ _).mono ?_;rintro e w' ⟨rfl,rfl⟩)
  go_ret
  exact⟨rfl,Nw.refl _⟩
 ·rw[if_neg h2]
  go_enter func42,ntmps42
  go_wp2_with (go_at_call 62;refine(HN.out _ _).mono ?_;rintro e w' ⟨rfl,rfl⟩)
  go_ret
  exact⟨rfl,Nw.refl _⟩
theorem dOr(x y:Int)(b:Nat)(w:World)(h0:w.cell? ⟨b,0,none⟩=some (.int .i64 x))(h1:w.cell? ⟨b,1,none⟩=some (.int .i64 y)) :
  Calls prog 41 #[.slice (some ⟨b,0,none⟩) 2 2] w fun e w'=>e=.returned (.int .i64 (if x≠0 then x else y))∧Nw w w':=by
 have hp:=World.block_lt_of_cell? _ _ h0
 by_cases hx:x=0
 ·have dx:(x != 0)=false:=by simpa using hx
  rw[if_neg (by simpa using hx)]
  by_cases hy:y=0
  ·have dy:(y != 0)=false:=by simpa using hy
   subst hx hy
   go_enter func41,ntmps41
   go_wp2
   refine wp_loop_rounds 3 ?_
   repeat (rw[rounds_succ];go_wp2)
   go_ret
   exact⟨rfl,Nw.refl _⟩
  ·have dy:(y != 0)=true:=by simpa using hy
   clear hy
   go_enter func41,ntmps41
   go_wp2
   refine wp_loop_rounds 3 ?_
   repeat (rw[rounds_succ];go_wp2)
   go_ret
   exact⟨rfl,Nw.refl _⟩
 ·have dx:(x != 0)=true:=by simpa using hx
  rw[if_pos (by simpa using hx)]
  clear hx
  go_enter func41,ntmps41
  go_wp2
  refine wp_loop_rounds 3 ?_
  repeat (rw[rounds_succ];go_wp2)
  go_ret
  exact⟨rfl,Nw.refl _⟩
theorem Z79(A B:Rq)(w:World):Calls prog 75 #[Uk A,Uk B] w fun e w'=>e=.returned (.int .i64 (toI A B))∧Nw w w':=by
 have HH:=hD0 (Z2w A B)
 have HC:=hD0 (Z5a A.sn B.sn)
 unfold toI
 generalize hoI A B=x at *
 obtain⟨y,hy⟩:∃y,cmI A.sn B.sn=y:=⟨_,rfl⟩
 rw[hy] at HC ⊢
 clear hy
 obtain⟨V,hV⟩:∃V,(if x≠0 then x else y)=V:=⟨_,rfl⟩
 have HO:=hD0 (dOr x y)
 rw[hV] at HO ⊢
 clear hV
 obtain⟨a,b,m,n,s⟩:=A
 obtain⟨a',b',m',n',s'⟩:=B
 unfold Uk at *
 simp only at HC
 have HX:=hD0 (V5 w (.cells #[.int .i64 a,.int .i64 b,.int .i64 m,.int .i64 n,.int .i64 s] 47) (.cells #[.int .i64 a',.int .i64 b',.int .i64 m',.int .i64 n',.int .i64 s'] 47))
 go_enter func75,ntmps75
 go_wp2_with fail
 generalize (w.alloc (.cells #[.int .i64 a,.int .i64 b,.int .i64 m,.int .i64 n,.int .i64 s] 47)).alloc (.cells #[.int .i64 a',.int .i64 b',.int .i64 m',.int .i64 n',.int .i64 s'] 47)=w1 at *
 obtain⟨p,hp⟩:∃p,w.heap.size=p:=⟨_,rfl⟩
 rw[hp] at HX ⊢
 have c0:=Z2 (j:=0) HX.out.1
 have c1:=Z2 (j:=1) HX.out.1
 have c2:=Z2 (j:=2) HX.out.1
 have c3:=Z2 (j:=3) HX.out.1
 have c4:=Z2 (j:=4) HX.out.1
 have d0:=Z2 (j:=0) HX.out.2.1
 have d1:=Z2 (j:=1) HX.out.2.1
 have d2:=Z2 (j:=2) HX.out.2.1
 have d3:=Z2 (j:=3) HX.out.2.1
 have d4:=Z2 (j:=4) HX.out.2.1
 have HN:=hD0 HX.out.2.2.1
 clear HX hp
 have e0:∀d,Nw w1 d→d.cell? _=_:=fun d h=>h.kp c0
 have e1:∀d,Nw w1 d→d.cell? _=_:=fun d h=>h.kp c1
 have e2:∀d,Nw w1 d→d.cell? _=_:=fun d h=>h.kp c2
 have e3:∀d,Nw w1 d→d.cell? _=_:=fun d h=>h.kp c3
 have e4:∀d,Nw w1 d→d.cell? _=_:=fun d h=>h.kp c4
 have f0:∀d,Nw w1 d→d.cell? _=_:=fun d h=>h.kp d0
 have f1:∀d,Nw w1 d→d.cell? _=_:=fun d h=>h.kp d1
 have f2:∀d,Nw w1 d→d.cell? _=_:=fun d h=>h.kp d2
 have f3:∀d,Nw w1 d→d.cell? _=_:=fun d h=>h.kp d3
 have f4:∀d,Nw w1 d→d.cell? _=_:=fun d h=>h.kp d4
 clear c0 c1 c2 c3 c4 d0 d1 d2 d3 d4
 refine U4 [some true,some true,some false,some true,some true,some true,some true,none,some false,none,some false,none,some false,none,some true] (Nw w1) (by kernel_rfl) (by kernel_rfl) (by kernel_rfl) (Nw.refl _).drewQ ?_
 have g1:=(Nw.refl w1).drewQ
 obtain⟨w2,hw2⟩:∃w2,w1.drew=w2:=⟨_,rfl⟩
 rw[hw2] at g1 ⊢
 clear hw2
 repeat (first
  | (refine HW.off ?_)
  | (refine HW.go (fun K hK=>?_);go_simp;(first | (go_at_call 102;(with_reducible refine(HH.out _).mono ?_);rintro e wy ⟨rfl,g2⟩) | (go_at_call 42;(with_reducible refine(HC.out _).mono ?_);rintro e wy ⟨rfl,g2⟩));refine hK.out _ _ (g1.trans g2) ?_;intro _;replace g1:=g1.trans g2;clear hK K g2)
  | (refine HW.take' ?_;apply Exists.intro;refine⟨Or.inl ⟨by rfl,?_⟩,?_⟩;(intro x hx;go_simp;first | done | with_reducible rfl);(try simp only[Act.put,List.setIfInBounds_toArray,List.set_cons_zero,List.set_cons_succ])))
 refine HW.go (fun K hK=>?_)
 go_simp
 have hb:=Z5 wy (.cells #[.int .i64 x,.int .i64 y] 3)
 have g3:=g1.alloc (.cells #[.int .i64 x,.int .i64 y] 3)
 have o0:=Z2 (j:=0) hb
 have o1:=Z2 (j:=1) hb
 refine hK.out _ _ g3 ?_
 intro _
 clear hK K
 refine HW.off ?_
 refine HW.go (fun K hK=>?_)
 go_simp
 go_at_call 41
 refine(HO.out _ _ o0 o1).mono ?_
 rintro e wz ⟨rfl,g4⟩
 have g5:=g3.trans g4
 refine hK.out _ _ g5 ?_
 intro _
 clear hK K
 refine HW.take' ?_
 apply Exists.intro
 refine⟨Or.inl ⟨by rfl,?_⟩,?_⟩
 ·(intro x hx;go_simp;first | done | with_reducible rfl)
 (try simp only[Act.put,List.setIfInBounds_toArray,List.set_cons_zero,List.set_cons_succ])
 refine HW.end_ ?_
 refine NoPanic.normal ?_
 go_wp2
 go_ret
 exact⟨rfl,HN.out.trans g5⟩
structure RqB(w:World)(p:Nat)(a b m n s:Int):Prop where
 lt:p<w.heap.size
 c0:w.cell? ⟨p,0,none⟩=some (.int .i64 a)
 c1:w.cell? ⟨p,1,none⟩=some (.int .i64 b)
 c2:w.cell? ⟨p,2,none⟩=some (.int .i64 m)
 c3:w.cell? ⟨p,3,none⟩=some (.int .i64 n)
 c4:w.cell? ⟨p,4,none⟩=some (.int .i64 s)
theorem RqB.nw{w w':World}{p:Nat}{a b m n s:Int}(h:RqB w p a b m n s)(g:Nw w w'):RqB w' p a b m n s :=
 ⟨lL0 h.lt g.sz,g.kp h.c0,g.kp h.c1,g.kp h.c2,g.kp h.c3,g.kp h.c4⟩
theorem RqB.of{w:World}{p:Nat}{a b m n s:Int}{T:TypeId}{fr:Nat × Nat}(h:w.heap[p]?=some (.cells #[.int .i64 a,.int .i64 b,.int .i64 m,.int .i64 n,.int .i64 s] T fr)):RqB w p a b m n s :=
 ⟨hlt h,Z2 h,Z2 h,Z2 h,Z2 h,Z2 h⟩
theorem RqB.made(w:World)(a b m n s:Int)(T:TypeId):RqB (w.alloc (.cells #[.int .i64 a,.int .i64 b,.int .i64 m,.int .i64 n,.int .i64 s] T)) w.heap.size a b m n s:=RqB.of (Z5 w _)
theorem Z78(S R:Rq)(p:Nat)(w:World)(h:RqB w p S.id S.txn S.md S.wt S.sn):Calls prog 74 #[Uk R,.pointer (some ⟨p,0,none⟩)] w fun e w'=>e=.returned (.bool (decide (0<R.sn)&&decide (toI R S<0)))∧Nw w w':=by
 have HWt:=hD0 (Z5c R)
 have HT:=hD0 (Z79 R S)
 generalize toI R S=x at *
 obtain⟨y,hd⟩:∃y,decide (x<0)=y:=⟨_,rfl⟩
 rw[hd]
 generalize decide (0<R.sn)=z at *
 obtain⟨a,b,m,n,s⟩:=R
 obtain⟨a',b',m',n',s'⟩:=S
 unfold Uk at *
 simp only at h
 have hl:w.heap.size<(w.alloc (.cells #[.int .i64 a,.int .i64 b,.int .i64 m,.int .i64 n,.int .i64 s] 47)).heap.size:=by simp
 have hb:=RqB.made w a b m n s 47
 have hN:=(Nw.refl w).alloc (.cells #[.int .i64 a,.int .i64 b,.int .i64 m,.int .i64 n,.int .i64 s] 47)
 obtain⟨w1,hw1⟩:∃w1,w.alloc (.cells #[.int .i64 a,.int .i64 b,.int .i64 m,.int .i64 n,.int .i64 s] 47)=w1:=⟨_,rfl⟩
 rw[hw1] at hb hN hl
 have HW1:=hD0 hw1
 clear hw1
 obtain⟨hl0,c0,c1,c2,c3,c4⟩:=h.nw hN
 have hBB:=hD0 (aI0 (h.nw hN) hb)
 obtain⟨hl2,d0,d1,d2,d3,d4⟩:=hb
 have HN:=hD0 hN
 clear hN h
 cases z
 ·go_enter func74,ntmps74
  go_wp2_with fail
  rw[HW1.out]
  go_wp2_with (go_at_call 56;refine(HWt.out _).mono ?_;rintro e w2 ⟨rfl,g⟩)
  go_ret
  exact⟨rfl,HN.out.trans g⟩
 ·go_enter func74,ntmps74
  go_wp2_with fail
  rw[HW1.out]
  go_wp2_with fail
  go_at_call 56
  refine(HWt.out _).mono ?_
  rintro e w2 ⟨rfl,g⟩
  clear hl0 c0 c1 c2 c3 c4 hl2 d0 d1 d2 d3 d4
  obtain⟨hl0,c0,c1,c2,c3,c4⟩:=hBB.out.1.nw g
  obtain⟨hl2,d0,d1,d2,d3,d4⟩:=hBB.out.2.nw g
  have HN2:=hD0 (HN.out.trans g)
  clear HN hl g hBB
  go_wp2_with (go_at_call 75;refine(HT.out _).mono ?_;rintro e w3 ⟨rfl,g3⟩)
  go_ret
  exact⟨rfl,HN2.out.trans g3⟩
theorem Z59(S:Rq)(w:World):Calls prog 57 #[Uk S] w fun e w'=>∃p,e=.returned (.func (.func 74) #[] #[.pointer (some ⟨p,0,none⟩)])∧Nw w w'∧RqB w' p S.id S.txn S.md S.wt S.sn:=by
 obtain⟨a',b',m',n',s'⟩:=S
 unfold Uk
 go_enter func57,ntmps57
 go_wp2
 go_ret
 exact⟨_,rfl,(Nw.refl _).alloc _,RqB.made _ _ _ _ _ _ _⟩
theorem Yw.ahead{w:World}{S:Rq}{p:Nat}(h:RqB w p S.id S.txn S.md S.wt S.sn):Yw w (.func (.func 74) #[] #[.pointer (some ⟨p,0,none⟩)]) (fun R=>decide (0<R.sn)&&decide (toI R S<0)) :=
 ⟨_,_,rfl,enters_of func74 (by kernel_rfl) rfl,fun R w1 g=>Z78 S R p w1 (h.nw g)⟩
structure SmH(w:World)(gf:Nat)(lb:Array Value)(g n a b:Nat)(l:List Int):Prop where
 eg:∀args w,(callFunc gf args).run prog w=.ok (.enter gf args) w
 cell:∀i z,i<n→Nw w z→z.cell? ⟨g,i,none⟩=some (.int .i64 (l.getD i 0))
 call:∀i j,a≤i→i<j→j<b→∃v:Int,decide (v<0)=false∧∀z,Nw w z→Calls prog gf (#[.int .i64 (l.getD j 0),.int .i64 (l.getD i 0)]++lb) z fun e w'=>e=.returned (.int .i64 v)∧Nw z w'
def plc(p:Rq→Bool):List Rq→Int
 | []=>-1
 | a::r=>if p a=true then 0 else if plc p r = -1 then -1 else plc p r+1
theorem Vl(p:Rq→Bool):∀q:List Rq,(plc p q = -1∧∀a∈q,p a=false)∨∃k:Nat,plc p q=k∧∃h:k<q.length,p q[k]=true∧∀i (hi:i<q.length),i<k→p q[i]=false
 | []=>.inl ⟨rfl,by simp⟩
 | a::r=>by
  unfold plc
  cases e:p a with
  | true=>exact .inr ⟨0,rfl,by simp,e,fun i _ h=>by omega⟩
  | false =>
   rcases Vl p r with⟨h1,h2⟩ | ⟨k,h1,h2,h3,h4⟩
   ·rw[h1]
    refine .inl ⟨rfl,fun x hx=>?_⟩
    rcases List.mem_cons.1 hx with rfl | hx
    ·exact e
    ·exact h2 x hx
   ·rw[h1]
    refine .inr ⟨k+1,?_,by simpa using h2,h3,fun i hi hik=>?_⟩
    ·simp only[Bool.false_eq_true,if_false]
     rw[if_neg (by omega)];rfl
    ·cases i with
     | zero=>exact e
     | succ i=>exact h4 i (by simpa using hi) (by omega)
theorem Z7s{p:Rq→Bool}{q:List Rq}{k:Nat}(hk:k<q.length)(h:p q[k]=true)(hb:∀i (hi:i<q.length),i<k→p q[i]=false):plc p q=k:=by
 rcases Vl p q with⟨_,h2⟩ | ⟨j,h1,h2,h3,h4⟩
 ·rw[h2 _ (gM0 hk)] at h;cases h
 ·rw[h1]
  rcases Nat.lt_trichotomy j k with g | g | g
  ·rw[hb j h2 g] at h3;cases h3
  ·rw[g]
  ·rw[h4 k hk g] at h;cases h
theorem Z64{p:Rq→Bool}{q:List Rq}(h:∀i (hi:i<q.length),p q[i]=false):plc p q = -1:=by
 rcases Vl p q with⟨h1,_⟩ | ⟨j,h1,h2,h3,_⟩
 ·exact h1
 ·rw[h j h2] at h3;cases h3
theorem Z8p(v f:Value)(p:Rq→Bool)(q:List Rq)(w:World)(hl:q.length≤1000)(h:Yg w v q)(hf:Yw w f p) :
  Calls prog 100 #[v,f] w fun e w'=>e=.returned (.int .i64 (plc p q))∧Nw w w':=by
 obtain⟨g,lb,rfl,eg,hT⟩:=hf
 have HT:=hD0 hT
 clear hT
 obtain⟨a,c,rfl,⟨rfl,_⟩ | ⟨b,o,rfl,hc⟩⟩:=h
 ·go_enter func100,ntmps100
  go_wp2
  refine wp_loop_rounds 1 ?_
  repeat (rw[rounds_succ];go_wp2)
  go_ret
  exact⟨rfl,Nw.refl _⟩
 ·have H:=hD0 hc
  clear hc
  obtain⟨V,hV⟩:∃V,plc p q=V:=⟨_,rfl⟩
  rw[hV]
  have HV:=hD0 hV
  clear hV
  go_enter func100,ntmps100
  go_wp2
  go_loopw [8] (fun i wr=>∃k:Nat,k≤q.length∧i=.int .i64 k∧(∀i (hi:i<q.length),i<k→p q[i]=false)∧Nw w wr) (fun i _=>q.length-(intOf i).toNat)
  case atStart=>exact⟨0,Nat.zero_le _,rfl,fun _ _ h=>by omega,Nw.refl _⟩
  case round =>
   obtain⟨k,hk,rfl,hF,hN⟩:=hrel
   by_cases hlt:k<q.length
   ·have hce:=(H.out.nw hN).cell k hlt
    obtain⟨R,hR⟩:∃R,q[k]=R:=⟨_,rfl⟩
    rw[hR] at hce
    have HC:=hD0 (HT.out R)
    have HS:=hD0 hR
    have HF:=hD0 hF
    have HN:=hD0 hN
    clear hR hF hN
    obtain⟨B,hB⟩:∃B,p R=B:=⟨_,rfl⟩
    rw[hB] at HC
    have HB:=hD0 hB
    clear hB
    obtain⟨b0,b1,b2,b3,b4⟩:=R
    have e0:=hce 0 _ rfl
    have e1:=hce 1 _ rfl
    have e2:=hce 2 _ rfl
    have e3:=hce 3 _ rfl
    have e4:=hce 4 _ rfl
    simp only[Nat.add_zero] at e0
    clear hce
    cases B
    case true =>
     go_wp2_with (go_at_fn g;refine(HC.out _ HN.out).mono ?_;rintro e w1 ⟨rfl,g1⟩)
     go_ret
     exact⟨by rw[←HV.out,Z7s hlt (by rw[HS.out];exact HB.out) HF.out];rfl,HN.out.trans g1⟩
    case false =>
     go_wp2_with (go_at_fn g;refine(HC.out _ HN.out).mono ?_;rintro e w1 ⟨rfl,g1⟩)
     go_roundw
     case rel =>
      refine⟨k+1,by omega,by go_num,fun i hi hik=>?_,HN.out.trans g1⟩
      by_cases q:i<k
      ·exact HF.out i hi q
      ·have:i=k:=by omega
       subst this
       rw[HS.out];exact HB.out
     case measure=>simp[intOf];omega
   ·have HF:=hD0 hF
    have HN:=hD0 hN
    clear hF hN
    go_wp2
    go_ret
    exact⟨by rw[←HV.out,Z64 fun i hi=>HF.out i hi (by omega)];rfl,HN.out⟩
theorem Z9p(t r W:Int)(v f:Value)(p:Rq→Bool)(q:List Rq)(w:World)(hl:q.length≤1000)(h:Yg w v q)(hf:Yw w f p) :
  Calls prog 72 #[Vi t r v W,f] w fun e w'=>e=.returned (.int .i64 (plc p q))∧Nw w w':=by
 have HI:=hD0 (fun(w1:World) (g:Nw w w1)=>Z8p v f p q w1 hl (h.nw g) (hf.nw g))
 obtain⟨a,c,rfl⟩:=h.form
 obtain⟨g,lb,rfl,_⟩:=hf
 unfold Vi
 clear h
 have hN:Nw w (w.alloc (.cells #[.int .i64 t,.int .i64 r,.slice a q.length c,.int .i64 W] 40)):=(Nw.refl w).alloc _
 go_enter func72,ntmps72
 go_wp2_with (go_at_call 100;refine(HI.out _ hN).mono ?_;rintro e w1 ⟨rfl,g1⟩)
 go_ret
 exact⟨rfl,hN.trans g1⟩
section
open Go.RowKit Go.Maps Go.ChangeMaps
section
variable {w w':World} {b n:Nat} {c:Int→Int}
end
theorem dCp(a b:Int)(w:World)(ha:Yk a=true)(hb:Yk b=true):Calls prog 58 #[.int .i64 a,.int .i64 b] w fun e w'=>e=.returned (.bool (Ys a b))∧Nw w w':=by
 have h1:=(V3 a).1 ha
 have h2:=(V3 b).1 hb
 rw[Z8c a b ha hb]
 exact Z8n a b w h1.1 h1.2 h2.1 h2.2
end
theorem Z9c{A M B:List Value}{j:Nat}(hj:j<M.length)(u:Value):(A++(M++B)).set (A.length+j) u=A++(M.set j u++B):=by
 rw[List.set_append_right _ _ (by omega),Nat.add_sub_cancel_left,List.set_append_left _ _ hj]
theorem Z2h(q:List Rq)(k:Nat)(hk:k<q.length):Z8 Zq q=Z8 Zq (q.take k)++(Zq q[k]++Z8 Zq (q.drop (k+1))):=by
 have e:q=q.take k++q[k]::q.drop (k+1):=by rw[←List.drop_eq_getElem_cons hk,List.take_append_drop]
 conv=>lhs;rw[e]
 rw[Z2g]
 rfl
theorem Z6a(q:List Rq)(k:Nat)(hk:k<q.length)(j:Nat)(hj:j<5)(u:Value)(new:Rq)(e:(Zq q[k]).set j u=Zq new):(Z8 Zq q).set (k*5+j) u=Z8 Zq (q.set k new):=by
 have hA:(Z8 Zq (q.take k)).length=k*5:=by rw[Yf (sz:=5) (fun _=>rfl),List.length_take,Nat.min_eq_left (Nat.le_of_lt hk)]
 have h2:=Z2h (q.set k new) k (by rw[List.length_set];exact hk)
 rw[List.take_set_of_le (Nat.le_refl k),List.drop_set_of_lt (Nat.lt_succ_self k),List.getElem_set_self] at h2
 rw[Z2h q k hk,h2,←hA,Z9c (by exact hj) u,e]
theorem Ui{w:World}{g0 g cap n:Nat}{q:List Rq}(h:Zi w g0 (.slice (some ⟨g,0,none⟩) n cap) q)(hn:n=q.length)(k:Nat)(hk:k<q.length)(j:Nat)(hj:j<5)(u:Value)(new:Rq)(e:(Zq q[k]).set j u=Zq new) :
  Zi (w.setCell ⟨g,k*5+j,none⟩ u) g0 (.slice (some ⟨g,0,none⟩) n cap) (q.set k new):=by
 subst hn
 have h1:=(World.ownsRow.stored h (k*5+j) u).1
 unfold Zi Yy
 rw[List.length_set,←Z6a q k hk j hj u new e]
 exact h1
theorem Vk{w:World}{g0 g cap n:Nat}{q:List Rq}(h:Zi w g0 (.slice (some ⟨g,0,none⟩) n cap) q)(hn:n=q.length)(k:Nat)(hk:k<q.length)(j:Nat)(u:Value)(hu:(Zq q[k])[j]?=some u):w.cell? ⟨g,k*5+j,none⟩=some u:=by
 subst hn
 have hj:j<5:=by have:=(List.getElem?_eq_some_iff.1 hu).1;simpa [Zq] using this
 refine(World.ownsRow.cellAt h (k*5+j) (by omega)).trans ?_
 rw[Y9 (sz:=5) (fun _=>rfl) q k j hk hj];exact hu
theorem Z3p{w:World}{g0 g cap n:Nat}{q:List Rq}(h:Zi w g0 (.slice (some ⟨g,0,none⟩) n cap) q)(hn:n=q.length)(j:Nat):w.frozen? ⟨g,j,none⟩=false:=by
 subst hn
 exact World.ownsRow.frozenAt h j
theorem Z9u{W:Int}{q:List Rq}(h:Ok W q){m k:Nat}(hm:m<q.length)(hk:k<q.length)(ne:m≠k):q[m].id≠q[k].id:=by
 rcases Nat.lt_or_gt_of_ne ne with g | g
 ·exact(List.pairwise_iff_getElem.1 h.pr m k hm hk g).id
 ·exact fun e=>(List.pairwise_iff_getElem.1 h.pr k m hk hm g).id e.symm
def HR2(X:Hq × Bool × Int)(w:World)(e:Ending)(w':World):Prop:=∃v',e=.returned (.tuple #[Vi X.1.t X.1.r v' X.1.W,.bool X.2.1,.int .i64 X.2.2])∧Nw w w'∧Yg w' v' X.1.q∧Up v'
theorem Z6i{α:Type}(q:List α)(k:Nat)(hk:k<q.length):q=q.take k++q[k]::q.drop (k+1):=by rw[←List.drop_eq_getElem_cons hk,List.take_append_drop]
theorem Z9t{a b:Rq}(h1:a.md≠0)(h2:b.md=0):toI a b<0:=by
 have:hoI a b = -1:=by unfold hoI;simp[h1,h2]
 unfold toI;rw[this,if_pos (by decide)];decide
theorem Z9s{a b:Rq}(h1:a.md=0)(h2:b.md≠0):¬toI a b<0:=by
 have:hoI a b=1:=by unfold hoI;simp[h1,h2]
 unfold toI;rw[this,if_pos (by decide)];decide
theorem Z8f{a b:Rq}(h:a.md=0↔b.md=0):toI a b=cmI a.sn b.sn:=by
 have e:(a.md != 0)=(b.md != 0):=by
  by_cases z:a.md=0
  ·rw[z,h.1 z]
  ·have y:b.md≠0:=fun e=>z (h.2 e)
   rw[bne_iff_ne.2 z,bne_iff_ne.2 y]
 have:hoI a b=0:=by unfold hoI;rw[if_pos e]
 unfold toI;rw[this];simp
theorem Z8b{a b:Int}:cmI a b<0↔a<b:=by
 unfold cmI
 by_cases h1:a<b
 ·rw[if_pos h1];exact⟨fun _=>h1,fun _=>by decide⟩
 ·rw[if_neg h1]
  by_cases h2:b<a
  ·rw[if_pos h2];exact⟨fun e=>by omega,fun e=>absurd e h1⟩
  ·rw[if_neg h2];exact⟨fun e=>by omega,fun e=>absurd e h1⟩
theorem Z40{a b:Rq}:toI a b<0↔(a.md≠0∧b.md=0)∨((a.md=0↔b.md=0)∧a.sn<b.sn):=by
 by_cases z:a.md=0
 ·by_cases y:b.md=0
  ·rw[Z8f (by simp[z,y]),Z8b];simp[z,y]
  ·have:=Z9s z y
   simp[this,z,y]
 ·by_cases y:b.md=0
  ·have:=Z9t z y
   simp[this,z,y]
  ·rw[Z8f (by simp[z,y]),Z8b];simp[z,y]
def Z4q(q:List Rq)(x:Int):Rq:=q.getD x.toNat ⟨0,0,0,0,0⟩
def tC(q:List Rq)(x y:Int):Int:=toI (Z4q q x) (Z4q q y)
abbrev Zag(p:Rq→Bool)(l:List Rq):List Rq:=l.filter fun s=>!p s
structure Del(p:Rq→Bool)(w wr:World)(g0 g n cap a b:Nat)(l R:List Rq):Prop where
 ab:a<b
 bn:b≤l.length
 len:R.length=l.length
 front:R.take a=Zag p (l.take b)
 rest:R.drop b=l.drop b
 row:Zi wr g0 (.slice (some ⟨g,0,none⟩) n cap) R
 tch:Zd (fun k=>k=g) w wr
section
variable {p:Rq→Bool} {w wr wr':World} {g0 g n cap a b:Nat} {l R:List Rq}
end
theorem Z8j(q:List Rq)(id:Int):Za4 q id (plc (fun R=>R.id==id) q):=by
 rcases Vl (fun R=>R.id==id) q with⟨h1,h2⟩ | ⟨k,h1,hk,h3,h4⟩
 ·refine .inl ⟨h1,?_⟩
  unfold fnd
  rw[List.find?_eq_none]
  intro x hx;rw[h2 x hx];simp
 ·refine .inr ⟨k,h1,hk,?_⟩
  unfold fnd
  have e:=Z6i q k hk
  conv=>lhs;rw[e]
  rw[List.find?_append,List.find?_cons,h3]
  have:(q.take k).find? (fun r=>r.id==id)=none:=by
   rw[List.find?_eq_none]
   intro x hx
   obtain⟨i,hi,rfl⟩:=List.getElem_of_mem hx
   simp at hi
   have:=h4 i (by omega) (by omega)
   simpa using this
  rw[this];rfl
theorem Z8o(t r W id:Int)(v:Value)(q:List Rq)(w:World)(hl:q.length≤1000)(h:Yg w v q) :
  Calls prog 55 #[Vi t r v W,.int .i64 id] w fun e w'=>e=.returned (Z2y q id)∧Nw w w':=by
 obtain⟨V,hV⟩:∃V,Z2y q id=V:=⟨_,rfl⟩
 rw[hV]
 obtain⟨px,hpx⟩:∃px,plc (fun R=>R.id==id) q=px:=⟨_,rfl⟩
 have hFi:=fun(w1:World) (g:Nw w w1) (f:Value) (hf:Yw w1 f (fun R=>R.id==id))=>Z9p t r W v f _ q w1 hl (h.nw g) hf
 rw[hpx] at hFi
 have HAt:=hD0 h
 obtain⟨a,c,rfl,_⟩:=h
 unfold Vi at hFi ⊢
 have HFi:=hD0 hFi
 clear hFi
 have HWi:=hD0 (Z7a id)
 obtain⟨hx1,hx2,hx3,hx4⟩:=V5 w (.cells #[.int .i64 t,.int .i64 r,.slice a q.length c,.int .i64 W] 40) (.cells #[.int .i64 0,.int .i64 0,.int .i64 0,.int .i64 0,.int .i64 0] 47)
 obtain⟨w1,hw1⟩:∃w1,(w.alloc (.cells #[.int .i64 t,.int .i64 r,.slice a q.length c,.int .i64 W] 40)).alloc (.cells #[.int .i64 0,.int .i64 0,.int .i64 0,.int .i64 0,.int .i64 0] 47)=w1:=⟨_,rfl⟩
 rw[hw1] at hx1 hx2 hx3
 have HB1:=hD0 (aI0 (aI0 hx1 hx2) hx3)
 have s0:∀z,Nw w1 z→z.cell? ⟨w.heap.size,0,none⟩=some (.int .i64 t):=fun z hz=>hz.kp (Z2 (j:=0) hx1)
 have s1:∀z,Nw w1 z→z.cell? ⟨w.heap.size,1,none⟩=some (.int .i64 r):=fun z hz=>hz.kp (Z2 (j:=1) hx1)
 have s2:∀z,Nw w1 z→z.cell? ⟨w.heap.size,2,none⟩=some (.slice a q.length c):=fun z hz=>hz.kp (Z2 (j:=2) hx1)
 have s3:∀z,Nw w1 z→z.cell? ⟨w.heap.size,3,none⟩=some (.int .i64 W):=fun z hz=>hz.kp (Z2 (j:=3) hx1)
 clear hx1 hx2 hx3 hx4
 have HW1:=hD0 hw1
 clear hw1
 have q1:=(Nw.refl w1).drewQ
 obtain⟨wc,hwc⟩:∃wc,w1.drew=wc:=⟨_,rfl⟩
 go_enter func55,ntmps55
 go_wp2
 rw[HW1.out]
 refine U4 [some true,some true,some false,none,some false,none,some true] (Nw w1) (by kernel_rfl) (by kernel_rfl) (by kernel_rfl) q1 ?_
 rw[hwc] at q1 ⊢
 clear hwc
 repeat (first
  | (refine HW.off ?_)
  | (refine HW.take' ?_;(first | (refine⟨undef,Or.inr ⟨by rfl,rfl⟩,?_⟩) | (apply Exists.intro;refine⟨Or.inl ⟨by rfl,?_⟩,?_⟩;(intro x hx;go_simp;first | done | with_reducible rfl)));(try simp only[Act.put,List.setIfInBounds_toArray,List.set_cons_zero,List.set_cons_succ]))
  | (refine HW.go (fun K hK=>?_);go_simp;(first
   | (go_at_call 73;(with_reducible refine(HWi.out _).mono ?_);rintro e wy ⟨pa,rfl,g2,hbx⟩;refine hK.out _ _ (q1.trans g2) ?_;intro _;replace q1:=q1.trans g2;clear hK K g2;replace hbx:=Yw.withID hbx)
   | (go_at_call 72;(with_reducible refine(HFi.out _ (HB1.out.2.trans q1) _ hbx).mono ?_);rintro e wy ⟨rfl,g2⟩;refine hK.out _ _ (q1.trans g2) ?_;intro _;replace q1:=q1.trans g2;clear hK K g2 hbx)
   | (refine hK.out _ _ q1 ?_;intro _;clear hK K))))
 refine HW.end_ ?_
 refine NoPanic.normal ?_
 have HN:=hD0 (HB1.out.2.trans q1)
 have hp1:=q1.at' HB1.out.1.1
 have hq1:=q1.at' HB1.out.1.2
 have c0:=Z2 (j:=0) hp1
 have c1:=Z2 (j:=1) hp1
 have c2:=Z2 (j:=2) hp1
 have c3:=Z2 (j:=3) hp1
 have hpl:=hlt hp1
 have d0:=Z2 (j:=0) hq1
 have d1:=Z2 (j:=1) hq1
 have d2:=Z2 (j:=2) hq1
 have d3:=Z2 (j:=3) hq1
 have d4:=Z2 (j:=4) hq1
 have fz:=fun k=>hfz (j:=k) hq1
 have hsl2:=hlt hq1
 rcases Z8j q id with⟨e1,hf⟩ | ⟨k,e1,hk,hf⟩
 ·obtain rfl:=hpx.symm.trans e1
  have HF:=hD0 (hV.symm.trans (show Z2y q id=.tuple #[Uk ⟨0,0,0,0,0⟩,.bool false] by unfold Z2y;rw[hf]))
  clear hpx hV e1 hf s0 s1 s2 s3 HB1 HFi HWi HAt HW1 q1 hp1 hq1
  go_wp2
  refine bodyPost_ret (v:=.tuple #[.agg #[.int .i64 0,.int .i64 0,.int .i64 0,.int .i64 0,.int .i64 0],.bool false]) (by simp only[results,results55];simp[go_sem, *]) rfl ⟨by rw[HF.out];rfl,?_⟩
  exact((((HN.out.st (Nat.le_succ _) _).st (Nat.le_succ _) _).st (Nat.le_succ _) _).st (Nat.le_succ _) _).st (Nat.le_succ _) _
 ·obtain rfl:=hpx.symm.trans e1
  rcases(HAt.out.nw HN.out) with⟨a',c',e3,⟨e4,_⟩ | ⟨b,o,e4,hc⟩⟩
  ·subst e4;simp at hk
  simp only[Value.slice.injEq,true_and] at e3
  obtain⟨rfl,rfl⟩:=e3
  subst e4
  have hce:=hc.cell k hk
  have dk:((k:Int)==-1)=false:=by simp
  have hki:(k:Int)<(q.length:Int):=by omega
  have HF:=hD0 (hV.symm.trans (show Z2y q id=.tuple #[Uk q[k],.bool true] by unfold Z2y;rw[hf]))
  clear hpx hV e1 hf s0 s1 s2 s3 HB1 HFi HWi HAt HW1 q1 hp1 hq1 hc
  generalize q[k]=R at *
  obtain⟨b0,b1,b2,b3,b4⟩:=R
  have m0:=hce 0 _ rfl
  have m1:=hce 1 _ rfl
  have m2:=hce 2 _ rfl
  have m3:=hce 3 _ rfl
  have m4:=hce 4 _ rfl
  simp only[Nat.add_zero] at m0
  clear hce
  go_wp2
  refine bodyPost_ret (v:=.tuple #[.agg #[.int .i64 b0,.int .i64 b1,.int .i64 b2,.int .i64 b3,.int .i64 b4],.bool true]) (by simp only[results,results55];simp[go_sem, *]) rfl ⟨by rw[HF.out];rfl,?_⟩
  exact((((HN.out.st (Nat.le_succ _) _).st (Nat.le_succ _) _).st (Nat.le_succ _) _).st (Nat.le_succ _) _).st (Nat.le_succ _) _
end Go.Proofs.Ytobnolgphljoeaa
namespace Go.Proofs
open _root_.Go.Proofs.Try
open Go.Shelf
def Try.lays189_ren:Go.Shelf.Ren:=⟨fun | 189=>48 | 125=>61 | 257=>68 | 128=>85 | 129=>86 | 294=>90 | 295=>91 | 296=>92 | 297=>93 | 298=>94 | 299=>95 | 216=>96 | 300=>97 | 301=>98 | 328=>108 | 329=>104 | 330=>105 | 331=>109 | 332=>110 | 215=>62 | 343=>113 | n=>n,fun | 28=>24 | 3=>3 | 46=>91 | 0=>0 | 51=>111 | 53=>113 | 4=>4 | 183=>105 | 182=>104 | 131=>51 | 5=>5 | 9=>9 | 218=>125 | 222=>129 | 228=>133 | 229=>134 | n=>n,fun | n=>n⟩
theorem Try.lays189:Go.Proofs.Lays.n189 prog Try.lays189_ren:={
 mixed:=by kernel_rfl
 f125:=func61.trans (congrArg some (by kernel_rfl))
 f128:=func85.trans (congrArg some (by kernel_rfl))
 f129:=func86.trans (congrArg some (by kernel_rfl))
 f189:=func48.trans (congrArg some (by kernel_rfl))
 f215:=func62.trans (congrArg some (by kernel_rfl))
 f216:=func96.trans (congrArg some (by kernel_rfl))
 f257:=func68.trans (congrArg some (by kernel_rfl))
 f294:=func90.trans (congrArg some (by kernel_rfl))
 f295:=func91.trans (congrArg some (by kernel_rfl))
 f296:=func92.trans (congrArg some (by kernel_rfl))
 f297:=func93.trans (congrArg some (by kernel_rfl))
 f298:=func94.trans (congrArg some (by kernel_rfl))
 f299:=func95.trans (congrArg some (by kernel_rfl))
 f300:=func97.trans (congrArg some (by kernel_rfl))
 f301:=func98.trans (congrArg some (by kernel_rfl))
 f328:=func108.trans (congrArg some (by kernel_rfl))
 f329:=func104.trans (congrArg some (by kernel_rfl))
 f330:=func105.trans (congrArg some (by kernel_rfl))
 f331:=func109.trans (congrArg some (by kernel_rfl))
 f332:=func110.trans (congrArg some (by kernel_rfl))
 f343:=func113.trans (congrArg some (by kernel_rfl))
 t0:=underlying0
 a0:=Try.isAgg0
 z0:=Try.sizeOf0
 v0:=Try.zeroValue0
 t3:=underlying3
 a3:=Try.isAgg3
 z3:=Try.sizeOf3
 v3:=Try.zeroValue3
 t4:=underlying4
 a4:=Try.isAgg4
 z4:=Try.sizeOf4
 v4:=Try.zeroValue4
 t5:=underlying5
 a5:=Try.isAgg5
 z5:=Try.sizeOf5
 v5:=Try.zeroValue5
 t9:=underlying9
 a9:=Try.isAgg9
 z9:=Try.sizeOf9
 v9:=Try.zeroValue9
 t28:=underlying24
 a28:=Try.isAgg24
 z28:=Try.sizeOf24
 v28:=Try.zeroValue24
 t46:=underlying91
 a46:=Try.isAgg91
 z46:=Try.sizeOf91
 v46:=Try.zeroValue91
 t51:=underlying111
 a51:=Try.isAgg111
 z51:=Try.sizeOf111
 v51:=Try.zeroValue111
 t53:=underlying113
 a53:=Try.isAgg113
 z53:=Try.sizeOf113
 v53:=Try.zeroValue113
 t131:=underlying51
 a131:=Try.isAgg51
 z131:=Try.sizeOf51
 v131:=Try.zeroValue51
 t182:=underlying104
 a182:=Try.isAgg104
 z182:=Try.sizeOf104
 v182:=Try.zeroValue104
 t183:=underlying105
 a183:=Try.isAgg105
 z183:=Try.sizeOf105
 v183:=Try.zeroValue105
 t218:=underlying125
 a218:=Try.isAgg125
 z218:=Try.sizeOf125
 v218:=Try.zeroValue125
 t222:=underlying129
 a222:=Try.isAgg129
 z222:=Try.sizeOf129
 v222:=Try.zeroValue129
 t228:=underlying133
 a228:=Try.isAgg133
 z228:=Try.sizeOf133
 v228:=Try.zeroValue133
 t229:=underlying134
 a229:=Try.isAgg134
 z229:=Try.sizeOf134
 v229:=Try.zeroValue134 }
open Go.Sort Go.RowKit in
theorem Try.slices_Sort_int(blk off cap:Nat)(zs:List Int)(w:World)(hH:Holds (Value.int .i64) w blk off zs.toArray)(hblk:blk<w.heap.size)(hsz:zs.length<4611686018427387904) :
  Calls prog 48 #[.slice (some ⟨blk,off,none⟩) zs.length cap] w fun e w' =>
   e=.returned (.tuple #[])∧∃n os,w'=grow (putRow (Value.int .i64) (Sort.ahead w n) blk off (zs.mergeSort fun x y=>decide (x≤y)).toArray) os:=Any.slices_Sort_int Try.lays189 blk off cap zs w hH hblk hsz
def Try.lays114_ren:Go.Shelf.Ren:=⟨fun | 114=>89 | n=>n,fun | 28=>24 | 3=>3 | 4=>4 | 9=>9 | 20=>20 | 0=>0 | n=>n,fun | n=>n⟩
theorem Try.lays114:Go.Proofs.Lays.n114 prog Try.lays114_ren:={
 mixed:=by kernel_rfl
 f114:=func89.trans (congrArg some (by kernel_rfl))
 t0:=underlying0
 a0:=Try.isAgg0
 z0:=Try.sizeOf0
 v0:=Try.zeroValue0
 t3:=underlying3
 a3:=Try.isAgg3
 z3:=Try.sizeOf3
 v3:=Try.zeroValue3
 t4:=underlying4
 a4:=Try.isAgg4
 z4:=Try.sizeOf4
 v4:=Try.zeroValue4
 t9:=underlying9
 a9:=Try.isAgg9
 z9:=Try.sizeOf9
 v9:=Try.zeroValue9
 t20:=underlying20
 a20:=Try.isAgg20
 z20:=Try.sizeOf20
 v20:=Try.zeroValue20
 t28:=underlying24
 a28:=Try.isAgg24
 z28:=Try.sizeOf24
 v28:=Try.zeroValue24 }
open Go.Lib in
theorem Try.slices_Min_int(b off n c:Nat)(zs:List Int)(w:World)(hn:0<n)(hz:n≤zs.length)(hbig:n≤9223372036854775807)(hc:∀j,j<zs.length→w.cell? ⟨b,off+j,none⟩=some (.int .i64 (zs.getD j 0))) :
  Calls prog 89 #[.slice (some ⟨b,off,none⟩) n c] w fun e w'=>e=.returned (.int .i64 (Lib.minOf (zs.take n)))∧w'=w:=Any.slices_Min_int Try.lays114 b off n c zs w hn hz hbig hc
def Try.lays112_ren:Go.Shelf.Ren:=⟨fun | 112=>46 | n=>n,fun | 28=>24 | 3=>3 | 4=>4 | 0=>0 | n=>n,fun | n=>n⟩
theorem Try.lays112:Go.Proofs.Lays.n112 prog Try.lays112_ren:={
 mixed:=by kernel_rfl
 f112:=func46.trans (congrArg some (by kernel_rfl))
 t0:=underlying0
 a0:=Try.isAgg0
 z0:=Try.sizeOf0
 v0:=Try.zeroValue0
 t3:=underlying3
 a3:=Try.isAgg3
 z3:=Try.sizeOf3
 v3:=Try.zeroValue3
 t4:=underlying4
 a4:=Try.isAgg4
 z4:=Try.sizeOf4
 v4:=Try.zeroValue4
 t28:=underlying24
 a28:=Try.isAgg24
 z28:=Try.sizeOf24
 v28:=Try.zeroValue24 }
open Go.RowKit Go.Lib Go.Sort in
theorem Try.slices_Reverse_int(blk off cap:Nat)(zs:List Int)(w:World)(hH:Holds (Value.int .i64) w blk off zs.toArray)(hsz:zs.length≤9223372036854775807) :
  Calls prog 46 #[.slice (some ⟨blk,off,none⟩) zs.length cap] w fun e w'=>e=.returned (.tuple #[])∧∃n,w'=putRow (Value.int .i64) (Sort.ahead w n) blk off zs.reverse.toArray:=Any.slices_Reverse_int Try.lays112 blk off cap zs w hH hsz
open Go.RowKit Go.Lib Go.Sort in
theorem Try.slices_Reverse_int_empty(a:Option Addr)(cap:Nat)(w:World) :
  Calls prog 46 #[.slice a 0 cap] w fun e w'=>e=.returned (.tuple #[])∧w'=w:=Any.slices_Reverse_int_empty Try.lays112 a cap w
def Try.laysNm220_ren:Go.Shelf.Ren:=⟨fun | 20=>59 | n=>n,fun | 22=>24 | 3=>3 | 4=>4 | 0=>0 | n=>n,fun | n=>n⟩
theorem Try.laysNm220:Go.Proofs.Lays2.n20 prog Try.laysNm220_ren:={
 mixed:=by kernel_rfl
 f20:=func59.trans (congrArg some (by kernel_rfl))
 t0:=underlying0
 a0:=Try.isAgg0
 z0:=Try.sizeOf0
 v0:=Try.zeroValue0
 t3:=underlying3
 a3:=Try.isAgg3
 z3:=Try.sizeOf3
 v3:=Try.zeroValue3
 t4:=underlying4
 a4:=Try.isAgg4
 z4:=Try.sizeOf4
 v4:=Try.zeroValue4
 t22:=underlying24
 a22:=Try.isAgg24
 z22:=Try.sizeOf24
 v22:=Try.zeroValue24
 i3:=by kernel_rfl }
open Go.RowKit Go.Lib Go.Sort in
theorem Try.slices_Compact_int(blk off cap:Nat)(zs:List Int)(w:World)(hH:Holds (Value.int .i64) w blk off zs.toArray)(hsz:zs.length≤9223372036854775807)(hcap:zs.length≤cap) :
  Calls prog 59 #[.slice (some ⟨blk,off,none⟩) zs.length cap] w fun e w'=>e=.returned (.slice (some ⟨blk,off,none⟩) (Lib.compact zs).length cap)∧∃q,w'=putRow (Value.int .i64) (Sort.ahead w q) blk off (Lib.compact zs++List.replicate (zs.length-(Lib.compact zs).length) 0).toArray:=Any.slices_Compact_int Try.laysNm220 blk off cap zs w hH hsz hcap
open Go.RowKit Go.Lib Go.Sort in
theorem Try.slices_Compact_int_empty(a:Option Addr)(cap:Nat)(w:World) :
  Calls prog 59 #[.slice a 0 cap] w fun e w'=>e=.returned (.slice a 0 cap)∧w'=w:=Any.slices_Compact_int_empty Try.laysNm220 a cap w
open Go.RowKit Go.Sort in
theorem Try.slices_Sort_int_none(p:Option Addr)(cap:Nat)(w:World) :
  Calls prog 48 #[.slice p 0 cap] w fun e w'=>e=.returned (.tuple #[])∧w'=w:=Any.slices_Sort_int_none Try.lays189 p cap w
end Go.Proofs
namespace Go.Proofs.Ytobnolgphljoeaa
open Go.RowKit _root_.Go.Proofs.Try
section
open Go.RowKit Go.Sort
theorem Z0b:∀ {a b:List Int},a.Pairwise (·<·)→b.Pairwise (·<·)→(∀x,x∈a↔x∈b)→a=b
 | [],b,_,_,h=>by
  cases b with
  | nil=>rfl
  | cons y b=>exact absurd ((h y).2 (by simp)) (by simp)
 | x::a,[],_,_,h=>absurd ((h x).1 (by simp)) (by simp)
 | x::a,y::b,ha,hb,h=>by
  rw[List.pairwise_cons] at ha hb
  have e:x=y:=by
   rcases List.mem_cons.1 ((h x).1 (by simp))with e | e
   ·exact e
   ·rcases List.mem_cons.1 ((h y).2 (by simp))with e2 | e2
    ·exact e2.symm
    ·have:=hb.1 x e;have:=ha.1 y e2;omega
  subst e
  congr 1
  refine Z0b ha.2 hb.2 (fun z=>?_)
  have hz:=h z
  rw[List.mem_cons,List.mem_cons] at hz
  constructor
  ·intro m
   rcases hz.1 (.inr m)with e | e
   ·have:=ha.1 z m;omega
   ·exact e
  ·intro m
   rcases hz.2 (.inr m)with e | e
   ·have:=hb.1 z m;omega
   ·exact e
theorem Z1r(l:List Int)(hs:l.Pairwise (·≤·)):∀m,m≤l.length→(Lib.compactUpTo l.toArray m).Pairwise (·<·)∧∀x,x∈Lib.compactUpTo l.toArray m↔∃j,j<m∧l.toArray[j]! = x
 | 0,_=>by
  have:Lib.compactUpTo l.toArray 0=[]:=rfl
  rw[this]
  exact⟨List.Pairwise.nil,fun x=>by simp⟩
 | m+1,hm=>by
  obtain⟨h1,h2⟩:=Z1r l hs m (by omega)
  have hle:∀i j,i<j→j<l.length→l.toArray[i]!≤l.toArray[j]!:=fun i j hij hj=>by
   have:=List.pairwise_iff_getElem.1 hs i j (by omega) hj hij
   simpa [hj,show i<l.length by omega] using this
  rw[Lib.compactUpTo_succ]
  by_cases k:Lib.keeps l.toArray m=true
  ·rw[if_pos k]
   refine⟨List.pairwise_append.2 ⟨h1,by simp,fun x hx y hy=>?_⟩,fun x=>?_⟩
   ·obtain rfl:=List.mem_singleton.1 hy
    obtain⟨j,hj,rfl⟩:=(h2 x).1 hx
    have hk:l.toArray[m]!≠l.toArray[m-1]!:=by
     unfold Lib.keeps at k
     simp at k
     rcases k with k | k
     ·omega
     ·simpa using k
    have a1:l.toArray[j]!≤l.toArray[m-1]!:=by
     by_cases e:j=m-1
     ·rw[e];exact Int.le_refl _
     ·exact hle j (m-1) (by omega) (by omega)
    have a2:=hle (m-1) m (by omega) (by omega)
    omega
   ·rw[List.mem_append,List.mem_singleton,h2 x]
    constructor
    ·rintro(⟨j,hj,e⟩ | e)
     ·exact⟨j,by omega,e⟩
     ·exact⟨m,by omega,e.symm⟩
    ·rintro⟨j,hj,e⟩
     by_cases q:j=m
     ·subst q;exact .inr e.symm
     ·exact .inl ⟨j,by omega,e⟩
  ·rw[if_neg k,List.append_nil]
   refine⟨h1,fun x=>?_⟩
   rw[h2 x]
   have hk:0<m∧l.toArray[m]! = l.toArray[m-1]!:=by
    unfold Lib.keeps at k
    simp at k
    refine⟨by omega,?_⟩
    have:=k.2
    simpa using this
   constructor
   ·rintro⟨j,hj,e⟩;exact⟨j,by omega,e⟩
   ·rintro⟨j,hj,e⟩
    by_cases q:j=m
    ·subst q;exact⟨j-1,by omega,by rw[←hk.2];exact e⟩
    ·exact⟨j,by omega,e⟩
theorem Z51(l:List Int)(j:Nat)(h:j<l.length):l.toArray[j]! = l[j]:=by simp[h]
theorem Z2v(l:List Int):(Lib.compact (l.mergeSort fun x y=>decide (x≤y))).Pairwise (·<·)∧∀x,x∈Lib.compact (l.mergeSort fun x y=>decide (x≤y))↔x∈l:=by
 have hs:(l.mergeSort fun x y=>decide (x≤y)).Pairwise (·≤·):=by
  have:=List.pairwise_mergeSort (le:=fun(x y:Int)=>decide (x≤y)) (fun a b c h1 h2=>by simp at *;omega) (fun a b=>by simp;omega) l
  exact this.imp (fun h=>by simpa using h)
 obtain⟨h1,h2⟩:=Z1r _ hs _ (Nat.le_refl _)
 refine⟨h1,fun x=>?_⟩
 have h3:=h2 x
 unfold Lib.compact
 rw[h3,←(List.mergeSort_perm l _).mem_iff (a:=x),List.mem_iff_getElem]
 constructor
 ·rintro⟨j,hj,e⟩
  exact⟨j,hj,(Z51 _ j hj).symm.trans e⟩
 ·rintro⟨j,hj,e⟩
  exact⟨j,hj,(Z51 _ j hj).trans e⟩
theorem Z8q(v:Value)(l:List Int)(w:World)(h:IS w v l)(hl:l.length≤1000) :
  Calls prog 48 #[v] w fun e w'=>e=.returned (.tuple #[])∧IS w' v (l.mergeSort fun x y=>decide (x≤y))∧Zd (fun i=>v.ownBlock=some i) w w':=by
 rcases h.2 with⟨rfl,e⟩ | ⟨g,cap,cur,rfl,_,hb,h1,h2,h3,ht⟩
 ·obtain rfl:=List.length_eq_zero_iff.1 e
  refine(Try.slices_Sort_int_none none 0 w).mono ?_
  rintro e w' ⟨rfl,h⟩
  exact⟨rfl,by simpa using IS.nil w',by first | (subst h;exact Zd.refl _ _) | (obtain⟨n,rfl⟩:=h;exact(Zd.refl _ _).drewN _)⟩
 ·rw[Nat.mul_one] at ht
  have hH:=holds_of_blockI hb ht
  have hlen:(l.mergeSort fun x y=>decide (x≤y)).length=l.length:=List.length_mergeSort _
  refine(Try.slices_Sort_int g 0 cap l w hH (hlt hb) (by omega)).mono ?_
  rintro e w' ⟨rfl,n,os,rfl⟩
  refine⟨rfl,?_,(Zd.refl _ w).grown (grownBy_sortedI _) (fun k hk=>.inl hk)⟩
  unfold IS
  rw[hlen]
  exact ownsRow_sortedI hlen (Nat.zero_le _) hb h1 h2 h3
theorem Z47(v:Value)(l:List Int)(w:World)(h:IS w v l)(hl:l.length≤1000) :
  Calls prog 59 #[v] w fun e w'=>∃v',e=.returned v'∧IS w' v' (Lib.compact l)∧v'.ownBlock=v.ownBlock∧Zd (fun i=>v.ownBlock=some i) w w':=by
 rcases h.2 with⟨rfl,e⟩ | ⟨g,cap,cur,rfl,_,hb,h1,h2,h3,ht⟩
 ·obtain rfl:=List.length_eq_zero_iff.1 e
  refine(Try.slices_Compact_int_empty none 0 w).mono ?_
  rintro e w' ⟨rfl,rfl⟩
  exact⟨_,rfl,IS.nil _,rfl,Zd.refl _ _⟩
 ·rw[Nat.mul_one] at ht
  have hH:=holds_of_blockI hb ht
  have hle:=Lib.compact_length_le l
  refine(Try.slices_Compact_int g 0 cap l w hH (by omega) h1).mono ?_
  rintro e w' ⟨rfl,n,rfl⟩
  have hg:=grownBy_sortedI (w:=w) (g:=g) (n:=n) (os:=#[]) (Lib.compact l++List.replicate (l.length-(Lib.compact l).length) 0).toArray
  have hh:=heap_sortedI (n:=n) (os:=#[]) (Lib.compact l++List.replicate (l.length-(Lib.compact l).length) 0).toArray hb
  rw[grow_empty] at hg hh
  refine⟨_,rfl,⟨by simp,.inr ⟨g,cap,_,rfl,Nat.zero_le _,hh,by omega,h2,by simp[putCells,h3],?_⟩⟩,rfl,(Zd.refl _ w).grown hg (fun k hk=>.inl hk)⟩
  have hlen:(Lib.compact l++List.replicate (l.length-(Lib.compact l).length) 0).length=l.length:=by simp;omega
  have hta:=take_putCellsI cur (Lib.compact l++List.replicate (l.length-(Lib.compact l).length) 0) (by rw[hlen];omega)
  have hta2:=congrArg (List.take (Lib.compact l).length) hta
  rw[List.take_take,hlen,Nat.min_eq_left hle,List.map_append,List.take_append_of_le_length (by simp)] at hta2
  rw[Nat.mul_one,hta2]
  exact List.take_of_length_le (by simp)
end
structure Zap(q q':List Rq)(T:List Int)(i:Nat):Prop where
 same:∀x∈T.drop i,Z4q q' x=Z4q q x
 rest:∀k:Nat,k<q.length→(k:Int)∉T.drop i→¬0<(Z4q q' k).sn
structure TOk(q:List Rq)(T:List Int):Prop where
 sorted:T.Pairwise (fun x y=>tC q x y<0)
 mem:∀x,x∈T↔∃k:Nat,k<q.length∧x=k∧0<(Z4q q x).sn
 nodup:T.Nodup
end Go.Proofs.Ytobnolgphljoeaa
