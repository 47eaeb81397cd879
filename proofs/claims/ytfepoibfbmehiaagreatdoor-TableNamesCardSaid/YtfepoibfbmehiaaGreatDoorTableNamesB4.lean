/- Texts merged: PhF, PhG -/
import Derived.Test.YtfepoibfbmehiaaGreatDoorTableNamesB3
import Derived.RangeFuncBox
import Derived.Deep.RegionLaw
set_option linter.unusedVariables false
set_option maxRecDepth 100000
set_option maxHeartbeats 16000000
namespace Go.Proofs.YtfepoibfbmehiaaGreatDoor
open Go.RowKit _root_.Go.Proofs.Tryz
open Go.Shelf
def Z2v(w:World)(hb ho g cap n i0:Nat)(l:List Int)(e:Ending)(w':World):Prop :=
 ∃(b:Bool) (l':List Int),e=.returned (.bool b)∧l'.Perm l∧(∀k,n≤k→Y2 l' k=Y2 l k)∧Zt w' hb ho g cap l'∧Z3 (fun k=>k=g) w w'∧((b=true∧IHp (Y2 l') n)∨(b=false∧l'=l∧ICh (Y2 l) n i0))
def Uo(w:World)(hb ho g cap n i0:Nat)(l:List Int)(i:Nat)(l':List Int)(wr:World):Prop :=
 l'.Perm l∧(∀x,n≤x→Y2 l' x=Y2 l x)∧IEx (Y2 l') n i∧IGr (Y2 l') n i∧Zt wr hb ho g cap l'∧Z3 (fun x=>x=g) w wr∧((i=i0∧l'=l)∨(i0<i∧IPa (Y2 l') i))
theorem Uo.ends{w:World}{hb ho g cap n i0:Nat}{l:List Int}{i:Nat}{l':List Int}{wr w1:World}(h:Uo w hb ho g cap n i0 l i l' wr)(k:Nw wr w1)(hc:ICh (Y2 l') n i) :
  (i=i0→Z2v w hb ho g cap n i0 l (.returned (.bool false)) w1)∧(i0<i→Z2v w hb ho g cap n i0 l (.returned (.bool true)) w1):=by
 obtain⟨h1,h2,h3,h4,h5,h6,h7⟩:=h
 refine⟨fun e=>?_,fun e=>?_⟩
 ·rcases h7 with⟨rfl,rfl⟩ | ⟨a,_⟩
  ·exact⟨false,l',rfl,h1,h2,h5.nw k,h6.trans (Z3.nw k),.inr ⟨rfl,rfl,hc⟩⟩
  ·omega
 ·rcases h7 with⟨a,_⟩ | ⟨_,hp⟩
  ·omega
  ·exact⟨true,l',rfl,h1,h2,h5.nw k,h6.trans (Z3.nw k),.inl ⟨rfl,IHp.of h3 hc hp⟩⟩
theorem Uo.step{w:World}{hb ho g cap n i0:Nat}{l:List Int}{i m:Nat}{l':List Int}{wr w1 w2:World}(h:Uo w hb ho g cap n i0 l i l' wr)(hl:l'.length=l.length)(hn:n≤l.length)
  (hm:(m-1)/2=i) (h0:0<m) (hmn:m<n) (hi:i0≤i) (hmin:∀k,0<k→k<n→(k-1)/2=i→Vo (Y2 l' m) (Y2 l' k)) (Z1:Z1f (Y2 l' m) (Y2 l' i)=true)
  (k:Nw wr w1) (h1:Zt w1 hb ho g cap l') (r:Yz w2 g cap (Z1e l' i m)) (t:Z3 (fun x=>x=g) w1 w2):Uo w hb ho g cap n i0 l m (Z1e l' i m) w2:=by
 obtain⟨a1,a2,a3,a4,a5,a6,a7⟩:=h
 obtain⟨u1,u2,u3⟩:=Zbn hm h0 a3 a4 hmin hmn Z1
 have hs:=Z44 l' (i:=i) (j:=m) (by omega) (by omega)
 refine⟨(Z34 l' (by omega) (by omega)).trans a1,fun x hx=>?_,?_,?_,h1.turned t r (Yp _ _ _),a6.trans ((Z3.nw k).trans t),.inr ⟨by omega,?_⟩⟩
 ·rw[Z6h l' (by omega) (by omega) (by omega) (by omega)];exact a2 x hx
 ·rw[hs];exact u1
 ·rw[hs];exact u2
 ·rw[hs];exact u3
theorem Zei(hb ho g cap:Nat)(l:List Int)(n i0:Nat)(hn:n≤l.length)(hsm:l.length≤1000000)(hi0:i0≤1000000)(w:World)(h:Zt w hb ho g cap l)(hex:IEx (Y2 l) n i0)(hgr:IGr (Y2 l) n i0) :
  Calls prog 116 #[.iface 94 (.pointer (some ⟨hb,ho,none⟩)),.int .i64 i0,.int .i64 n] w (Z2v w hb ho g cap n i0 l):=by
 have H0:=hD0 (aI0 h (aI0 hex hgr))
 clear h hex hgr
 have el:=Zd2
 have es:=Z7v
 go_enter func116,ntmps116
 go_wp2
 go_loopw [7] (fun vj wr=>∃(i:Nat) (l':List Int),vj=.int .i64 i∧i0≤i∧i≤1000000∧l'.length=l.length∧Hid (Uo w hb ho g cap n i0 l i l' wr)) (fun vj _=>n-(intOf vj).toNat)
 case atStart=>exact⟨i0,l,rfl,Nat.le_refl _,hi0,rfl,.refl _,fun _ _=>rfl,H0.out.2.1,H0.out.2.2,H0.out.1,Z3.refl _ _,.inl ⟨rfl,rfl⟩⟩
 case round =>
  obtain⟨i,l',rfl,hi,hib,hl,HR⟩:=hrel
  have hc:=HR.out.2.2.2.2.1.hd
  rw[hl] at hc
  have mL:=Z2e wr _ _ _ hc
  by_cases hA:n≤2*i+1
  ·have HE:=hD0 (HR.out.ends (Nw.refl _) (fun k h0 h1 h2=>by omega))
   have hA':(n:Int)≤2*(i:Int)+1:=by omega
   clear H0 mL hc
   rcases Nat.eq_or_lt_of_le hi with he | Z1
   ·have hq:decide ((i0:Int)<(i:Int))=false:=by simp;omega
    go_wp2
    go_ret
    exact HE.out.1 he.symm
   ·have hq:(i0:Int)<(i:Int):=by omega
    go_wp2
    go_ret
    exact HE.out.2 Z1
  ·have hA':¬(n:Int)≤2*(i:Int)+1:=by omega
   by_cases hB:2*i+2<n
   ·have hB':2*(i:Int)+1+1<(n:Int):=by omega
    have HL0:=Uv g cap l' (2*i+2) (2*i+1) (by omega) (by omega) wr HR.out.2.2.2.2.1.row
    rw[hl,show((2*i+2:Nat):Int)=2*(i:Int)+1+1 by omega,show((2*i+1:Nat):Int)=2*(i:Int)+1 by omega] at HL0
    clear H0
    cases hl0:Z1f (Y2 l' (2*i+2)) (Y2 l' (2*i+1)) with
    | true =>
     rw[hl0] at HL0
     have Hl0:=hD0 hl0
     clear hl0
     go_wp2_with fail
     refine HL0.mono ?_
     rintro e wP ⟨rfl,hgP⟩
     clear mL hc
     have HM:=hD0 (show ∀k,0<k→k<n→(k-1)/2=i→Vo (Y2 l' (2*i+2)) (Y2 l' k) from fun k h0 h1 h2=>by
      rcases(show k=2*i+1∨k=2*i+2 by omega)with rfl | rfl
      ·exact Z0f Hl0.out
      ·exact Vb _)
     have H1:=hD0 (HR.out.2.2.2.2.1.nw hgP)
     have HG:=hD0 hgP
     have hc1:=H1.out.hd
     rw[hl] at hc1
     have mL1:=Z2e wP _ _ _ hc1
     have HL:=Uv g cap l' (2*i+2) i (by omega) (by omega) wP H1.out.row
     rw[hl,show(((2*i+2:Nat)):Int)=2*(i:Int)+1+1 by omega] at HL
     clear hgP
     cases Z1:Z1f (Y2 l' (2*i+2)) (Y2 l' i) with
     | true =>
      rw[Z1] at HL
      have Hlt:=hD0 Z1
      clear Z1
      go_wp2_with fail
      refine HL.mono ?_
      rintro e w1 ⟨rfl,hg1⟩
      have h1:=H1.out.nw hg1
      have hc2:=h1.hd
      rw[hl] at hc2
      have mS:=Z2f w1 _ _ _ hc2
      have HS:=Z01 g cap l' i (2*i+2) (by omega) (by omega) w1 h1.row
      rw[hl,show(((2*i+2:Nat)):Int)=2*(i:Int)+1+1 by omega] at HS
      have H1':=hD0 h1
      have HG1:=hD0 (HG.out.trans hg1)
      clear h1 mL1 hc1 hg1
      go_wp2_with fail
      refine HS.mono ?_
      rintro e w2 ⟨rfl,hr2,ht2⟩
      have H2:=hD0 (HR.out.step (m:=2*i+2) hl hn (by omega) (by omega) (by omega) hi HM.out Hlt.out HG1.out H1'.out hr2 ht2)
      clear hr2 ht2 mS hc2
      go_wp2
      go_roundw
      case rel=>exact⟨2*i+2,Z1e l' i (2*i+2),by congr 1,by omega,by omega,by rw[Yp];exact hl,H2.out⟩
      case measure=>simp[intOf];omega
     | false =>
      rw[Z1] at HL
      have Hlt:=hD0 Z1
      clear Z1
      go_wp2_with fail
      refine HL.mono ?_
      rintro e w1 ⟨rfl,hg1⟩
      have HE:=hD0 (HR.out.ends (HG.out.trans hg1) (fun k h0 h1 h2=>Yt Hlt.out (HM.out k h0 h1 h2)))
      clear mL1 hc1 hg1
      rcases Nat.eq_or_lt_of_le hi with he | Z1
      ·have hq:decide ((i0:Int)<(i:Int))=false:=by simp;omega
       go_wp2
       go_ret
       exact HE.out.1 he.symm
      ·have hq:(i0:Int)<(i:Int):=by omega
       go_wp2
       go_ret
       exact HE.out.2 Z1
    | false =>
     rw[hl0] at HL0
     have Hl0:=hD0 hl0
     clear hl0
     go_wp2_with fail
     refine HL0.mono ?_
     rintro e wP ⟨rfl,hgP⟩
     clear mL hc
     have HM:=hD0 (show ∀k,0<k→k<n→(k-1)/2=i→Vo (Y2 l' (2*i+1)) (Y2 l' k) from fun k h0 h1 h2=>by
      rcases(show k=2*i+1∨k=2*i+2 by omega)with rfl | rfl
      ·exact Vb _
      ·exact Hl0.out)
     have H1:=hD0 (HR.out.2.2.2.2.1.nw hgP)
     have HG:=hD0 hgP
     have hc1:=H1.out.hd
     rw[hl] at hc1
     have mL1:=Z2e wP _ _ _ hc1
     have HL:=Uv g cap l' (2*i+1) i (by omega) (by omega) wP H1.out.row
     rw[hl,show(((2*i+1:Nat)):Int)=2*(i:Int)+1 by omega] at HL
     clear hgP
     cases Z1:Z1f (Y2 l' (2*i+1)) (Y2 l' i) with
     | true =>
      rw[Z1] at HL
      have Hlt:=hD0 Z1
      clear Z1
      go_wp2_with fail
      refine HL.mono ?_
      rintro e w1 ⟨rfl,hg1⟩
      have h1:=H1.out.nw hg1
      have hc2:=h1.hd
      rw[hl] at hc2
      have mS:=Z2f w1 _ _ _ hc2
      have HS:=Z01 g cap l' i (2*i+1) (by omega) (by omega) w1 h1.row
      rw[hl,show(((2*i+1:Nat)):Int)=2*(i:Int)+1 by omega] at HS
      have H1':=hD0 h1
      have HG1:=hD0 (HG.out.trans hg1)
      clear h1 mL1 hc1 hg1
      go_wp2_with fail
      refine HS.mono ?_
      rintro e w2 ⟨rfl,hr2,ht2⟩
      have H2:=hD0 (HR.out.step (m:=2*i+1) hl hn (by omega) (by omega) (by omega) hi HM.out Hlt.out HG1.out H1'.out hr2 ht2)
      clear hr2 ht2 mS hc2
      go_wp2
      go_roundw
      case rel=>exact⟨2*i+1,Z1e l' i (2*i+1),by congr 1,by omega,by omega,by rw[Yp];exact hl,H2.out⟩
      case measure=>simp[intOf];omega
     | false =>
      rw[Z1] at HL
      have Hlt:=hD0 Z1
      clear Z1
      go_wp2_with fail
      refine HL.mono ?_
      rintro e w1 ⟨rfl,hg1⟩
      have HE:=hD0 (HR.out.ends (HG.out.trans hg1) (fun k h0 h1 h2=>Yt Hlt.out (HM.out k h0 h1 h2)))
      clear mL1 hc1 hg1
      rcases Nat.eq_or_lt_of_le hi with he | Z1
      ·have hq:decide ((i0:Int)<(i:Int))=false:=by simp;omega
       go_wp2
       go_ret
       exact HE.out.1 he.symm
      ·have hq:(i0:Int)<(i:Int):=by omega
       go_wp2
       go_ret
       exact HE.out.2 Z1
   ·have hB':¬2*(i:Int)+1+1<(n:Int):=by omega
    clear H0 mL hc
    have hgP:=Nw.refl wr
    have HM:=hD0 (show ∀k,0<k→k<n→(k-1)/2=i→Vo (Y2 l' (2*i+1)) (Y2 l' k) from fun k h0 h1 h2=>by
     obtain rfl:k=2*i+1:=by omega
     exact Vb _)
    have H1:=hD0 (HR.out.2.2.2.2.1.nw hgP)
    have HG:=hD0 hgP
    have hc1:=H1.out.hd
    rw[hl] at hc1
    have mL1:=Z2e wr _ _ _ hc1
    have HL:=Uv g cap l' (2*i+1) i (by omega) (by omega) wr H1.out.row
    rw[hl,show(((2*i+1:Nat)):Int)=2*(i:Int)+1 by omega] at HL
    clear hgP
    cases Z1:Z1f (Y2 l' (2*i+1)) (Y2 l' i) with
    | true =>
     rw[Z1] at HL
     have Hlt:=hD0 Z1
     clear Z1
     go_wp2_with fail
     refine HL.mono ?_
     rintro e w1 ⟨rfl,hg1⟩
     have h1:=H1.out.nw hg1
     have hc2:=h1.hd
     rw[hl] at hc2
     have mS:=Z2f w1 _ _ _ hc2
     have HS:=Z01 g cap l' i (2*i+1) (by omega) (by omega) w1 h1.row
     rw[hl,show(((2*i+1:Nat)):Int)=2*(i:Int)+1 by omega] at HS
     have H1':=hD0 h1
     have HG1:=hD0 (HG.out.trans hg1)
     clear h1 mL1 hc1 hg1
     go_wp2_with fail
     refine HS.mono ?_
     rintro e w2 ⟨rfl,hr2,ht2⟩
     have H2:=hD0 (HR.out.step (m:=2*i+1) hl hn (by omega) (by omega) (by omega) hi HM.out Hlt.out HG1.out H1'.out hr2 ht2)
     clear hr2 ht2 mS hc2
     go_wp2
     go_roundw
     case rel=>exact⟨2*i+1,Z1e l' i (2*i+1),by congr 1,by omega,by omega,by rw[Yp];exact hl,H2.out⟩
     case measure=>simp[intOf];omega
    | false =>
     rw[Z1] at HL
     have Hlt:=hD0 Z1
     clear Z1
     go_wp2_with fail
     refine HL.mono ?_
     rintro e w1 ⟨rfl,hg1⟩
     have HE:=hD0 (HR.out.ends (HG.out.trans hg1) (fun k h0 h1 h2=>Yt Hlt.out (HM.out k h0 h1 h2)))
     clear mL1 hc1 hg1
     rcases Nat.eq_or_lt_of_le hi with he | Z1
     ·have hq:decide ((i0:Int)<(i:Int))=false:=by simp;omega
      go_wp2
      go_ret
      exact HE.out.1 he.symm
     ·have hq:(i0:Int)<(i:Int):=by omega
      go_wp2
      go_ret
      exact HE.out.2 Z1
def Z6m(x:Int):List Value:=[.int .i64 x]
structure IHv(w:World)(hb ho:Nat)(v:Value)(l:List Int):Prop where
 hd:w.cell? ⟨hb,ho,none⟩=some v
 hf:w.frozen? ⟨hb,ho,none⟩=false
 row:IS w v l
 ne:v.ownBlock≠some hb
theorem IHv.lt{w:World}{hb ho:Nat}{v:Value}{l:List Int}(h:IHv w hb ho v l):hb<w.heap.size:=World.block_lt_of_cell? _ ⟨hb,ho,none⟩ h.hd
theorem Zt.v{w:World}{hb ho g cap:Nat}{l:List Int}(h:Zt w hb ho g cap l):IHv w hb ho (.slice (some ⟨g,0,none⟩) l.length cap) l :=
 ⟨h.hd,h.hf,h.row,fun e=>h.ne (by simp[Value.ownBlock] at e;exact e.symm)⟩
theorem IHv.form{w:World}{hb ho:Nat}{v:Value}{l:List Int}(h:IHv w hb ho v l):(v=.slice none 0 0∧l=[])∨∃g cap,v=.slice (some ⟨g,0,none⟩) l.length cap∧Zt w hb ho g cap l:=by
 rcases h.row.2 with⟨rfl,h0⟩ | ⟨g,cap,cur,rfl,_⟩
 ·exact .inl ⟨rfl,List.length_eq_zero_iff.1 h0⟩
 ·exact .inr ⟨g,cap,rfl,h.hd,h.hf,h.row,fun e=>h.ne (by simp[Value.ownBlock,e])⟩
theorem IHv.tch{S:Nat→Prop}{w w':World}{hb ho:Nat}{v:Value}{l:List Int}(h:IHv w hb ho v l)(k:Z3 S w w')(h1:¬S hb)(h2:∀g,v.ownBlock=some g→¬S g):IHv w' hb ho v l:=by
 rcases h.form with⟨rfl,rfl⟩ | ⟨g,cap,rfl,hp⟩
 ·exact⟨(k.cell h.lt h1).trans h.hd,(k.froz h.lt h1).trans h.hf,World.ownsRow_nil _ _ _ _,h.ne⟩
 ·exact(hp.tch k h1 (h2 g rfl)).v
theorem IHv.nw{w w':World}{hb ho:Nat}{v:Value}{l:List Int}(h:IHv w hb ho v l)(k:Nw w w'):IHv w' hb ho v l:=h.tch (Z3.nw (S:=fun _=>False) k) (fun e=>e) (fun _ _ e=>e)
def IOf(hb:Nat)(v:Value):Nat→Prop:=fun k=>k=hb∨v.ownBlock=some k
def Zav(w:World)(hb ho:Nat)(v:Value)(l:List Int)(w':World):Prop :=
 ∃g' cap',Zt w' hb ho g' cap' l∧(some g'=v.ownBlock∨w.heap.size≤g')∧Z3 (IOf hb v) w w'∧Yv hb ho w w'
theorem Zbl(t ty:TypeId)(ht:prog.underlying t=some (.slice 3))(w W:World)(hb ho:Nat)(v:Value)(l:List Int)(x:Int)(h:IHv w hb ho v l)(hsm:l.length≤1000000)
  (nwW:Nw w W) (hsz:W.heap.size=w.heap.size+1) (c:∀j u,(Z6m x)[j]?=some u→W.cell? ((⟨w.heap.size,0,none⟩:Addr).add j)=some u) :
  ∃g' cap' w1,(Builtin.append_ #[t,t] ty #[v,.slice (some ⟨w.heap.size,0,none⟩) 1 1]).run prog W=.ok (.slice (some ⟨g',0,none⟩) (l.length+1) cap') w1 ∧
   w1.cell? ⟨hb,ho,none⟩=some v∧w1.frozen? ⟨hb,ho,none⟩=false∧Zav w hb ho v (l++[x]) (w1.setCell ⟨hb,ho,none⟩ (.slice (some ⟨g',0,none⟩) (l.length+1) cap')):=by
 have Z1:=h.lt
 have hv:=h.nw nwW
 obtain⟨i0,hi,hz0,hz1,hz2⟩:=info_parts Znb
 obtain⟨v',w1,hr,ho1,hg1,hp1⟩:=Vc (P:=prog) W 0 t ty 3 i0 _ 1 8 ht hi hz0 hz1 hz2 rfl (by decide) v l.length (l.map (Value.int .i64)) hv.row
  ⟨w.heap.size,0,none⟩ 1 1 (Z6m x) rfl c (by simp[Z6m,Value.oneCell']) (by unfold maxLen;omega) (by omega) (Nat.zero_le _)
 obtain⟨g',cap',rfl⟩:=ownsRow_succ ho1
 have hne:some hb≠v.ownBlock:=fun e=>h.ne e.symm
 have hg'ne:hb≠g':=by
  intro e
  subst e
  rcases hp1 with e | e
  ·exact hne e
  ·simp[Value.ownBlock] at e;omega
 have Z0:=hg1.cell hv.hd hne
 have hfroz:w1.frozen? ⟨hb,ho,none⟩=false:=(World.frozen?_of_block (hg1.block hb (by omega) hne)).trans hv.hf
 refine⟨g',cap',w1,hr,Z0,hfroz,g',cap',⟨?_,?_,?_,hg'ne⟩,?_,?_,?_⟩
 ·rw[List.length_append];exact World.cell?_setCell_same _ _ _ Z0
 ·rw[World.frozen?_setCell];exact hfroz
 ·have hrow:Yz w1 g' cap' (l++[x]):=by
   unfold Yz IS
   rw[List.length_append,List.map_append]
   exact ho1
  exact Z35 hrow (Below.heap_setCell _ _ _ _ (fun e=>hg'ne e.symm))
 ·rcases hp1 with e | e
  ·exact .inl e
  ·refine .inr ?_
   simp[Value.ownBlock] at e;omega
 ·have t1:Z3 (IOf hb v) w w1:=(Z3.nw nwW).grown hg1 (fun k e=>.inl (.inr e))
  exact t1.set (.inl (.inl rfl)) _
 ·refine Yv.trans (b:=w1) (Yv.trans (b:=W) (Yv.tch (Z3.nw (S:=fun _=>False) nwW) Z1 (fun e=>e)) ?_) (Yv.set w1 _)
  exact fun o _=>⟨World.cell?_of_block (hg1.block hb (by omega) hne),World.frozen?_of_block (hg1.block hb (by omega) hne)⟩
theorem Zbm(w:World)(x:Int)(T:TypeId):∀j u,(Z6m x)[j]?=some u→(w.alloc (.cells #[.int .i64 x] T)).cell? ((⟨w.heap.size,0,none⟩:Addr).add j)=some u:=by
 intro j u hu
 match j,hu with
 | 0,hu=>simp[Z6m] at hu;subst hu;simp[go_sem]
 | j+1,hu=>simp[Z6m] at hu
theorem Zeh(t ty:TypeId)(ht:prog.underlying t=some (.slice 3))(w W:World)(hb ho:Nat)(v:Value)(l:List Int)(x:Int)(h:IHv w hb ho v l)(hsm:l.length≤1000000)
  (hW:(w.alloc (.cells #[.int .i64 x] 3)).drew=W) :
  ∃g' cap' w1,(Builtin.append_ #[t,t] ty #[v,.slice (some ⟨w.heap.size,0,none⟩) 1 1]).run prog W=.ok (.slice (some ⟨g',0,none⟩) (l.length+1) cap') w1 ∧
   w1.cell? ⟨hb,ho,none⟩=some v∧w1.frozen? ⟨hb,ho,none⟩=false∧Zav w hb ho v (l++[x]) (w1.setCell ⟨hb,ho,none⟩ (.slice (some ⟨g',0,none⟩) (l.length+1) cap')):=by
 subst hW
 exact Zbl t ty ht w _ hb ho v l x h hsm (((Nw.refl w).alloc _).drewN 1) (by simp) (Zbm w x _)
theorem Z80{P:Program}{ops:Array Oper}{o:Oper}{a:Act}{w:World}{K:Act→World→Prop}{Q:Exit→Act→World→Prop}{E:Prop}(hgd:o.guard=none)(s x:Operand)(t:TypeId)
  (ho:o.op=.call { callee:=.builtin .append,args:=#[s,x],argTypes:=#[t,t] }) (v u v':Value) (w':World) (hs:a.eval s=v) (hx:a.eval x=u) (hr:(Builtin.append_ #[t,t] o.type #[v,u]).run P w=.ok v' w')
  (h:K (a.put o.dst v') w'):if Region.wanted o (yielded ops a.tmps)=true then Oper.wp P o a w K Q else E:=by
 have hw:Region.wanted o (yielded ops a.tmps)=true:=by simp[Region.wanted,hgd]
 rw[if_pos hw]
 unfold Oper.wp execOp
 simp only[ho,resolve,invoke,builtin,Sem.run_bind,Sem.run_pure,Result.andThen_ok,List.map_toArray,List.map_cons,List.map_nil,hs,hx,hr]
 exact h
theorem Z6g(y:Value)(w:World):Sem.run prog (Instr.typeAssert (.iface 3 y) 20 3 false) w=.ok y w:=by
 have hu:=underlying3
 simp[Instr.typeAssert,go_sem]
theorem Zbo(hb ho:Nat)(v:Value)(l:List Int)(x:Int)(w:World)(h:IHv w hb ho v l)(hsm:l.length≤1000000) :
  Calls prog 206 #[.pointer (some ⟨hb,ho,none⟩),.iface 3 (.int .i64 x)] w fun e w'=>e=.returned (.tuple #[])∧Zav w hb ho v (l++[x]) w':=by
 obtain⟨W,hW⟩:∃W,(w.alloc (.cells #[.int .i64 x] 3)).drew=W:=⟨_,rfl⟩
 obtain⟨g',cap',w1,hr,hc,hf,hp⟩:=Zeh 88 88 underlying88 w W hb ho v l x h hsm hW
 have HP:=hD0 hp
 have hd:=h.hd
 have Z1:=h.lt
 have vf:=h.form
 clear hp h
 have ta:=Z6g
 generalize l.length=N at *
 have HA:=hD0 hr
 clear hr
 subst hW
 rcases vf with⟨rfl,_⟩ | ⟨g,cap,rfl,_⟩
 all_goals
  go_enter func206,ntmps206
  go_wp2
  go_region_law (refine Z80 rfl (.tmp 8) (.tmp 11) 88 rfl _ _ _ _ rfl rfl HA.out ?_)
  go_wp2
 all_goals
  go_end0
  exact⟨rfl,HP.out⟩
theorem Z9l{w:World}{hb ho g cap:Nat}{l:List Int}{x:Int}(h:Zt w hb ho g cap (l++[x])) :
  Zt (w.setCell ⟨hb,ho,none⟩ (.slice (some ⟨g,0,none⟩) l.length cap)) hb ho g cap l∧Z3 (fun k=>k=hb) w (w.setCell ⟨hb,ho,none⟩ (.slice (some ⟨g,0,none⟩) l.length cap))∧Yv hb ho w (w.setCell ⟨hb,ho,none⟩ (.slice (some ⟨g,0,none⟩) l.length cap)):=by
 have h1:Zt (w.setCell ⟨hb,ho,none⟩ (.slice (some ⟨g,0,none⟩) l.length cap)) hb ho g cap l:=by
  refine⟨World.cell?_setCell_same _ _ _ h.hd,by rw[World.frozen?_setCell];exact h.hf,?_,h.ne⟩
  have hr:=h.row
  unfold Yz at hr
  unfold IS at hr
  rw[List.length_append,List.map_append] at hr
  have hp:=ownsRow_pop (xs:=l.map (Value.int .i64)) (last:=[x].map (Value.int .i64)) (by simp) hr
  exact Z35 (w:=w) hp (Below.heap_setCell _ _ _ _ (fun e=>h.ne e.symm))
 exact⟨h1,Z3.set (S:=fun k=>k=hb) (p:=⟨hb,ho,none⟩) (Z3.refl _ w) (.inl rfl) _,Yv.set w _⟩
theorem Zek(hb ho g cap:Nat)(l:List Int)(x:Int)(w:World)(h:Zt w hb ho g cap (l++[x])) :
  Calls prog 205 #[.pointer (some ⟨hb,ho,none⟩)] w fun e w'=>e=.returned (.iface 3 (.int .i64 x))∧Zt w' hb ho g cap l∧Z3 (fun k=>k=hb) w w'∧Yv hb ho w w':=by
 have HW:=hD0 (Z9l h)
 have hm:=Nat.le_trans (V1 h.row).1 (V1 h.row).2
 unfold maxLen at hm
 have hcap:=(V1 h.row).1
 have c0:=Z2g h.row l.length (by simp)
 have hx:Y2 (l++[x]) l.length=x:=by simp[Y2,List.getD]
 rw[hx] at c0
 have hd:=h.hd
 have hf:=h.hf
 have Z1:=h.lt
 rw[List.length_append] at hd hm hcap
 simp only[List.length_cons,List.length_nil,Nat.zero_add] at hd hm hcap
 generalize l.length=N at *
 clear h hx
 go_enter func205,ntmps205
 go_wp2
 go_ret
 exact⟨rfl,HW.out⟩
end Go.Proofs.YtfepoibfbmehiaaGreatDoor
