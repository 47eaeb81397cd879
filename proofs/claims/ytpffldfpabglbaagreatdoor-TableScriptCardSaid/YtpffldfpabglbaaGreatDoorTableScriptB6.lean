/- Texts merged: PhF, PhG -/
import Derived.Test.YtpffldfpabglbaaGreatDoorTableScriptB5
import Derived.RangeFuncBox
import Derived.Deep.RegionLaw
set_option linter.unusedVariables false
set_option maxRecDepth 100000
set_option maxHeartbeats 16000000
namespace Go.Proofs.YtpffldfpabglbaaGreatDoor
open Go.RowKit _root_.Go.Proofs.Tryz
open Go.Shelf
def Z53(w:World)(hb ho g cap n i0:Nat)(l:List Int)(e:Ending)(w':World):Prop :=
 ∃(b:Bool) (l':List Int),e=.returned (.bool b)∧l'.Perm l∧(∀k,n≤k→V1 l' k=V1 l k)∧Ym w' hb ho g cap l'∧Z4 (fun k=>k=g) w w'∧((b=true∧IHp (V1 l') n)∨(b=false∧l'=l∧ICh (V1 l) n i0))
def Z19(w:World)(hb ho g cap n i0:Nat)(l:List Int)(i:Nat)(l':List Int)(wr:World):Prop :=
 l'.Perm l∧(∀x,n≤x→V1 l' x=V1 l x)∧IEx (V1 l') n i∧IGr (V1 l') n i∧Ym wr hb ho g cap l'∧Z4 (fun x=>x=g) w wr∧((i=i0∧l'=l)∨(i0<i∧IPa (V1 l') i))
theorem Z19.ends{w:World}{hb ho g cap n i0:Nat}{l:List Int}{i:Nat}{l':List Int}{wr w1:World}(h:Z19 w hb ho g cap n i0 l i l' wr)(k:Nw wr w1)(hc:ICh (V1 l') n i) :
  (i=i0→Z53 w hb ho g cap n i0 l (.returned (.bool false)) w1)∧(i0<i→Z53 w hb ho g cap n i0 l (.returned (.bool true)) w1):=by
 obtain⟨h1,h2,h3,h4,h5,h6,h7⟩:=h
 refine⟨fun e=>?_,fun e=>?_⟩
 ·rcases h7 with⟨rfl,rfl⟩ | ⟨a,_⟩
  ·exact⟨false,l',rfl,h1,h2,h5.nw k,h6.trans (Z4.nw k),.inr ⟨rfl,rfl,hc⟩⟩
  ·omega
 ·rcases h7 with⟨a,_⟩ | ⟨_,hp⟩
  ·omega
  ·exact⟨true,l',rfl,h1,h2,h5.nw k,h6.trans (Z4.nw k),.inl ⟨rfl,IHp.of h3 hc hp⟩⟩
theorem Z19.step{w:World}{hb ho g cap n i0:Nat}{l:List Int}{i m:Nat}{l':List Int}{wr w1 w2:World}(h:Z19 w hb ho g cap n i0 l i l' wr)(hl:l'.length=l.length)(hn:n≤l.length)
  (hm:(m-1)/2=i) (h0:0<m) (hmn:m<n) (hi:i0≤i) (hmin:∀k,0<k→k<n→(k-1)/2=i→Z04 (V1 l' m) (V1 l' k)) (hlt:Z3a (V1 l' m) (V1 l' i)=true)
  (k:Nw wr w1) (h1:Ym w1 hb ho g cap l') (r:U8 w2 g cap (Z39 l' i m)) (t:Z4 (fun x=>x=g) w1 w2):Z19 w hb ho g cap n i0 l m (Z39 l' i m) w2:=by
 obtain⟨a1,a2,a3,a4,a5,a6,a7⟩:=h
 obtain⟨u1,u2,u3⟩:=Zfi hm h0 a3 a4 hmin hmn hlt
 have hs:=Z6h l' (i:=i) (j:=m) (by omega) (by omega)
 refine⟨(Z5f l' (by omega) (by omega)).trans a1,fun x hx=>?_,?_,?_,h1.turned t r (Vt _ _ _),a6.trans ((Z4.nw k).trans t),.inr ⟨by omega,?_⟩⟩
 ·rw[Z95 l' (by omega) (by omega) (by omega) (by omega)];exact a2 x hx
 ·rw[hs];exact u1
 ·rw[hs];exact u2
 ·rw[hs];exact u3
theorem Zjv(hb ho g cap:Nat)(l:List Int)(n i0:Nat)(hn:n≤l.length)(hsm:l.length≤1000000)(hi0:i0≤1000000)(w:World)(h:Ym w hb ho g cap l)(hex:IEx (V1 l) n i0)(hgr:IGr (V1 l) n i0) :
  Calls prog 214 #[.iface 133 (.pointer (some ⟨hb,ho,none⟩)),.int .i64 i0,.int .i64 n] w (Z53 w hb ho g cap n i0 l):=by
 have H0:=hD0 (aI0 h (aI0 hex hgr))
 clear h hex hgr
 have el:=Zhq
 have es:=Zav
 go_enter func214,ntmps214
 go_wp2
 go_loopw [7] (fun vj wr=>∃(i:Nat) (l':List Int),vj=.int .i64 i∧i0≤i∧i≤1000000∧l'.length=l.length∧Hid (Z19 w hb ho g cap n i0 l i l' wr)) (fun vj _=>n-(intOf vj).toNat)
 case atStart=>exact⟨i0,l,rfl,Nat.le_refl _,hi0,rfl,.refl _,fun _ _=>rfl,H0.out.2.1,H0.out.2.2,H0.out.1,Z4.refl _ _,.inl ⟨rfl,rfl⟩⟩
 case round =>
  obtain⟨i,l',rfl,hi,hib,hl,HR⟩:=hrel
  have hc:=HR.out.2.2.2.2.1.hd
  rw[hl] at hc
  have mL:=Z4b wr _ _ _ hc
  by_cases hA:n≤2*i+1
  ·have HE:=hD0 (HR.out.ends (Nw.refl _) (fun k h0 h1 h2=>by omega))
   have hA':(n:Int)≤2*(i:Int)+1:=by omega
   clear H0 mL hc
   rcases Nat.eq_or_lt_of_le hi with he | hlt
   ·have hq:decide ((i0:Int)<(i:Int))=false:=by simp;omega
    go_wp2
    go_ret
    exact HE.out.1 he.symm
   ·have hq:(i0:Int)<(i:Int):=by omega
    go_wp2
    go_ret
    exact HE.out.2 hlt
  ·have hA':¬(n:Int)≤2*(i:Int)+1:=by omega
   by_cases hB:2*i+2<n
   ·have hB':2*(i:Int)+1+1<(n:Int):=by omega
    have HL0:=Z1f g cap l' (2*i+2) (2*i+1) (by omega) (by omega) wr HR.out.2.2.2.2.1.row
    rw[hl,show((2*i+2:Nat):Int)=2*(i:Int)+1+1 by omega,show((2*i+1:Nat):Int)=2*(i:Int)+1 by omega] at HL0
    clear H0
    cases hl0:Z3a (V1 l' (2*i+2)) (V1 l' (2*i+1)) with
    | true =>
     rw[hl0] at HL0
     have Hl0:=hD0 hl0
     clear hl0
     go_wp2_with fail
     refine HL0.mono ?_
     rintro e wP ⟨rfl,hgP⟩
     clear mL hc
     have HM:=hD0 (show ∀k,0<k→k<n→(k-1)/2=i→Z04 (V1 l' (2*i+2)) (V1 l' k) from fun k h0 h1 h2=>by
      rcases(show k=2*i+1∨k=2*i+2 by omega)with rfl | rfl
      ·exact Z1v Hl0.out
      ·exact Uj _)
     have H1:=hD0 (HR.out.2.2.2.2.1.nw hgP)
     have HG:=hD0 hgP
     have hc1:=H1.out.hd
     rw[hl] at hc1
     have mL1:=Z4b wP _ _ _ hc1
     have HL:=Z1f g cap l' (2*i+2) i (by omega) (by omega) wP H1.out.row
     rw[hl,show(((2*i+2:Nat)):Int)=2*(i:Int)+1+1 by omega] at HL
     clear hgP
     cases hlt:Z3a (V1 l' (2*i+2)) (V1 l' i) with
     | true =>
      rw[hlt] at HL
      have Hlt:=hD0 hlt
      clear hlt
      go_wp2_with fail
      refine HL.mono ?_
      rintro e w1 ⟨rfl,hg1⟩
      have h1:=H1.out.nw hg1
      have hc2:=h1.hd
      rw[hl] at hc2
      have mS:=Z4c w1 _ _ _ hc2
      have HS:=Z1h g cap l' i (2*i+2) (by omega) (by omega) w1 h1.row
      rw[hl,show(((2*i+2:Nat)):Int)=2*(i:Int)+1+1 by omega] at HS
      have H1':=hD0 h1
      have HG1:=hD0 (HG.out.trans hg1)
      clear h1 mL1 hc1 hg1
      go_wp2_with fail
      refine HS.mono ?_
      rintro e w2 ⟨rfl,hr2,ht2⟩
      have H2:=hD0 (HR.out.step (m:=2*i+2) hl hn (by omega) (by omega) (by omega) hi HM.out Hlt.out HG1.out H1'.out hr2 ht2)
      clear hr2 ht2 mS hc2
      go_wp2
      go_roundw
      case rel=>exact⟨2*i+2,Z39 l' i (2*i+2),by congr 1,by omega,by omega,by rw[Vt];exact hl,H2.out⟩
      case measure=>simp[intOf];omega
     | false =>
      rw[hlt] at HL
      have Hlt:=hD0 hlt
      clear hlt
      go_wp2_with fail
      refine HL.mono ?_
      rintro e w1 ⟨rfl,hg1⟩
      have HE:=hD0 (HR.out.ends (HG.out.trans hg1) (fun k h0 h1 h2=>Vx Hlt.out (HM.out k h0 h1 h2)))
      clear mL1 hc1 hg1
      rcases Nat.eq_or_lt_of_le hi with he | hlt
      ·have hq:decide ((i0:Int)<(i:Int))=false:=by simp;omega
       go_wp2
       go_ret
       exact HE.out.1 he.symm
      ·have hq:(i0:Int)<(i:Int):=by omega
       go_wp2
       go_ret
       exact HE.out.2 hlt
    | false =>
     rw[hl0] at HL0
     have Hl0:=hD0 hl0
     clear hl0
     go_wp2_with fail
     refine HL0.mono ?_
     rintro e wP ⟨rfl,hgP⟩
     clear mL hc
     have HM:=hD0 (show ∀k,0<k→k<n→(k-1)/2=i→Z04 (V1 l' (2*i+1)) (V1 l' k) from fun k h0 h1 h2=>by
      rcases(show k=2*i+1∨k=2*i+2 by omega)with rfl | rfl
      ·exact Uj _
      ·exact Hl0.out)
     have H1:=hD0 (HR.out.2.2.2.2.1.nw hgP)
     have HG:=hD0 hgP
     have hc1:=H1.out.hd
     rw[hl] at hc1
     have mL1:=Z4b wP _ _ _ hc1
     have HL:=Z1f g cap l' (2*i+1) i (by omega) (by omega) wP H1.out.row
     rw[hl,show(((2*i+1:Nat)):Int)=2*(i:Int)+1 by omega] at HL
     clear hgP
     cases hlt:Z3a (V1 l' (2*i+1)) (V1 l' i) with
     | true =>
      rw[hlt] at HL
      have Hlt:=hD0 hlt
      clear hlt
      go_wp2_with fail
      refine HL.mono ?_
      rintro e w1 ⟨rfl,hg1⟩
      have h1:=H1.out.nw hg1
      have hc2:=h1.hd
      rw[hl] at hc2
      have mS:=Z4c w1 _ _ _ hc2
      have HS:=Z1h g cap l' i (2*i+1) (by omega) (by omega) w1 h1.row
      rw[hl,show(((2*i+1:Nat)):Int)=2*(i:Int)+1 by omega] at HS
      have H1':=hD0 h1
      have HG1:=hD0 (HG.out.trans hg1)
      clear h1 mL1 hc1 hg1
      go_wp2_with fail
      refine HS.mono ?_
      rintro e w2 ⟨rfl,hr2,ht2⟩
      have H2:=hD0 (HR.out.step (m:=2*i+1) hl hn (by omega) (by omega) (by omega) hi HM.out Hlt.out HG1.out H1'.out hr2 ht2)
      clear hr2 ht2 mS hc2
      go_wp2
      go_roundw
      case rel=>exact⟨2*i+1,Z39 l' i (2*i+1),by congr 1,by omega,by omega,by rw[Vt];exact hl,H2.out⟩
      case measure=>simp[intOf];omega
     | false =>
      rw[hlt] at HL
      have Hlt:=hD0 hlt
      clear hlt
      go_wp2_with fail
      refine HL.mono ?_
      rintro e w1 ⟨rfl,hg1⟩
      have HE:=hD0 (HR.out.ends (HG.out.trans hg1) (fun k h0 h1 h2=>Vx Hlt.out (HM.out k h0 h1 h2)))
      clear mL1 hc1 hg1
      rcases Nat.eq_or_lt_of_le hi with he | hlt
      ·have hq:decide ((i0:Int)<(i:Int))=false:=by simp;omega
       go_wp2
       go_ret
       exact HE.out.1 he.symm
      ·have hq:(i0:Int)<(i:Int):=by omega
       go_wp2
       go_ret
       exact HE.out.2 hlt
   ·have hB':¬2*(i:Int)+1+1<(n:Int):=by omega
    clear H0 mL hc
    have hgP:=Nw.refl wr
    have HM:=hD0 (show ∀k,0<k→k<n→(k-1)/2=i→Z04 (V1 l' (2*i+1)) (V1 l' k) from fun k h0 h1 h2=>by
     obtain rfl:k=2*i+1:=by omega
     exact Uj _)
    have H1:=hD0 (HR.out.2.2.2.2.1.nw hgP)
    have HG:=hD0 hgP
    have hc1:=H1.out.hd
    rw[hl] at hc1
    have mL1:=Z4b wr _ _ _ hc1
    have HL:=Z1f g cap l' (2*i+1) i (by omega) (by omega) wr H1.out.row
    rw[hl,show(((2*i+1:Nat)):Int)=2*(i:Int)+1 by omega] at HL
    clear hgP
    cases hlt:Z3a (V1 l' (2*i+1)) (V1 l' i) with
    | true =>
     rw[hlt] at HL
     have Hlt:=hD0 hlt
     clear hlt
     go_wp2_with fail
     refine HL.mono ?_
     rintro e w1 ⟨rfl,hg1⟩
     have h1:=H1.out.nw hg1
     have hc2:=h1.hd
     rw[hl] at hc2
     have mS:=Z4c w1 _ _ _ hc2
     have HS:=Z1h g cap l' i (2*i+1) (by omega) (by omega) w1 h1.row
     rw[hl,show(((2*i+1:Nat)):Int)=2*(i:Int)+1 by omega] at HS
     have H1':=hD0 h1
     have HG1:=hD0 (HG.out.trans hg1)
     clear h1 mL1 hc1 hg1
     go_wp2_with fail
     refine HS.mono ?_
     rintro e w2 ⟨rfl,hr2,ht2⟩
     have H2:=hD0 (HR.out.step (m:=2*i+1) hl hn (by omega) (by omega) (by omega) hi HM.out Hlt.out HG1.out H1'.out hr2 ht2)
     clear hr2 ht2 mS hc2
     go_wp2
     go_roundw
     case rel=>exact⟨2*i+1,Z39 l' i (2*i+1),by congr 1,by omega,by omega,by rw[Vt];exact hl,H2.out⟩
     case measure=>simp[intOf];omega
    | false =>
     rw[hlt] at HL
     have Hlt:=hD0 hlt
     clear hlt
     go_wp2_with fail
     refine HL.mono ?_
     rintro e w1 ⟨rfl,hg1⟩
     have HE:=hD0 (HR.out.ends (HG.out.trans hg1) (fun k h0 h1 h2=>Vx Hlt.out (HM.out k h0 h1 h2)))
     clear mL1 hc1 hg1
     rcases Nat.eq_or_lt_of_le hi with he | hlt
     ·have hq:decide ((i0:Int)<(i:Int))=false:=by simp;omega
      go_wp2
      go_ret
      exact HE.out.1 he.symm
     ·have hq:(i0:Int)<(i:Int):=by omega
      go_wp2
      go_ret
      exact HE.out.2 hlt
def Z9b(x:Int):List Value:=[.int .i64 x]
structure IHv(w:World)(hb ho:Nat)(v:Value)(l:List Int):Prop where
 hd:w.cell? ⟨hb,ho,none⟩=some v
 hf:w.frozen? ⟨hb,ho,none⟩=false
 row:IS w v l
 ne:v.ownBlock≠some hb
theorem IHv.lt{w:World}{hb ho:Nat}{v:Value}{l:List Int}(h:IHv w hb ho v l):hb<w.heap.size:=World.block_lt_of_cell? _ ⟨hb,ho,none⟩ h.hd
theorem Ym.v{w:World}{hb ho g cap:Nat}{l:List Int}(h:Ym w hb ho g cap l):IHv w hb ho (.slice (some ⟨g,0,none⟩) l.length cap) l :=
 ⟨h.hd,h.hf,h.row,fun e=>h.ne (by simp[Value.ownBlock] at e;exact e.symm)⟩
theorem IHv.form{w:World}{hb ho:Nat}{v:Value}{l:List Int}(h:IHv w hb ho v l):(v=.slice none 0 0∧l=[])∨∃g cap,v=.slice (some ⟨g,0,none⟩) l.length cap∧Ym w hb ho g cap l:=by
 rcases h.row.2 with⟨rfl,h0⟩ | ⟨g,cap,cur,rfl,_⟩
 ·exact .inl ⟨rfl,List.length_eq_zero_iff.1 h0⟩
 ·exact .inr ⟨g,cap,rfl,h.hd,h.hf,h.row,fun e=>h.ne (by simp[Value.ownBlock,e])⟩
theorem IHv.tch{S:Nat→Prop}{w w':World}{hb ho:Nat}{v:Value}{l:List Int}(h:IHv w hb ho v l)(k:Z4 S w w')(h1:¬S hb)(h2:∀g,v.ownBlock=some g→¬S g):IHv w' hb ho v l:=by
 rcases h.form with⟨rfl,rfl⟩ | ⟨g,cap,rfl,hp⟩
 ·exact⟨(k.cell h.lt h1).trans h.hd,(k.froz h.lt h1).trans h.hf,World.ownsRow_nil _ _ _ _,h.ne⟩
 ·exact(hp.tch k h1 (h2 g rfl)).v
theorem IHv.nw{w w':World}{hb ho:Nat}{v:Value}{l:List Int}(h:IHv w hb ho v l)(k:Nw w w'):IHv w' hb ho v l:=h.tch (Z4.nw (S:=fun _=>False) k) (fun e=>e) (fun _ _ e=>e)
def IOf(hb:Nat)(v:Value):Nat→Prop:=fun k=>k=hb∨v.ownBlock=some k
def Zen(w:World)(hb ho:Nat)(v:Value)(l:List Int)(w':World):Prop :=
 ∃g' cap',Ym w' hb ho g' cap' l∧(some g'=v.ownBlock∨w.heap.size≤g')∧Z4 (IOf hb v) w w'∧Vz hb ho w w'
theorem Zfg(t ty:TypeId)(ht:prog.underlying t=some (.slice 3))(w W:World)(hb ho:Nat)(v:Value)(l:List Int)(x:Int)(h:IHv w hb ho v l)(hsm:l.length≤1000000)
  (nwW:Nw w W) (hsz:W.heap.size=w.heap.size+1) (c:∀j u,(Z9b x)[j]?=some u→W.cell? ((⟨w.heap.size,0,none⟩:Addr).add j)=some u) :
  ∃g' cap' w1,(Builtin.append_ #[t,t] ty #[v,.slice (some ⟨w.heap.size,0,none⟩) 1 1]).run prog W=.ok (.slice (some ⟨g',0,none⟩) (l.length+1) cap') w1 ∧
   w1.cell? ⟨hb,ho,none⟩=some v∧w1.frozen? ⟨hb,ho,none⟩=false∧Zen w hb ho v (l++[x]) (w1.setCell ⟨hb,ho,none⟩ (.slice (some ⟨g',0,none⟩) (l.length+1) cap')):=by
 have hlt:=h.lt
 have hv:=h.nw nwW
 obtain⟨i0,hi,hz0,hz1,hz2⟩:=info_parts Zv3
 obtain⟨v',w1,hr,ho1,hg1,hp1⟩:=Um (P:=prog) W 0 t ty 3 i0 _ 1 8 ht hi hz0 hz1 hz2 rfl (by decide) v l.length (l.map (Value.int .i64)) hv.row
  ⟨w.heap.size,0,none⟩ 1 1 (Z9b x) rfl c (by simp[Z9b,Value.oneCell']) (by unfold maxLen;omega) (by omega) (Nat.zero_le _)
 obtain⟨g',cap',rfl⟩:=ownsRow_succ ho1
 have hne:some hb≠v.ownBlock:=fun e=>h.ne e.symm
 have hg'ne:hb≠g':=by
  intro e
  subst e
  rcases hp1 with e | e
  ·exact hne e
  ·simp[Value.ownBlock] at e;omega
 have Z0:=hg1.cell hv.hd hne
 have hfroz:w1.frozen? ⟨hb,ho,none⟩=false:=(World.frozen?_of_block (hg1.block hb (by omega) hne)).trans hv.hf
 refine⟨g',cap',w1,hr,Z0,hfroz,g',cap',⟨?_,?_,?_,hg'ne⟩,?_,?_,?_⟩
 ·rw[List.length_append];exact World.cell?_setCell_same _ _ _ Z0
 ·rw[World.frozen?_setCell];exact hfroz
 ·have hrow:U8 w1 g' cap' (l++[x]):=by
   unfold U8 IS
   rw[List.length_append,List.map_append]
   exact ho1
  exact Z5g hrow (Below.heap_setCell _ _ _ _ (fun e=>hg'ne e.symm))
 ·rcases hp1 with e | e
  ·exact .inl e
  ·refine .inr ?_
   simp[Value.ownBlock] at e;omega
 ·have t1:Z4 (IOf hb v) w w1:=(Z4.nw nwW).grown hg1 (fun k e=>.inl (.inr e))
  exact t1.set (.inl (.inl rfl)) _
 ·refine Vz.trans (b:=w1) (Vz.trans (b:=W) (Vz.tch (Z4.nw (S:=fun _=>False) nwW) hlt (fun e=>e)) ?_) (Vz.set w1 _)
  exact fun o _=>⟨World.cell?_of_block (hg1.block hb (by omega) hne),World.frozen?_of_block (hg1.block hb (by omega) hne)⟩
theorem Zfh(w:World)(x:Int)(T:TypeId):∀j u,(Z9b x)[j]?=some u→(w.alloc (.cells #[.int .i64 x] T)).cell? ((⟨w.heap.size,0,none⟩:Addr).add j)=some u:=by
 intro j u hu
 match j,hu with
 | 0,hu=>simp[Z9b] at hu;subst hu;simp[go_sem]
 | j+1,hu=>simp[Z9b] at hu
theorem Zju(t ty:TypeId)(ht:prog.underlying t=some (.slice 3))(w W:World)(hb ho:Nat)(v:Value)(l:List Int)(x:Int)(h:IHv w hb ho v l)(hsm:l.length≤1000000)
  (hW:(w.alloc (.cells #[.int .i64 x] 3)).drew=W) :
  ∃g' cap' w1,(Builtin.append_ #[t,t] ty #[v,.slice (some ⟨w.heap.size,0,none⟩) 1 1]).run prog W=.ok (.slice (some ⟨g',0,none⟩) (l.length+1) cap') w1 ∧
   w1.cell? ⟨hb,ho,none⟩=some v∧w1.frozen? ⟨hb,ho,none⟩=false∧Zen w hb ho v (l++[x]) (w1.setCell ⟨hb,ho,none⟩ (.slice (some ⟨g',0,none⟩) (l.length+1) cap')):=by
 subst hW
 exact Zfg t ty ht w _ hb ho v l x h hsm (((Nw.refl w).alloc _).drewN 1) (by simp) (Zfh w x _)
theorem Zb1{P:Program}{ops:Array Oper}{o:Oper}{a:Act}{w:World}{K:Act→World→Prop}{Q:Exit→Act→World→Prop}{E:Prop}(hgd:o.guard=none)(s x:Operand)(t:TypeId)
  (ho:o.op=.call { callee:=.builtin .append,args:=#[s,x],argTypes:=#[t,t] }) (v u v':Value) (w':World) (hs:a.eval s=v) (hx:a.eval x=u) (hr:(Builtin.append_ #[t,t] o.type #[v,u]).run P w=.ok v' w')
  (h:K (a.put o.dst v') w'):if Region.wanted o (yielded ops a.tmps)=true then Oper.wp P o a w K Q else E:=by
 have hw:Region.wanted o (yielded ops a.tmps)=true:=by simp[Region.wanted,hgd]
 rw[if_pos hw]
 unfold Oper.wp execOp
 simp only[ho,resolve,invoke,builtin,Sem.run_bind,Sem.run_pure,Result.andThen_ok,List.map_toArray,List.map_cons,List.map_nil,hs,hx,hr]
 exact h
theorem Z94(y:Value)(w:World):Sem.run prog (Instr.typeAssert (.iface 3 y) 20 3 false) w=.ok y w:=by
 have hu:=underlying3
 simp[Instr.typeAssert,go_sem]
theorem Zfj(hb ho:Nat)(v:Value)(l:List Int)(x:Int)(w:World)(h:IHv w hb ho v l)(hsm:l.length≤1000000) :
  Calls prog 285 #[.pointer (some ⟨hb,ho,none⟩),.iface 3 (.int .i64 x)] w fun e w'=>e=.returned (.tuple #[])∧Zen w hb ho v (l++[x]) w':=by
 obtain⟨W,hW⟩:∃W,(w.alloc (.cells #[.int .i64 x] 3)).drew=W:=⟨_,rfl⟩
 obtain⟨g',cap',w1,hr,hc,hf,hp⟩:=Zju 127 127 underlying127 w W hb ho v l x h hsm hW
 have HP:=hD0 hp
 have hd:=h.hd
 have hlt:=h.lt
 have vf:=h.form
 clear hp h
 have ta:=Z94
 generalize l.length=N at *
 have HA:=hD0 hr
 clear hr
 subst hW
 rcases vf with⟨rfl,_⟩ | ⟨g,cap,rfl,_⟩
 all_goals
  go_enter func285,ntmps285
  go_wp2
  go_region_law (refine Zb1 rfl (.tmp 8) (.tmp 11) 127 rfl _ _ _ _ rfl rfl HA.out ?_)
  go_wp2
 all_goals
  go_end0
  exact⟨rfl,HP.out⟩
theorem Zcy{w:World}{hb ho g cap:Nat}{l:List Int}{x:Int}(h:Ym w hb ho g cap (l++[x])) :
  Ym (w.setCell ⟨hb,ho,none⟩ (.slice (some ⟨g,0,none⟩) l.length cap)) hb ho g cap l∧Z4 (fun k=>k=hb) w (w.setCell ⟨hb,ho,none⟩ (.slice (some ⟨g,0,none⟩) l.length cap))∧Vz hb ho w (w.setCell ⟨hb,ho,none⟩ (.slice (some ⟨g,0,none⟩) l.length cap)):=by
 have h1:Ym (w.setCell ⟨hb,ho,none⟩ (.slice (some ⟨g,0,none⟩) l.length cap)) hb ho g cap l:=by
  refine⟨World.cell?_setCell_same _ _ _ h.hd,by rw[World.frozen?_setCell];exact h.hf,?_,h.ne⟩
  have hr:=h.row
  unfold U8 at hr
  unfold IS at hr
  rw[List.length_append,List.map_append] at hr
  have hp:=ownsRow_pop (xs:=l.map (Value.int .i64)) (last:=[x].map (Value.int .i64)) (by simp) hr
  exact Z5g (w:=w) hp (Below.heap_setCell _ _ _ _ (fun e=>h.ne e.symm))
 exact⟨h1,Z4.set (S:=fun k=>k=hb) (p:=⟨hb,ho,none⟩) (Z4.refl _ w) (.inl rfl) _,Vz.set w _⟩
theorem Zjx(hb ho g cap:Nat)(l:List Int)(x:Int)(w:World)(h:Ym w hb ho g cap (l++[x])) :
  Calls prog 284 #[.pointer (some ⟨hb,ho,none⟩)] w fun e w'=>e=.returned (.iface 3 (.int .i64 x))∧Ym w' hb ho g cap l∧Z4 (fun k=>k=hb) w w'∧Vz hb ho w w':=by
 have HW:=hD0 (Zcy h)
 have hm:=Nat.le_trans (U9 h.row).1 (U9 h.row).2
 unfold maxLen at hm
 have hcap:=(U9 h.row).1
 have c0:=Z4d h.row l.length (by simp)
 have hx:V1 (l++[x]) l.length=x:=by simp[V1,List.getD]
 rw[hx] at c0
 have hd:=h.hd
 have hf:=h.hf
 have hlt:=h.lt
 rw[List.length_append] at hd hm hcap
 simp only[List.length_cons,List.length_nil,Nat.zero_add] at hd hm hcap
 generalize l.length=N at *
 clear h hx
 go_enter func284,ntmps284
 go_wp2
 go_ret
 exact⟨rfl,HW.out⟩
end Go.Proofs.YtpffldfpabglbaaGreatDoor
