/- Texts merged: QvB, QvD, QvE, QvF, QvG, QvH, QvI -/
import Derived.Test.YtfepoibfbmehiaaGreatDoorTableNamesB8
import Derived.Maps.RangeWalk
set_option linter.unusedVariables false
set_option maxRecDepth 100000
set_option maxHeartbeats 16000000
namespace Go.Proofs.YtfepoibfbmehiaaGreatDoor
open Go.RowKit _root_.Go.Proofs.Tryz
def plc(p:Rq→Bool):List Rq→Int
 | []=>-1
 | a::r=>if p a=true then 0 else if plc p r = -1 then -1 else plc p r+1
theorem Vm(p:Rq→Bool):∀q:List Rq,(plc p q = -1∧∀a∈q,p a=false)∨∃k:Nat,plc p q=k∧∃h:k<q.length,p q[k]=true∧∀i (hi:i<q.length),i<k→p q[i]=false
 | []=>.inl ⟨rfl,by simp⟩
 | a::r=>by
  unfold plc
  cases e:p a with
  | true=>exact .inr ⟨0,rfl,by simp,e,fun i _ h=>by omega⟩
  | false =>
   rcases Vm p r with⟨h1,h2⟩ | ⟨k,h1,h2,h3,h4⟩
   ·rw[h1]
    refine .inl ⟨rfl,fun x hx=>?_⟩
    rcases List.mem_cons.1 hx with rfl | hx
    ·exact e
    ·exact h2 x hx
   ·rw[h1]
    refine .inr ⟨k+1,?_,by simpa using h2,h3,fun i hi hik=>?_⟩
    ·simp only[Bool.false_eq_true,if_false]
     rw[if_neg (by omega)];rfl
    ·cases i with
     | zero=>exact e
     | succ i=>exact h4 i (by simpa using hi) (by omega)
theorem Zlz{p:Rq→Bool}{q:List Rq}{k:Nat}(hk:k<q.length)(h:p q[k]=true)(hb:∀i (hi:i<q.length),i<k→p q[i]=false):plc p q=k:=by
 rcases Vm p q with⟨_,h2⟩ | ⟨j,h1,h2,h3,h4⟩
 ·rw[h2 _ (gM0 hk)] at h;cases h
 ·rw[h1]
  rcases Nat.lt_trichotomy j k with g | g | g
  ·rw[hb j h2 g] at h3;cases h3
  ·rw[g]
  ·rw[h4 k hk g] at h;cases h
theorem Zil{p:Rq→Bool}{q:List Rq}(h:∀i (hi:i<q.length),p q[i]=false):plc p q = -1:=by
 rcases Vm p q with⟨h1,_⟩ | ⟨j,h1,h2,h3,_⟩
 ·exact h1
 ·rw[h j h2] at h3;cases h3
theorem Zdi(p:Rq→Bool)(q:List Rq):decide (0≤plc p q)=q.any p:=by
 rcases Vm p q with⟨h1,h2⟩ | ⟨k,h1,h2,h3,_⟩
 ·rw[h1]
  symm
  rw[show decide ((0:Int)≤-1)=false from rfl,List.any_eq_false]
  intro x hx;rw[h2 x hx];simp
 ·rw[h1]
  symm
  rw[show decide ((0:Int)≤(k:Int))=true by simp,List.any_eq_true]
  exact⟨q[k],gM0 h2,h3⟩
theorem Zbb(v f:Value)(p:Rq→Bool)(q:List Rq)(w:World)(hl:q.length≤1000)(h:Zu w v q)(hf:Zn w f p) :
  Calls prog 109 #[v,f] w fun e w'=>e=.returned (.int .i64 (plc p q))∧Nw w w':=by
 obtain⟨g,lb,rfl,eg,hT⟩:=hf
 have HT:=hD0 hT
 clear hT
 obtain⟨a,c,rfl,⟨rfl,_⟩ | ⟨b,o,rfl,hc⟩⟩:=h
 ·go_enter func109,ntmps109
  go_wp2
  refine wp_loop_rounds 1 ?_
  repeat (rw[rounds_succ];go_wp2)
  go_ret
  exact⟨rfl,Nw.refl _⟩
 ·have H:=hD0 hc
  clear hc
  obtain⟨V,hV⟩:∃V,plc p q=V:=⟨_,rfl⟩
  rw[hV]
  have HV:=hD0 hV
  clear hV
  go_enter func109,ntmps109
  go_wp2
  go_loopw [8] (fun i wr=>∃k:Nat,k≤q.length∧i=.int .i64 k∧(∀i (hi:i<q.length),i<k→p q[i]=false)∧Nw w wr) (fun i _=>q.length-(intOf i).toNat)
  case atStart=>exact⟨0,Nat.zero_le _,rfl,fun _ _ h=>by omega,Nw.refl _⟩
  case round =>
   obtain⟨k,hk,rfl,hF,hN⟩:=hrel
   by_cases Z1:k<q.length
   ·have hce:=(H.out.nw hN).cell k Z1
    obtain⟨R,hR⟩:∃R,q[k]=R:=⟨_,rfl⟩
    rw[hR] at hce
    have HC:=hD0 (HT.out R)
    have HS:=hD0 hR
    have HF:=hD0 hF
    have HN:=hD0 hN
    clear hR hF hN
    obtain⟨B,hB⟩:∃B,p R=B:=⟨_,rfl⟩
    rw[hB] at HC
    have HB:=hD0 hB
    clear hB
    obtain⟨b0,b1,b2,b3,b4⟩:=R
    have e0:=hce 0 _ rfl
    have e1:=hce 1 _ rfl
    have e2:=hce 2 _ rfl
    have e3:=hce 3 _ rfl
    have e4:=hce 4 _ rfl
    simp only[Nat.add_zero] at e0
    clear hce
    cases B
    case true =>
     go_wp2_with (go_at_fn g;refine(HC.out _ HN.out).mono ?_;rintro e w1 ⟨rfl,g1⟩)
     go_ret
     exact⟨by rw[←HV.out,Zlz Z1 (by rw[HS.out];exact HB.out) HF.out];rfl,HN.out.trans g1⟩
    case false =>
     go_wp2_with (go_at_fn g;refine(HC.out _ HN.out).mono ?_;rintro e w1 ⟨rfl,g1⟩)
     go_roundw
     case rel =>
      refine⟨k+1,by omega,by go_num,fun i hi hik=>?_,HN.out.trans g1⟩
      by_cases q:i<k
      ·exact HF.out i hi q
      ·have:i=k:=by omega
       subst this
       rw[HS.out];exact HB.out
     case measure=>simp[intOf];omega
   ·have HF:=hD0 hF
    have HN:=hD0 hN
    clear hF hN
    go_wp2
    go_ret
    exact⟨by rw[←HV.out,Zil fun i hi=>HF.out i hi (by omega)];rfl,HN.out⟩
theorem Ze3(v f:Value)(p:Rq→Bool)(q:List Rq)(w:World)(hl:q.length≤1000)(h:Zu w v q)(hf:Zn w f p) :
  Calls prog 113 #[v,f] w fun e w'=>e=.returned (.bool (q.any p))∧Nw w w':=by
 have HI:=hD0 (Zbb v f p q w hl h hf)
 obtain⟨a,c,rfl⟩:=h.form
 obtain⟨g,lb,rfl,_⟩:=hf
 rw[←Zdi]
 clear h
 go_enter func113,ntmps113
 go_wp2_with (go_at_call 109;refine HI.out.mono ?_;rintro e w1 ⟨rfl,g1⟩)
 go_ret
 exact⟨rfl,g1⟩
theorem Z3g(t r W:Int)(v f:Value)(p:Rq→Bool)(q:List Rq)(w:World)(hl:q.length≤1000)(h:Zu w v q)(hf:Zn w f p) :
  Calls prog 78 #[Un t r v W,f] w fun e w'=>e=.returned (.int .i64 (plc p q))∧Nw w w':=by
 have HI:=hD0 (fun(w1:World) (g:Nw w w1)=>Zbb v f p q w1 hl (h.nw g) (hf.nw g))
 obtain⟨a,c,rfl⟩:=h.form
 obtain⟨g,lb,rfl,_⟩:=hf
 unfold Un
 clear h
 have hN:Nw w (w.alloc (.cells #[.int .i64 t,.int .i64 r,.slice a q.length c,.int .i64 W] 83)):=(Nw.refl w).alloc _
 go_enter func78,ntmps78
 go_wp2_with (go_at_call 109;refine(HI.out _ hN).mono ?_;rintro e w1 ⟨rfl,g1⟩)
 go_ret
 exact⟨rfl,hN.trans g1⟩
section
open Go.RowKit Go.Maps Go.ChangeMaps
theorem Zi2:Keyed prog 35:=int_keyed underlying35
theorem wfM{k:Int}(h0:-9223372036854775808≤k)(h1:k≤9223372036854775807):(Lit.int .i64 k).wf=true:=WalkArith.wf_i64 (by omega)
theorem Zow{k:Int}(h:Zq k=true):keyOf prog 35 (.int .i64 k)=some (.int .i64 k):=by
 have:=(V2 k).1 h
 exact keyOf_int_mk underlying35 (wfM (by omega) (by omega))
theorem Zou{k:Int}(h:Zq k=true):WideAt.IsKeyLit (.int .i64 k):=Zi2.key (Zow h)
theorem Zr2(w:World):(zeroValue 3).run prog w=.ok (.int .i64 0) w:=by kernel_rfl
def Ya(w:World)(b n:Nat)(c:Int→Int):Prop :=
 ∃D:DataW Unit,w.ownsMap prog 35 (plainElem prog 3) b n D∧(∀k,D.atKey (.int .i64 k) (.lit (.int .i64 0))=.lit (.int .i64 (c k)))∧∀k,Maps.has D (.int .i64 k)=true→Zq k=true
def Z0u(c:Int→Int)(k x:Int):Int→Int:=fun y=>if y=k then x else c y
section
variable {w w':World} {b n:Nat} {c:Int→Int}
theorem Ya.kept{row:Option Nat}(h:Ya w b n c)(hg:w.grownBy w' row)(hne:some b≠row):Ya w' b n c:=by
 obtain⟨D,h1,h2,h3⟩:=h
 exact⟨D,h1.kept hg hne,h2,h3⟩
theorem Ya.nw(h:Ya w b n c)(g:Nw w w'):Ya w' b n c:=h.kept (g.grownBy none) (by simp)
theorem Ya.lt(h:Ya w b n c):b<w.heap.size:=by obtain⟨D,h1,_⟩:=h;exact h1.lt
theorem Ya.obj(h:Ya w b n c):∃es k,w.heap[b]?=some (.map es k):=by obtain⟨D,⟨es,k,h,_⟩,_⟩:=h;exact⟨es,k,h⟩
theorem Ya.made(w:World):Ya (w.alloc (.map #[] 0)) w.heap.size 0 (fun _=>0) :=
 ⟨_,World.ownsMap_made _ _ _ _,fun k=>atKey_of_not_has rfl _,fun k h=>by cases h⟩
theorem Ya.look(h:Ya w b n c){k:Int}(hk:Zq k=true):(Instr.lookup 137 (.map (some b)) (.int .i64 k) false).run prog w=.ok (.int .i64 (c k)) w:=by
 obtain⟨D,o,h2,h3⟩:=h
 obtain⟨x,hrun,hat,_⟩:=o.lookup_int (t:=137) Zi2 underlying137 underlying3 (Zr2 w) (Zow hk)
 rw[h2 k] at hat
 injection hat with hat
 injection hat with _ hat
 rw[hat];exact hrun
theorem Zd7{a b:Int}(h:a≠b):(Lit.int .i64 a)≠.int .i64 b:=fun e=>h (by injection e)
theorem Ya.put(h:Ya w b n c)(hn:n<1000000){k x:Int}(hk:Zq k=true)(h0:-100≤x)(h1:x≤1000000) :
  ∃w',(Instr.mapUpdate 137 (.map (some b)) (.int .i64 k) (.int .i64 x)).run prog w=.ok () w'∧Ya w' b (n+1) (Z0u c k x)∧w.grownBy w' (some b):=by
 obtain⟨D,o,h2,h3⟩:=h
 have hw:(Lit.int .i64 x).wf=true:=wfM (by omega) (by omega)
 obtain⟨w',hr,o',hg⟩:=o.update (t:=137) Zi2 underlying137 (by unfold maxLen;omega) (Zow hk) (plainElem_int underlying3 hw)
 refine⟨w',hr,⟨_,o',fun y=>?_,fun y hy=>?_⟩,hg⟩
 ·unfold Z0u
  by_cases q:y=k
  ·subst q
   rw[if_pos rfl,atKey_put_same o.isMap (Zou hk)]
  ·rw[if_neg q,atKey_put_other (Zd7 q),h2 y]
 ·by_cases q:y=k
  ·rw[q];exact hk
  ·rw[has_put_other (Zd7 q)] at hy
   exact h3 y hy
end
theorem dCp(a b:Int)(w:World)(ha:Zq a=true)(hb:Zq b=true):Calls prog 139 #[.int .i64 a,.int .i64 b] w fun e w'=>e=.returned (.bool (Ui a b))∧Nw w w':=by
 have h1:=(V2 a).1 ha
 have h2:=(V2 b).1 hb
 rw[Zn3 a b ha hb]
 exact Znw a b w h1.1 h1.2 h2.1 h2.2
theorem Zr6(a b:Int)(w:World)(ha:Zq a=true):Calls prog 139 #[.int .i64 a,.int .i64 b] w fun e w'=>e=.returned (.bool (Ui a b))∧Nw w w':=by
 by_cases hb:Zq b=true
 ·exact dCp a b w ha hb
 ·have h1:=(V2 a).1 ha
  have h2:b<0∨7≤b:=by
   have:¬(0≤b∧b<7):=fun e=>hb ((V2 b).2 e)
   omega
  have hc:Ui a b=false:=by
   unfold Ui
   cases e:Zq b with
   | true=>exact absurd e hb
   | false=>simp
  rw[hc]
  clear hc hb
  go_enter func139,ntmps139
  go_wp2_with fail
  go_at_call 108
  refine(Z18 a _ h1.1 h1.2).mono ?_
  rintro e w' ⟨rfl,rfl⟩
  go_wp2_with (go_at_call 108;refine(Z9p b _ h2).mono ?_;rintro e w' ⟨rfl,rfl⟩)
  go_ret
  exact⟨rfl,Nw.refl _⟩
def okK(c:Int→Int)(own m k:Int):Bool:=decide (c k-(if k=own then 1 else 0)≤0) || Ui k m
def Z0x(c:Int→Int)(own m:Int):Bool:=(List.range 7).all fun k=>okK c own m k
theorem Z4z(c:Int→Int)(own m:Int):Z0x c own m=true↔∀k,Zq k=true→okK c own m k=true:=by
 unfold Z0x
 rw[List.all_eq_true]
 constructor
 ·intro h k hk
  obtain⟨h0,h7⟩:=(V2 k).1 hk
  obtain⟨j,rfl⟩:=Int.eq_ofNat_of_zero_le h0
  exact h j (by simp;omega)
 ·intro h j hj
  simp at hj
  exact h j ((V2 _).2 ⟨by omega,by omega⟩)
theorem Zix(a b:Int):(Lit.int .i64 a).sameKey (.int .i64 b)=(a==b):=by
 simp[Lit.sameKey]
 rfl
theorem Zo0(p b n:Nat)(c:Int→Int)(own m:Int)(u0 u1 u2 u3:Value)(fr:Nat × Nat)(w:World)(hp:w.heap[p]?=some (.cells #[u0,u1,u2,u3,.map (some b)] 139 fr))(hc:Ya w b n c)(hb:∀k,0≤c k∧c k≤100000) :
  Calls prog 112 #[.pointer (some ⟨p,0,none⟩),.int .i64 own,.int .i64 m] w fun e w'=>e=.returned (.bool (Z0x c own m))∧Nw w w':=by
 obtain⟨D,hown,hD,hK⟩:=hc
 have hc4:=Z0 (j:=4) hp
 have hpl:=Z1 hp
 clear hp
 obtain⟨V,hV⟩:∃V,Z0x c own m=V:=⟨_,rfl⟩
 rw[hV]
 have HV:=hD0 hV
 have HD:=hD0 hD
 have HK:=hD0 hK
 have HB:=hD0 hb
 clear hV hD hK hb
 go_enter func112,ntmps112
 go_wp2_with (first
  | (at_range;refine wpList_range_own _ rfl _ 137 rfl 35 3 Zi2 underlying137 _ b n _ rfl hown ?_;intro w0 hrg0 hg0 hs0)
  | go_in)
 go_frame
 go_loopw [7] (fun _ wr=>∃(left:Lit→Bool) (cnt:Nat),wr.ranges prog 35 (plainElem prog 3) b w.heap.size n D left cnt∧(∀k,left (.int .i64 k)=false→Maps.has D (.int .i64 k)=true→okK c own m k=true)∧Nw w wr)
  (fun _ wr=>wr.rangeLeft b w.heap.size)
 case atStart=>exact⟨_,_,hrg0,(fun k h1 h2=>by rw[h1] at h2;cases h2),⟨hg0.os,hg0.tape,hg0.output,hg0.size,fun i hi=>hg0.block i hi (by simp)⟩⟩
 case round =>
  obtain⟨left,cnt,hrg,hI,hN⟩:=hrel
  have HI:=hD0 hI
  have HN:=hD0 hN
  clear hI hN
  go_wp2_with (first
   | (at_next;refine wpList_next_ranges_ii _ rfl _ rfl 35 3 .i64 .i64 Zi2 underlying35 underlying3 b w.heap.size n _ _ _ rfl hrg ?_ ?_)
   | go_in)
  ·
   intro _ hl0
   have e:V=true:=by
    rw[←HV.out,Z4z]
    intro k hk
    cases hh:Maps.has D (.int .i64 k) with
    | true=>exact HI.out k (hl0 _) hh
    | false =>
     have:=HD.out k
     rw[atKey_of_not_has hh] at this
     injection this with this
     injection this with _ this
     unfold okK
     rw[←this]
     have:decide ((0:Int)-(if k=own then 1 else 0)≤0)=true:=by
      rw[decide_eq_true_iff];split<;>omega
     rw[this];rfl
   subst e
   go_wp2
   go_ret
   exact⟨rfl,HN.out⟩
  ·intro x y w1 cnt1 hwx hwc hlx hat hrg1 Z1 hg1 hs1 hen
   have hxk:y=c x:=by
    have h1:=hat (.lit (.int .i64 0))
    rw[HD.out x] at h1
    injection h1 with h1
    injection h1 with _ h1
    exact h1.symm
   have hx:Zq x=true:=by
    refine HK.out x ?_
    cases hh:Maps.has D (.int .i64 x) with
    | true=>rfl
    | false =>
     have h1:=hat (.lit (.int .i64 (y+1)))
     rw[atKey_of_not_has hh] at h1
     injection h1 with h1
     injection h1 with _ h1
     omega
   subst hxk
   have hbx:=HB.out x
   have hG1:Nw w w1:=HN.out.gro hg1 (fun k hk=>by rw[←Option.some.inj hk];exact Nat.le_refl _)
   have HG1:=hD0 hG1
   have HI1:Hid (okK c own m x=true→∀k,(fun z:Lit=>left z&&!z.sameKey (.int .i64 x)) (.int .i64 k)=false→Maps.has D (.int .i64 k)=true→okK c own m k=true):=hD0 fun hok k hl hh=>by
    by_cases q:k=x
    ·rw[q];exact hok
    ·refine HI.out k ?_ hh
     have e:(k==x)=false:=by simpa using q
     simpa [Zix,e] using hl
   have HC:=hD0 (fun w=>Zr6 x m w hx)
   have HF:Hid (okK c own m x=false→V=false):=hD0 fun e=>by
    rw[←HV.out]
    cases h:Z0x c own m with
    | false=>rfl
    | true=>rw[(Z4z c own m).1 h x hx] at e;cases e
   unfold okK at HI1 HF
   simp only at HI1
   generalize c x=y at *
   generalize Ui x m=z at *
   have HRG:=hD0 (aI0 hrg hrg1)
   clear hrg hrg1 hg1 hat hlx hwx hwc hs1 hx hG1 hown hrg0 hg0 hs0
   by_cases hxo:x=own
   ·have dx:(x==own)=true:=by simpa using hxo
    obtain⟨t,ht⟩:∃t,y-1=t:=⟨_,rfl⟩
    have hw:IntKind.i64.wrap (y-1)=t:=by rw[IntKind.wrap_i64];omega
    by_cases hp0:0<t
    ·have dp:decide (0<t)=true:=by simpa using hp0
     cases z
     ·obtain rfl:V=false:=HF.out (by simp[hxo];omega)
      clear HI1 HF hp0 ht hxo hbx
      go_wp2_with (go_at_call 139;refine(HC.out _).mono ?_;rintro e w2 ⟨rfl,g2⟩)
      go_ret
      exact⟨rfl,HG1.out.trans g2⟩
     ·have HI2:=hD0 (HI1.out (by simp))
      clear HI1 HF hp0 ht hxo hbx
      go_wp2_with (go_at_call 139;refine(HC.out _).mono ?_;rintro e w2 ⟨rfl,g2⟩)
      have hrg2:=HRG.out.2.kept (g2.grownBy none) (by simp) (by simp)
      go_roundw
      case rel=>exact⟨_,cnt1,hrg2,HI2.out,HG1.out.trans g2⟩
      case measure=>rw[hrg2.left_eq,HRG.out.1.left_eq];omega
    ·have dp:decide (0<t)=false:=by simpa using hp0
     have HI2:=hD0 (HI1.out (by simp[hxo];omega))
     clear HI1 HF hp0 ht hxo hbx
     go_wp2
     go_roundw
     case rel=>exact⟨_,cnt1,HRG.out.2,HI2.out,HG1.out⟩
     case measure=>rw[HRG.out.2.left_eq,HRG.out.1.left_eq];omega
   ·have dx:(x==own)=false:=by simpa using hxo
    by_cases hp0:0<y
    ·have dp:decide (0<y)=true:=by simpa using hp0
     cases z
     ·obtain rfl:V=false:=HF.out (by simp[hxo];omega)
      clear HI1 HF hp0 hxo hbx
      go_wp2_with (go_at_call 139;refine(HC.out _).mono ?_;rintro e w2 ⟨rfl,g2⟩)
      go_ret
      exact⟨rfl,HG1.out.trans g2⟩
     ·have HI2:=hD0 (HI1.out (by simp))
      clear HI1 HF hp0 hxo hbx
      go_wp2_with (go_at_call 139;refine(HC.out _).mono ?_;rintro e w2 ⟨rfl,g2⟩)
      have hrg2:=HRG.out.2.kept (g2.grownBy none) (by simp) (by simp)
      go_roundw
      case rel=>exact⟨_,cnt1,hrg2,HI2.out,HG1.out.trans g2⟩
      case measure=>rw[hrg2.left_eq,HRG.out.1.left_eq];omega
    ·have dp:decide (0<y)=false:=by simpa using hp0
     have HI2:=hD0 (HI1.out (by simp[hxo];omega))
     clear HI1 HF hp0 hxo hbx
     go_wp2
     go_roundw
     case rel=>exact⟨_,cnt1,HRG.out.2,HI2.out,HG1.out⟩
     case measure=>rw[HRG.out.2.left_eq,HRG.out.1.left_eq];omega
theorem Zn4(p b n:Nat)(c:Int→Int)(own m:Int)(u0 u1 u2 u3:Value)(fr:Nat × Nat)(w:World)(hp:w.heap[p]?=some (.cells #[u0,u1,u2,u3,.map (some b)] 139 fr))(hc:Ya w b n c)(hb:∀k,0≤c k∧c k≤100000)(hm:Zq m=true) :
  Calls prog 112 #[.pointer (some ⟨p,0,none⟩),.int .i64 own,.int .i64 m] w fun e w'=>e=.returned (.bool (Z0x c own m))∧Nw w w':=Zo0 p b n c own m u0 u1 u2 u3 fr w hp hc hb
end
section
open Go.RowKit Go.Maps Go.ChangeMaps
theorem Z1c{P:Program}{w:World}{ops:Array Oper}{rest:List Oper}{o:Oper}{a:Act}{Q:Exit→Act→World→Prop}
  (hg:o.guard=none) (m x u:Operand) (t:TypeId) (hop:o.op=Op.mapUpdate t m x u) (M K V:Value) (w':World) (hm:a.eval m=M) (hx:a.eval x=K) (hu:a.eval u=V)
  (hr:(Instr.mapUpdate t M K V).run P w=.ok () w') (h:wpList P ops Q rest (a.put o.dst undef) w'):wpList P ops Q (o::rest) a w:=by
 refine wpList_plain hg fun K' hK'=>?_
 unfold Oper.wp
 simp[execOp,hop,hm,hx,hu,hr,Result.andThen]
 exact hK' _ _ h
theorem Z4s(v:Value)(q:List Rq)(w:World)(hl:q.length≤1000)(h:Zu w v q) :
  Calls prog 92 #[v] w fun e w'=>∃v',e=.returned v'∧Nw w w'∧Z7 w' w.heap.size v' q:=by
 obtain⟨v',w1,hrun,hO,hN⟩:=Zet Zgq h (by omega)
 obtain⟨a,c,rfl,h⟩:=h
 have en:=fun(w:World) (a:Option Addr) (n c n' c':Nat)=>Lib.run_eql_slice_nil (P:=prog) w 81 43 a n c n' c' underlying81
 have HR:=hD0 hrun
 have HO:=hD0 (aI0 hN hO)
 clear hrun hO hN
 cases a with
 | none =>
  rcases h with⟨rfl,h0⟩ | ⟨b,o,e,_⟩
  ·obtain rfl:=h0 rfl
   go_enter func92,ntmps92
   go_wp2
   go_ret
   exact⟨_,rfl,Nw.refl _,World.ownsRow_nil _ _ _ _⟩
  ·cases e
 | some ad =>
  clear h
  go_enter func92,ntmps92
  go_wp2_with (at_builtin;refine Z2s (by rfl) (.tmp 5) (.tmp 6) 81 rfl _ _ _ _ rfl rfl HR.out ?_)
  go_ret
  exact⟨_,rfl,HO.out.1,HO.out.2⟩
structure Ln(w:World)(g0 p:Nat)(t r W:Int)(v:Value)(b n:Nat)(q:List Rq)(c:Int→Int):Prop where
 obj:w.heap[p]?=some (.cells #[.int .i64 t,.int .i64 r,v,.int .i64 W,.map (some b)] 139 (0,0))
 own:Z7 w g0 v q
 map:Ya w b n c
 gp:g0≤p
 gb:g0≤b
def Zk(q:List Rq):Int→Int:=fun k=>((q.countP fun R=>R.md==k:Nat):Int)
theorem Z68(q:List Rq)(R:Rq):Zk (q++[R])=Z0u (Zk q) R.md (Zk q R.md+1):=by
 funext k
 unfold Zk Z0u
 rw[List.countP_append]
 by_cases e:k=R.md
 ·rw[if_pos e,e];simp
 ·rw[if_neg e]
  have:(R.md==k)=false:=by simpa using fun q=>e q.symm
  simp[this]
theorem Z28(q:List Rq)(k:Int):0≤Zk q k∧Zk q k≤q.length:=by
 unfold Zk
 have:=List.countP_le_length (p:=fun R:Rq=>R.md==k) (l:=q)
 omega
section
variable {w w':World} {g0 p:Nat} {t r W:Int} {v:Value} {b n:Nat} {q:List Rq} {c:Int→Int}
theorem Ln.nw(h:Ln w g0 p t r W v b n q c)(g:Nw w w'):Ln w' g0 p t r W v b n q c:=⟨g.at' h.obj,onw h.own g,h.map.nw g,h.gp,h.gb⟩
theorem Ln.bp(h:Ln w g0 p t r W v b n q c):b≠p:=fun e=>by
 obtain⟨es,k,ho⟩:=h.map.obj
 rw[e,h.obj] at ho;cases ho
theorem Ln.vb(h:Ln w g0 p t r W v b n q c):v.ownBlock≠some b:=fun e=>by
 obtain⟨es,k,ho⟩:=h.map.obj
 obtain⟨cs,hc⟩:=Z6r h.own e
 rw[ho] at hc;cases hc
theorem Zao:43≠139:=by decide
theorem Ln.vp(h:Ln w g0 p t r W v b n q c):v.ownBlock≠some p:=fun e=>by
 obtain⟨cs,hc⟩:=Z6r h.own e
 have:=h.obj
 rw[hc] at this
 injection this with this
 injection this with _ this
 exact absurd this Zao
theorem Ln.put(h:Ln w g0 p t r W v b n q c){n':Nat}{c':Int→Int}(hm:Ya w' b n' c')(hg:w.grownBy w' (some b)):Ln w' g0 p t r W v b n' q c' :=
 ⟨(hg.block p (Z1 h.obj) (by simp;exact h.bp.symm)).trans h.obj,Za1 h.own hg (fun g hv e=>h.vb (by rw[hv,←e])),hm,h.gp,h.gb⟩
end
theorem Z9g{w:World}{B:Nat}{o:Obj}(hb:w.heap[B]?=some o):B<w.heap.size:=Z1 hb
theorem Z7.at{w:World}{g0:Nat}{v:Value}{q:List Rq}(h:Z7 w g0 v q){k:Nat}(hk:k<q.length):∃g cap,v=.slice (some ⟨g,0,none⟩) q.length cap∧g0≤g∧g<w.heap.size∧∀j u,(Zi q[k])[j]?=some u→w.cell? ⟨g,k*5+j,none⟩=some u:=by
 rcases V4 h with⟨_,e⟩ | ⟨g,cap,rfl⟩
 ·omega
 ·refine⟨g,cap,rfl,oge h rfl,olt h rfl,fun j u hu=>?_⟩
  obtain⟨a,c,e,hh | ⟨b,o,rfl,hc⟩⟩:=Z7.rd h
  ·obtain⟨rfl,_⟩:=hh;simp at hk
  ·simp only[Value.slice.injEq,Option.some.injEq,Addr.mk.injEq] at e
   obtain⟨⟨rfl,rfl,_⟩,_,_⟩:=e
   have:=hc.cell k hk j u hu
   rwa [Nat.zero_add] at this
theorem Z7o(t r W:Int)(v:Value)(q:List Rq)(w:World)(hl:q.length≤1000)(hkn:∀R∈q,Zq R.md=true)(h:Zu w v q) :
  Calls prog 81 #[Un t r v W] w fun e w'=>∃p v' b n,e=.returned (.pointer (some ⟨p,0,none⟩))∧Nw w w'∧Ln w' w.heap.size p t r W v' b n q (Zk q)∧n≤q.length:=by
 have hmm:=@run_makeMap prog
 have HCl:=hD0 (fun(w1:World) (g:Nw w w1)=>Z4s v q w1 hl (h.nw g))
 have HK:=hD0 hkn
 clear hkn
 unfold Un
 obtain⟨a,c,rfl,_⟩:=h
 obtain⟨w3,hw3⟩:∃w3,((w.alloc (.cells #[.int .i64 t,.int .i64 r,.slice a q.length c,.int .i64 W] 83)).alloc (.map #[] 0)).alloc (.cells #[.int .i64 t,.int .i64 r,.slice a q.length c,.int .i64 W,.map (some (w.heap.size+1))] 139)=w3:=⟨_,rfl⟩
 have hN3:Nw w w3:=by rw[←hw3];exact(((Nw.refl w).alloc _).alloc _).alloc _
 have hs1:(w.alloc (.cells #[.int .i64 t,.int .i64 r,.slice a q.length c,.int .i64 W] 83)).heap.size=w.heap.size+1:=by simp
 have hs2:((w.alloc (.cells #[.int .i64 t,.int .i64 r,.slice a q.length c,.int .i64 W] 83)).alloc (.map #[] 0)).heap.size=w.heap.size+1+1:=by simp
 have hB:Zat w3 w.heap.size t r (.slice a q.length c) W:=by rw[←hw3];exact(Zat.made w t r (.slice a q.length c) W 83).nw (((Nw.refl _).alloc _).alloc _)
 have hM:Ya w3 (w.heap.size+1) 0 (fun _=>0):=by
  have:=Ya.made (w.alloc (.cells #[.int .i64 t,.int .i64 r,.slice a q.length c,.int .i64 W] 83))
  rw[hs1] at this
  rw[←hw3];exact this.nw ((Nw.refl _).alloc _)
 have hL:w3.heap[w.heap.size+1+1]?=some (.cells #[.int .i64 t,.int .i64 r,.slice a q.length c,.int .i64 W,.map (some (w.heap.size+1))] 139):=by
  have:=Z2 ((w.alloc (.cells #[.int .i64 t,.int .i64 r,.slice a q.length c,.int .i64 W] 83)).alloc (.map #[] 0)) (.cells #[.int .i64 t,.int .i64 r,.slice a q.length c,.int .i64 W,.map (some (w.heap.size+1))] 139)
  rw[hs2] at this
  rw[←hw3];exact this
 have HW3:=hD0 hw3
 clear hw3 hs1 hs2
 go_enter func81,ntmps81
 go_wp2_with fail
 go_at_call 92
 rw[HW3.out]
 refine(HCl.out _ hN3).mono ?_
 rintro e w4 ⟨v1,rfl,g4,hO4⟩
 have hL4:=g4.at' hL
 have h5:=Vq (j:=2) v1 hL4
 have hN5:Nw w (w4.setCell ⟨w.heap.size+1+1,2,none⟩ v1):=(hN3.trans g4).st (by show w.heap.size≤w.heap.size+1+1;omega) v1
 have hO5:Z7 (w4.setCell ⟨w.heap.size+1+1,2,none⟩ v1) w.heap.size v1 q:=Zby (Z0i hO4 (p:=⟨w.heap.size+1+1,2,none⟩) (Z1 hL) v1) (fun g hg=>by have:=oge hO4 hg;have:=hN3.sz;omega)
 have hM5:Ya (w4.setCell ⟨w.heap.size+1+1,2,none⟩ v1) (w.heap.size+1) 0 (fun _=>0):=(hM.nw g4).kept (Ve w4 _ v1) (by simp)
 have hLn:Ln (w4.setCell ⟨w.heap.size+1+1,2,none⟩ v1) w.heap.size (w.heap.size+1+1) t r W v1 (w.heap.size+1) 0 q (fun _=>0):=⟨h5,hO5,hM5,by omega,by omega⟩
 obtain⟨a1,c1,rfl⟩:=(Z7.rd hO5).form
 have l0:=Z0 (j:=0) hL4
 have l1:=Z0 (j:=1) hL4
 have l2:=Z0 (j:=2) hL4
 have l3:=Z0 (j:=3) hL4
 have l4:=Z0 (j:=4) hL4
 have fz:=fun k=>hfz (j:=k) hL4
 have hsl:=Z1 hL4
 have HLn:=hD0 (aI0 hN5 hLn)
 clear hLn hN5 hO5 hM5 h5 hO4 hM hB hL4 hL hN3 g4
 go_wp2
 have hp5:w.heap.size+1+1<(w4.setCell ⟨w.heap.size+1+1,2,none⟩ (.slice a1 q.length c1)).heap.size:=Z1 HLn.out.2.obj
 generalize w4.setCell ⟨w.heap.size+1+1,2,none⟩ (.slice a1 q.length c1)=w5 at *
 obtain⟨p,hp⟩:∃p,w.heap.size+1+1=p:=⟨_,rfl⟩
 obtain⟨b,hb⟩:∃b,w.heap.size+1=b:=⟨_,rfl⟩
 rw[hp,hb] at HLn
 rw[hp,hb] 
 rw[hp] at hp5
 clear HW3 HCl l0 l1 l2 l3 l4 fz hsl hp hb hmm
 go_loopw [23] (fun i wr=>∃(k n:Nat),k≤q.length∧i=.int .i64 k∧n=k∧Ln wr w.heap.size p t r W (.slice a1 q.length c1) b n q (Zk (q.take k))∧Nw w wr) (fun i _=>q.length-(intOf i).toNat)
 case atStart=>exact⟨0,0,Nat.zero_le _,rfl,rfl,HLn.out.2,HLn.out.1⟩
 case round =>
  obtain⟨k,n,hk,rfl,hn,hLn,hN⟩:=hrel
  by_cases Z1:k<q.length
  ·obtain⟨g,cap,e,hg1,hg2,hce⟩:=Z7.at hLn.own Z1
   simp only[Value.slice.injEq,true_and] at e
   obtain⟨rfl,rfl⟩:=e
   have hkR:=HK.out _ (gM0 Z1)
   have hTk:Zk (q.take (k+1))=Z0u (Zk (q.take k)) q[k].md (Zk (q.take k) q[k].md+1):=by
    rw[←Z68,List.take_add_one,List.getElem?_eq_getElem Z1];rfl
   have hbd:=Z28 (q.take k) q[k].md
   have htl:=List.length_take_le k q
   generalize q[k]=R at *
   obtain⟨b0,b1,b2,b3,b4⟩:=R
   simp only at hkR hTk hbd
   have e0:=hce 0 _ rfl
   have e1:=hce 1 _ rfl
   have e2:=hce 2 _ rfl
   have e3:=hce 3 _ rfl
   have e4:=hce 4 _ rfl
   simp only[Nat.add_zero] at e0
   have g6:Nw wr (wr.alloc (.cells #[.int .i64 b0,.int .i64 b1,.int .i64 b2,.int .i64 b3,.int .i64 b4] 43)):=(Nw.refl wr).alloc _
   have hq6:=RqB.made wr b0 b1 b2 b3 b4 43
   obtain⟨w6,hw6⟩:∃w6,wr.alloc (.cells #[.int .i64 b0,.int .i64 b1,.int .i64 b2,.int .i64 b3,.int .i64 b4] 43)=w6:=⟨_,rfl⟩
   rw[hw6] at g6 hq6
   have HW6:=hD0 hw6
   have hL6:=hLn.nw g6
   obtain⟨hlq,-,-,q2,-,-⟩:=hq6
   have hp6:=Z9g hL6.obj
   have m4:=Z0 (j:=4) hL6.obj
   have hlk:=(hL6.map.nw (Nw.refl w6).drewQ).look hkR
   obtain⟨x,hx⟩:∃x,Zk (q.take k) b2=x:=⟨_,rfl⟩
   rw[hx] at hlk hTk hbd
   obtain⟨x1,hx1⟩:∃x1,x+1=x1:=⟨_,rfl⟩
   have hwx:IntKind.i64.wrap (x+1)=x1:=by rw[IntKind.wrap_i64];omega
   obtain⟨w7,r7,hM7,hG7⟩:=(hL6.map.nw (Nw.refl w6).drewQ).put (by omega) hkR (x:=x1) (by omega) (by omega)
   have hL7:=(hL6.nw (Nw.refl w6).drewQ).put hM7 hG7
   rw[←hx1,←hTk] at hL7
   have hN7:Nw w w7:=(hN.trans (g6.trans (Nw.refl w6).drewQ)).gro hG7 (fun k hk=>by rw[←Option.some.inj hk];exact hLn.gb)
   have HL7:=hD0 (aI0 hL7 hN7)
   have H7:=hD0 r7
   clear hLn hN hce hg1 hkR hTk hL6 hx r7 hM7 hG7 hL7 hN7 hbd htl hw6 g6 hx1
   go_wp2
   rw[HW6.out]
   refine wp_region_still_tail 8 (by kernel_rfl) (by kernel_rfl) ?_
   simp only[List.take_succ_cons,List.take_zero,List.drop_succ_cons,List.drop_zero]
   repeat still_step
   try refine wpStill_nil ?_
   change wpList _ _ _ _ _ w6.drew
   go_wp2_with (at_mapUpdate;refine Z1c rfl (.tmp 30) (.tmp 32) (.tmp 34) 137 rfl _ _ _ _ rfl rfl rfl H7.out ?_)
   go_roundw
   case rel=>exact⟨k+1,_,by omega,by go_num,by omega,HL7.out.1,HL7.out.2⟩
   case measure=>simp[intOf];omega
  ·obtain rfl:k=q.length:=by omega
   rw[List.take_length] at hLn
   have HF:=hD0 (aI0 hN hLn)
   clear hN hLn
   go_wp2
   go_ret
   exact⟨_,_,_,_,rfl,HF.out.1,HF.out.2,by omega⟩
end
section
open Go.RowKit Go.Maps Go.ChangeMaps
theorem Z4q(q:List Rq)(k:Nat)(hk:k<q.length)(R:Rq):Zk (q.set k R)=Z0u (Z0u (Zk q) q[k].md (Zk q q[k].md-1)) R.md (Z0u (Zk q) q[k].md (Zk q q[k].md-1) R.md+1):=by
 have e:q=q.take k++q[k]::q.drop (k+1):=by rw[←List.drop_eq_getElem_cons hk,List.take_append_drop]
 have hs:q.set k R=q.take k++R::q.drop (k+1):=by
  have:=Z8b (q.take k) (q.drop (k+1)) q[k] R k (by simp;omega)
  rwa [←e] at this
 have c1:∀x,Zk (q.set k R) x=((q.take k).countP fun R=>R.md==x:Nat)+((q.drop (k+1)).countP fun R=>R.md==x:Nat)+(if R.md=x then 1 else 0):=by
  intro x
  unfold Zk
  rw[hs,List.countP_append,List.countP_cons]
  simp only[beq_iff_eq]
  split<;>omega
 have c2:∀x,Zk q x=((q.take k).countP fun R=>R.md==x:Nat)+((q.drop (k+1)).countP fun R=>R.md==x:Nat)+(if q[k].md=x then 1 else 0):=by
  intro x
  have:Zk q x=Zk (q.take k++q[k]::q.drop (k+1)) x:=by rw[←e]
  rw[this]
  unfold Zk
  rw[List.countP_append,List.countP_cons]
  simp only[beq_iff_eq]
  split<;>omega
 funext x
 rw[c1 x]
 unfold Z0u
 have h2:=c2 x
 have h3:=c2 R.md
 have h4:=c2 q[k].md
 simp only[if_true] at h4
 by_cases a:x=R.md
 ·subst a
  rw[if_pos rfl]
  by_cases d:R.md=q[k].md
  ·rw[if_pos d,←d];rw[←d] at h2;simp only[if_true] at h2 ⊢;omega
  ·rw[if_neg d];rw[if_neg (fun e=>d e.symm)] at h2;simp only[if_true];omega
 ·rw[if_neg a,if_neg (fun e=>a e.symm)]
  by_cases d:x=q[k].md
  ·rw[if_pos d,←d];rw[←d] at h2;simp only[if_true] at h2;omega
  ·rw[if_neg d];rw[if_neg (fun e=>d e.symm)] at h2;omega
theorem Ln.row{w:World}{g0 p:Nat}{t r W:Int}{v:Value}{b n:Nat}{q q':List Rq}{c:Int→Int}(h:Ln w g0 p t r W v b n q c){a:Addr}(ha:v.ownBlock=some a.block)(u:Value)(ho:Z7 (w.setCell a u) g0 v q'):Ln (w.setCell a u) g0 p t r W v b n q' c :=
 ⟨((Ve w a u).block p (Z1 h.obj) (fun e=>h.vp (ha.trans e.symm))).trans h.obj,ho,h.map.kept (Ve w a u) (fun e=>h.vb (ha.trans e.symm)),h.gp,h.gb⟩
theorem Zgd{w:World}{g0 p g cap b n:Nat}{t r W:Int}{q:List Rq}{c:Int→Int}(h:Ln w g0 p t r W (.slice (some ⟨g,0,none⟩) q.length cap) b n q c)(k:Nat)(hk:k<q.length)(hkm:Zq q[k].md=true)(hkw:Zq q[k].wt=true)(hb:∀x,0≤c x∧c x≤100000)(hn:n<900000)(hl:q.length≤1000) :
  Calls prog 115 #[.pointer (some ⟨p,0,none⟩),.int .i64 k] w fun e w'=>e=.returned (.tuple #[]) ∧
   Ln w' g0 p t r W (.slice (some ⟨g,0,none⟩) q.length cap) b (n+2) (q.set k (U9 q[k])) (Z0u (Z0u c q[k].md (c q[k].md-1)) q[k].wt (Z0u c q[k].md (c q[k].md-1) q[k].wt+1))∧Z3 (fun i=>i=b∨i=g) w w':=by
 have hbd:=hb q[k].md
 have hbd2:-1≤Z0u c q[k].md (c q[k].md-1) q[k].wt∧Z0u c q[k].md (c q[k].md-1) q[k].wt≤100000:=by
  unfold Z0u
  have:=hb q[k].wt
  split<;>omega
 have hki:(k:Int)<(q.length:Int):=by omega
 have hLd:=h.nw (Nw.refl w).drewQ
 have hlk:=hLd.map.look hkm
 obtain⟨x,hx⟩:∃x,c q[k].md=x:=⟨_,rfl⟩
 rw[hx] at hlk hbd hbd2 ⊢
 obtain⟨x1,hx1⟩:∃x1,x-1=x1:=⟨_,rfl⟩
 rw[hx1] at hbd2 ⊢
 have hwx:IntKind.i64.wrap (x-1)=x1:=by rw[IntKind.wrap_i64];omega
 obtain⟨w1,r1,hM1,hG1⟩:=hLd.map.put (by omega) hkm (x:=x1) (by omega) (by omega)
 have hL1:=hLd.put hM1 hG1
 have hcs:∀(x:World),Z7 x g0 (.slice (some ⟨g,0,none⟩) q.length cap) q→∀j u,(Zi q[k])[j]?=some u→x.cell? ⟨g,k*5+j,none⟩=some u:=fun x ho j u hu=>Yq ho rfl k hk j u hu
 have hcw:=hcs _ h.own
 have hc1:=hcs _ hL1.own
 have hf1:=fun j=>Z0h hL1.own rfl j
 have hup:=Y3 (Y3 hL1.own rfl k hk 2 (by decide) (.int .i64 q[k].wt) ⟨q[k].id,q[k].txn,q[k].wt,q[k].wt,q[k].sn⟩ rfl) (by rw[List.length_set]) k (by rw[List.length_set];exact hk) 4 (by decide) (.int .i64 0) (U9 q[k]) (by rw[List.getElem_set_self];rfl)
 rw[List.set_set] at hup
 have hup1:=Y3 hL1.own rfl k hk 2 (by decide) (.int .i64 q[k].wt) ⟨q[k].id,q[k].txn,q[k].wt,q[k].wt,q[k].sn⟩ rfl
 have hL2':=hL1.row (a:=⟨g,k*5+2,none⟩) rfl (.int .i64 q[k].wt) hup1
 have hL2:=hL2'.row (a:=⟨g,k*5+4,none⟩) rfl (.int .i64 0) hup
 obtain⟨w2,hw2⟩:∃w2,(w1.setCell ⟨g,k*5+2,none⟩ (.int .i64 q[k].wt)).setCell ⟨g,k*5+4,none⟩ (.int .i64 0)=w2:=⟨_,rfl⟩
 have hT2:Z3 (fun i=>i=b∨i=g) w w2:=by
  rw[←hw2]
  exact(((Z3.nw (Nw.refl w).drewQ).grown hG1 (fun k hk=>.inl (.inl (Option.some.inj hk).symm))).set (p:=⟨g,k*5+2,none⟩) (.inl (.inr rfl)) _).set (p:=⟨g,k*5+4,none⟩) (.inl (.inr rfl)) _
 rw[hw2] at hL2
 have hLd2:=hL2.nw (Nw.refl w2).drewQ
 have hlk2:=hLd2.map.look hkw
 obtain⟨y,hy⟩:∃y,Z0u c q[k].md x1 q[k].wt=y:=⟨_,rfl⟩
 rw[hy] at hlk2 hbd2 ⊢
 obtain⟨y1,hy1⟩:∃y1,y+1=y1:=⟨_,rfl⟩
 rw[hy1]
 have hwy:IntKind.i64.wrap (y+1)=y1:=by rw[IntKind.wrap_i64];omega
 obtain⟨w3,r3,hM3,hG3⟩:=hLd2.map.put (by omega) hkw (x:=y1) (by omega) (by omega)
 have hL3:=hLd2.put hM3 hG3
 have hT3:Z3 (fun i=>i=b∨i=g) w w3:=(hT2.drewN 1).grown hG3 (fun k hk=>.inl (.inl (Option.some.inj hk).symm))
 have HE:=hD0 (aI0 hL3 hT3)
 have hpl:=Z1 h.obj
 have hgl:=olt h.own rfl
 have p2:=Z0 (j:=2) h.obj
 have p4:=Z0 (j:=4) h.obj
 have hpl1:=Z1 hL1.obj
 have hgl1:=olt hL1.own rfl
 have p12:=Z0 (j:=2) hL1.obj
 have p14:=Z0 (j:=4) hL1.obj
 have hpl2:=Z1 hL2.obj
 have hgl2:=olt hL2.own rfl
 have p22:=Z0 (j:=2) hL2.obj
 have p24:=Z0 (j:=4) hL2.obj
 have hc2:=Yq hL2.own (by rw[List.length_set]) k (by rw[List.length_set];exact hk) 2 (.int .i64 q[k].wt) (by rw[List.getElem_set_self];rfl)
 have R1:=hD0 r1
 have R3:=hD0 r3
 have HW2:=hD0 hw2
 have a2:=hcw 2 _ rfl
 have a3:=hcw 3 _ rfl
 have b2:=hc1 2 _ rfl
 have b3:=hc1 3 _ rfl
 have b4:=hc1 4 _ rfl
 clear h hb hLd hx hx1 hbd hbd2 hM1 hG1 hL1 hcs hcw hc1 hup hup1 hL2' hL2 hw2 hT2 hLd2 hy hy1 hM3 hG3 hL3 hT3 r1 r3 hkm hkw hn hl
 generalize q[k]=R at *
 obtain⟨d0,d1,d2,d3,d4⟩:=R
 simp only at *
 go_enter func115,ntmps115
 go_wp2
 refine wp_region_still_tail 10 (by kernel_rfl) (by kernel_rfl) ?_
 simp only[List.take_succ_cons,List.take_zero,List.drop_succ_cons,List.drop_zero]
 repeat still_step
 try refine wpStill_nil ?_
 change wpList _ _ _ _ _ w.drew
 go_wp2_with (at_mapUpdate;refine Z1c rfl (.tmp 15) (.tmp 19) (.tmp 21) 137 rfl _ _ _ _ rfl rfl rfl R1.out ?_)
 rw[HW2.out]
 refine wp_region_still_tail 10 (by kernel_rfl) (by kernel_rfl) ?_
 simp only[List.take_succ_cons,List.take_zero,List.drop_succ_cons,List.drop_zero]
 repeat still_step
 try refine wpStill_nil ?_
 change wpList _ _ _ _ _ w2.drew
 go_wp2_with (at_mapUpdate;refine Z1c rfl (.tmp 35) (.tmp 39) (.tmp 41) 137 rfl _ _ _ _ rfl rfl rfl R3.out ?_)
 exact bodyPost_end (results_none rfl _ _ _) rfl ⟨rfl,HE.out⟩
end
section
open Go.RowKit Go.Maps Go.ChangeMaps
theorem Zj3{P:Program}{ops:Array Oper}{o:Oper}{a:Act}{w:World}{K:Act→World→Prop}{Q:Exit→Act→World→Prop}{E:Prop}(hgd:o.guard=none)(s x:Operand)(t:TypeId)
  (ho:o.op=.call { callee:=.builtin .append,args:=#[s,x],argTypes:=#[t,t] }) (v u v':Value) (w':World) (hs:a.eval s=v) (hx:a.eval x=u) (hr:(Builtin.append_ #[t,t] o.type #[v,u]).run P w=.ok v' w')
  (h:K (a.put o.dst v') w'):if Region.wanted o (yielded ops a.tmps)=true then Oper.wp P o a w K Q else E:=by
 have hw:Region.wanted o (yielded ops a.tmps)=true:=by simp[Region.wanted,hgd]
 rw[if_pos hw]
 unfold Oper.wp execOp
 simp only[ho,resolve,invoke,builtin,Sem.run_bind,Sem.run_pure,Result.andThen_ok,List.map_toArray,List.map_cons,List.map_nil,hs,hx,hr]
 exact h
theorem Zr5{w:World}{g0 p b n:Nat}{t r W:Int}{v:Value}{q:List Rq}{c:Int→Int}(h:Ln w g0 p t r W v b n q c)(R:Rq)(hkm:Zq R.md=true)(hb:∀x,0≤c x∧c x≤100000)(hn:n<900000)(hl:q.length≤1000) :
  Calls prog 83 #[.pointer (some ⟨p,0,none⟩),rqV R] w fun e w'=>e=.returned (.int .i64 q.length)∧∃v',Ln w' g0 p t r W v' b (n+1) (q++[R]) (Z0u c R.md (c R.md+1))∧Below g0 w w':=by
 have hbd:=hb R.md
 obtain⟨d0,d1,d2,d3,d4⟩:=R
 simp only at *
 have g1:Nw w (w.alloc (.cells #[.int .i64 d0,.int .i64 d1,.int .i64 d2,.int .i64 d3,.int .i64 d4] 43)):=(Nw.refl w).alloc _
 have hq1:=RqB.made w d0 d1 d2 d3 d4 43
 obtain⟨w1,hw1⟩:∃w1,w.alloc (.cells #[.int .i64 d0,.int .i64 d1,.int .i64 d2,.int .i64 d3,.int .i64 d4] 43)=w1:=⟨_,rfl⟩
 rw[hw1] at g1 hq1
 have hL1:=h.nw g1
 have g2:Nw w1 ((w1.alloc (.cells #[.int .i64 d0,.int .i64 d1,.int .i64 d2,.int .i64 d3,.int .i64 d4] 43)).drew):=((Nw.refl w1).alloc _).drewN 1
 have hbx:=RqB.made w1 d0 d1 d2 d3 d4 43
 have hL2:=hL1.nw g2
 have hg2:g0≤w1.heap.size:=by have:=hL1.gp;have:=Z1 hL1.obj;omega
 obtain⟨v',w3,r3,hO3,hG3,hv3,⟨g',cap',hv'⟩⟩:=Up.push Zgq hL2.own ⟨d0,d1,d2,d3,d4⟩ w1.heap.size 1 (fun j u hu=>(hbx.nw ((Nw.refl _).drewN 1)).cells j u hu) (by omega) (Nat.le_trans hg2 g2.sz)
 have hvp:=hL2.vp
 have hvb:=hL2.vb
 have ho3:w3.heap[p]?=some _:=(hG3.block p (Z1 hL2.obj) (fun e=>hvp e.symm)).trans hL2.obj
 have hM3:=hL2.map.kept hG3 (fun e=>hvb e.symm)
 have hb3:=Vq (j:=2) v' ho3
 have hp3:v'.ownBlock≠some p:=fun e=>by
  obtain⟨cs,hc⟩:=Z6r hO3 e
  rw[ho3] at hc
  injection hc with hc
  injection hc with _ hc
  exact absurd hc.symm Zao
 have hL4:Ln (w3.setCell ⟨p,2,none⟩ v') g0 p t r W v' b n (q++[⟨d0,d1,d2,d3,d4⟩]) c :=
  ⟨hb3,Za1 hO3 (Ve w3 _ v') (fun g hv e=>hp3 (hv.trans e.symm)),hM3.kept (Ve w3 _ v') (fun e=>hL2.bp (Option.some.inj e)),hL2.gp,hL2.gb⟩
 have hB4:Below g0 w (w3.setCell ⟨p,2,none⟩ v'):=by
  have b2:Z3 (fun i=>g0≤i) w ((w1.alloc (.cells #[.int .i64 d0,.int .i64 d1,.int .i64 d2,.int .i64 d3,.int .i64 d4] 43)).drew):=Z3.nw (g1.trans g2)
  have b3:=(b2.grown hG3 (fun k hk=>.inl (oge h.own hk))).set (p:=⟨p,2,none⟩) (.inl h.gp) v'
  exact⟨b3.os,b3.tape,b3.output,b3.size,fun k hk=>b3.block k (by have:=h.gp;have:=Z1 h.obj;omega) (by omega)⟩
 obtain⟨w4,hw4⟩:∃w4,w3.setCell ⟨p,2,none⟩ v'=w4:=⟨_,rfl⟩
 rw[hw4] at hL4 hB4
 have hlk:=(hL4.map.nw (Nw.refl w4).drewQ).look hkm
 obtain⟨x,hx⟩:∃x,c d2=x:=⟨_,rfl⟩
 rw[hx] at hlk hbd ⊢
 obtain⟨x1,hx1⟩:∃x1,x+1=x1:=⟨_,rfl⟩
 rw[hx1]
 have hwx:IntKind.i64.wrap (x+1)=x1:=by rw[IntKind.wrap_i64];omega
 obtain⟨w5,r5,hM5,hG5⟩:=(hL4.map.nw (Nw.refl w4).drewQ).put (by omega) hkm (x:=x1) (by omega) (by omega)
 have hL5:=(hL4.nw (Nw.refl w4).drewQ).put hM5 hG5
 have hB5:Below g0 w w5:=by
  have b3:Z3 (fun i=>g0≤i) w w5:=(((⟨hB4.os,hB4.tape,hB4.output,hB4.size,fun k _ hk=>hB4.block k (by omega)⟩:Z3 (fun i=>g0≤i) w w4)).drewN 1).grown hG5 (fun k hk=>.inl (by rw[←Option.some.inj hk];exact h.gb))
  exact⟨b3.os,b3.tape,b3.output,b3.size,fun k hk=>b3.block k (by have:=h.gp;have:=Z1 h.obj;omega) (by omega)⟩
 have HE:=hD0 (aI0 hL5 hB5)
 have hwq:IntKind.i64.wrap (q.length:Int)=(q.length:Int):=by rw[IntKind.wrap_i64];omega
 have hwq2:wrap64 (q.length:Int)=(q.length:Int):=by unfold wrap64;omega
 obtain⟨a0,c0,hvf⟩:=(Z7.rd hL1.own).form
 have hpl1:=Z1 hL1.obj
 have p12:=Z0 (j:=2) hL1.obj
 have hpl4:=Z1 hL4.obj
 have p44:=Z0 (j:=4) hL4.obj
 have hpl5:=Z1 hL5.obj
 have p52:=Z0 (j:=2) hL5.obj
 obtain⟨hlq1,y0,y1,y2,y3,y4⟩:=hq1
 have hB34:w4.cell? ⟨w.heap.size,2,none⟩=some (.int .i64 d2):=by
  have hne:w.heap.size≠p:=fun e=>by have:=Z1 h.obj;omega
  have hnv:v.ownBlock≠some w.heap.size:=fun e=>by have:=olt h.own e;omega
  have e3:w3.heap[w.heap.size]?=w1.heap[w.heap.size]?:=(hG3.block _ (lL0 hlq1 g2.sz) (fun e=>hnv e.symm)).trans (g2.block _ hlq1)
  have e4:w4.heap[w.heap.size]?=w1.heap[w.heap.size]?:=by
   rw[←hw4]
   exact((Ve w3 ⟨p,2,none⟩ v').block _ (lL0 hlq1 (Nat.le_trans g2.sz hG3.size)) (fun e=>hne (Option.some.inj e))).trans e3
  exact(World.cell?_of_block e4).trans y2
 have hB34l:w.heap.size<w4.heap.size:=World.block_lt_of_cell? _ _ hB34
 have R3:=hD0 r3
 have R5:=hD0 r5
 have HW1:=hD0 hw1
 have HW4:=hD0 hw4
 have hc3:=Z0 (j:=2) ho3
 have hf3:=hfz (j:=2) ho3
 subst hvf hv'
 clear h hb hL1 g1 g2 hbx hL2 hg2 hO3 hG3 hv3 hvp hvb ho3 hM3 hb3 hp3 hL4 hB4 hx hx1 hbd hM5 hG5 hL5 hB5 r3 r5 hw1 hw4 hkm hn hl
 unfold rqV
 go_enter func83,ntmps83
 go_wp2
 rw[HW1.out]
 go_region_law (refine Zj3 rfl (.tmp 10) (.tmp 12) 81 rfl _ _ _ _ rfl rfl R3.out ?_)
 all_goals
  go_wp2
  rw[HW4.out]
  refine wp_region_still_tail 8 (by kernel_rfl) (by kernel_rfl) ?_
  simp only[List.take_succ_cons,List.take_zero,List.drop_succ_cons,List.drop_zero]
  repeat still_step
  try refine wpStill_nil ?_
  change wpList _ _ _ _ _ w4.drew
  go_wp2_with (at_mapUpdate;refine Z1c rfl (.tmp 20) (.tmp 22) (.tmp 24) 137 rfl _ _ _ _ rfl rfl rfl R5.out ?_)
  go_ret
  exact⟨rfl,_,HE.out⟩
end
section
open Go.RowKit Go.Maps Go.ChangeMaps
def enR(R:Rq)(W:Int):Rq:=⟨R.id,R.txn,R.md,R.wt,W+1⟩
def ahB(q:List Rq)(R:Rq):Bool:=q.any fun X=>decide (0<X.sn)&&decide (toI X R<0)
theorem Z13(q:List Rq)(k:Nat)(hk:k<q.length)(R:Rq)(hm:R.md=q[k].md):Zk (q.set k R)=Zk q:=by
  rw[Z4q q k hk R]
  funext x
  unfold Z0u
  rw[hm]
  by_cases e:x=q[k].md
  · rw[if_pos e,if_pos rfl,e];omega
  · rw[if_neg e,if_neg e]
theorem Ln.eq{w:World}{g0 p:Nat}{t r W:Int}{v:Value}{b n:Nat}{q:List Rq}{c c':Int→Int}(h:Ln w g0 p t r W v b n q c)(e:c=c'):Ln w g0 p t r W v b n q c':=e▸h
theorem Ln.wts{w:World}{g0 p:Nat}{t r W:Int}{v:Value}{b n:Nat}{q:List Rq}{c:Int→Int}(h:Ln w g0 p t r W v b n q c)(W':Int):Ln (w.setCell ⟨p,3,none⟩ (.int .i64 W')) g0 p t r W' v b n q c :=
  ⟨Vq (j:=3) _ h.obj,Za1 h.own (Ve w _ _) (fun g hv e=>h.vp (hv.trans e.symm)),h.map.kept (Ve w _ _) (fun e=>h.bp (Option.some.inj e)),h.gp,h.gb⟩
theorem Z4k{g0:Nat}{w w':World}(h:Below g0 w w'){p:Nat}(hp:g0≤p)(j:Nat)(u:Value):Below g0 w (w'.setCell ⟨p,j,none⟩ u):=Below.setCell h hp u
theorem Znz{w:World}{g0 p b n:Nat}{t r W:Int}{v:Value}{q:List Rq}(h:Ln w g0 p t r W v b n q (Zk q))(k:Nat)(hk:k<q.length)(hW:0≤W∧W≤4611686018427387904)(hkn:∀R∈q,Zq R.md=true)(hkw:Zq q[k].wt=true)(hn:n<800000)(hl:q.length≤1000)
    (B1 B2:Bool) (hB1:Z0x (Zk q) q[k].md q[k].wt=B1) (hB2:ahB (q.set k (enR q[k] W)) (enR q[k] W)=B2) :
    Calls prog 82 #[.pointer (some ⟨p,0,none⟩),.int .i64 k] w fun e w'=>e=.returned (.bool (B1&&!B2))∧Below g0 w w'∧∃n',n'≤n+2 ∧
      (if (B1&&!B2)=true then Ln w' g0 p t r W v b n' (q.set k ⟨q[k].id,q[k].txn,q[k].wt,q[k].wt,0⟩) (Zk (q.set k ⟨q[k].id,q[k].txn,q[k].wt,q[k].wt,0⟩))else Ln w' g0 p t r (W+1) v b n' (q.set k (enR q[k] W)) (Zk (q.set k (enR q[k] W)))):=by
  obtain⟨g,cap,rfl,hg0,hgl,hce⟩:=Z7.at h.own hk
  have hki:(k:Int)<(q.length:Int):=by omega
  have hf0:=fun j=>Z0h h.own rfl j
  have hup1:=Y3 h.own rfl k hk 4 (by decide) (.int .i64 (W+1)) (enR q[k] W) rfl
  have hL1:=(h.row (a:=⟨g,k*5+4,none⟩) rfl (.int .i64 (W+1)) hup1).eq (Z13 q k hk (enR q[k] W) rfl).symm
  obtain⟨w1,hw1⟩:∃w1,w.setCell ⟨g,k*5+4,none⟩ (.int .i64 (W+1))=w1:=⟨_,rfl⟩
  have hb1:Below g0 w w1:=by
    have b3:=(Z3.refl (fun i=>g0≤i) w).set (p:=⟨g,k*5+4,none⟩) (.inl hg0) (.int .i64 (W+1))
    rw[hw1] at b3
    exact⟨b3.os,b3.tape,b3.output,b3.size,fun k hk=>b3.block k (by have:=h.gp;have:=Z1 h.obj;omega) (by omega)⟩
  rw[hw1] at hL1
  have hlen1:(q.set k (enR q[k] W)).length=q.length:=by simp
  obtain⟨q1,hq1⟩:∃q1,q.set k (enR q[k] W)=q1:=⟨_,rfl⟩
  rw[hq1] at hL1 hB2 hlen1 ⊢
  have hk1:k<q1.length:=by omega
  have hq1k:q1[k]=enR q[k] W:=by subst hq1;simp
  have hcnt:Zk q1=Zk q:=by rw[←hq1];exact Z13 q k hk _ rfl
  have hmd:Zq q[k].md=true:=hkn _ (gM0 hk)
  have Vq:q1.set k ⟨q[k].id,q[k].txn,q[k].wt,q[k].wt,0⟩=q.set k ⟨q[k].id,q[k].txn,q[k].wt,q[k].wt,0⟩:=by rw[←hq1,List.set_set]
  have hmin:min W 9223372036854775806=W:=by omega
  have hwW:IntKind.i64.wrap (W+1)=W+1:=by rw[IntKind.wrap_i64];omega
  have e2:=hce 2 _ rfl
  have e3:=hce 3 _ rfl
  have e4:=hce 4 _ rfl
  have hpl:=Z1 h.obj
  have p2:=Z0 (j:=2) h.obj
  have p3:=Z0 (j:=3) h.obj
  have HW1:=hD0 hw1
  have hc1:∀j u,(Zi (enR q[k] W))[j]?=some u→w1.cell? ⟨g,k*5+j,none⟩=some u:=fun j u hu=>Yq hL1.own hlen1.symm k hk1 j u (by rw[hq1k];exact hu)
  have hpl1:=Z1 hL1.obj
  have hgl1:=olt hL1.own rfl
  have s0:∀x,Nw w1 x→x.cell? ⟨g,k*5,none⟩=some (.int .i64 q[k].id):=fun x hx=>hx.kp (hc1 0 _ rfl)
  have s1:∀x,Nw w1 x→x.cell? ⟨g,k*5+1,none⟩=some (.int .i64 q[k].txn):=fun x hx=>hx.kp (hc1 1 _ rfl)
  have s2:∀x,Nw w1 x→x.cell? ⟨g,k*5+2,none⟩=some (.int .i64 q[k].md):=fun x hx=>hx.kp (hc1 2 _ rfl)
  have s3:∀x,Nw w1 x→x.cell? ⟨g,k*5+3,none⟩=some (.int .i64 q[k].wt):=fun x hx=>hx.kp (hc1 3 _ rfl)
  have s4:∀x,Nw w1 x→x.cell? ⟨g,k*5+4,none⟩=some (.int .i64 (W+1)):=fun x hx=>hx.kp (hc1 4 _ rfl)
  have s5:∀x,Nw w1 x→x.cell? ⟨p,2,none⟩=some (.slice (some ⟨g,0,none⟩) q.length cap):=fun x hx=>hx.kp (Z0 (j:=2) hL1.obj)
  have HFt:=hD0 (fun(x:World) (hx:Nw w1 x)=>by
    have hLx:=hL1.nw hx
    have:=Zn4 p b n (Zk q1) q[k].md q[k].wt _ _ _ _ _ x hLx.obj hLx.map (fun y=>by have:=Z28 q1 y;omega) hkw
    rw[hcnt,hB1] at this
    exact this)
  have HAh:=hD0 (Zgb (enR q[k] W))
  have HCo:=hD0 (fun(x:World) (hx:Nw w1 x) (f:Value) (hf:Zn x f (fun X=>decide (0<X.sn)&&decide (toI X (enR q[k] W)<0)))=>by
    have hLx:=hL1.nw hx
    have:=Ze3 _ f _ q1 x (by omega) (Z7.rd hLx.own) hf
    rw[show(q1.any fun X=>decide (0<X.sn)&&decide (toI X (enR q[k] W)<0))=B2 from hB2] at this
    exact this)
  have HGr:=hD0 (fun(x:World) (hx:Nw w1 x)=>by
    have hLx:Ln x g0 p t r W (.slice (some ⟨g,0,none⟩) q1.length cap) b n q1 (Zk q1):=by rw[hlen1];exact hL1.nw hx
    have:=Zgd hLx k hk1 (by rw[hq1k];exact hmd) (by rw[hq1k];exact hkw) (fun y=>by have:=Z28 q1 y;omega) (by omega) (by omega)
    rw[hlen1,show U9 q1[k]=⟨q[k].id,q[k].txn,q[k].wt,q[k].wt,0⟩by rw[hq1k];rfl] at this
    refine this.mono (R':=fun e w'=>e=.returned (.tuple #[])∧Ln w' g0 p t r W (.slice (some ⟨g,0,none⟩) q.length cap) b (n+2) (q.set k ⟨q[k].id,q[k].txn,q[k].wt,q[k].wt,0⟩) (Zk (q.set k ⟨q[k].id,q[k].txn,q[k].wt,q[k].wt,0⟩))∧Below g0 w w') ?_
    rintro e w' ⟨h1,h2,h3⟩
    rw[Vq] at h2
    refine⟨h1,h2.eq ?_,?_⟩
    · rw[←Vq,Z4q q1 k hk1]
      rw[hq1k];rfl
    · have b3:Z3 (fun i=>g0≤i) w w':=((⟨hb1.os,hb1.tape,hb1.output,hb1.size,fun k _ hk=>hb1.block k (by omega)⟩:Z3 (fun i=>g0≤i) w w1).trans (Z3.nw hx)).trans' h3 (fun i _ hi=>by rcases hi with rfl | rfl;exact h.gb;exact hg0)
      exact⟨b3.os,b3.tape,b3.output,b3.size,fun k hk=>b3.block k (by have:=h.gp;have:=Z1 h.obj;omega) (by omega)⟩)
  have HL1:=hD0 (aI0 hL1 hb1)
  have HG:=hD0 (aI0 h.gp hg0)
  have f3:=hfz (j:=3) hL1.obj
  clear hcnt hmd Vq hkn hkw hn hB1 hB2 hq1 hq1k hlen1 hk1 hL1 hb1 hup1 hw1 hc1 hW hce h
  generalize q[k]=R at *
  obtain⟨d0,d1,d2,d3,d4⟩:=R
  simp only[enR] at *
  unfold rqV at HAh
  go_enter func82,ntmps82
  go_wp2
  rw[HW1.out]
  have g1:=(Nw.refl w1).drewQ
  cases B1<;>cases B2
  all_goals
   refine Z5 [some true,some true,some true,some true,some true,some true,some true,some true,some true,some false,none,some true,some true,some true,some true,some true,some true,some true,some true,some true,some false,none,some false,none,some true,some true] (Nw w1) (by kernel_rfl) (by kernel_rfl) (by kernel_rfl) g1 ?_
   obtain⟨wc,hwc⟩:∃wc,w1.drew=wc:=⟨_,rfl⟩
   rw[hwc] at g1 ⊢
   clear hwc
   repeat (first
    | (refine HW.off ?_)
    | (refine HW.take' ?_;(first | (refine⟨undef,Or.inr ⟨by rfl,rfl⟩,?_⟩) | (apply Exists.intro;refine⟨Or.inl ⟨by rfl,?_⟩,?_⟩;(intro x hx;go_simp;first | done | with_reducible rfl)));(try simp only[Act.put,List.setIfInBounds_toArray,List.set_cons_zero,List.set_cons_succ]))
    | (refine HW.go (fun K hK=>?_);go_simp;(first
      | (go_at_call 112;(with_reducible refine(HFt.out _ g1).mono ?_);rintro e wy ⟨rfl,g2⟩;refine hK.out _ _ (g1.trans g2) ?_;intro _;replace g1:=g1.trans g2;clear hK K g2)
      | (go_at_call 114;(with_reducible refine(HAh.out _).mono ?_);rintro e wy ⟨pa,rfl,g2,hbx⟩;refine hK.out _ _ (g1.trans g2) ?_;intro _;replace g1:=g1.trans g2;clear hK K g2;replace hbx:=Zn.ahead (S:=⟨d0,d1,d2,d3,W+1⟩) hbx)
      | (go_at_call 113;(with_reducible refine(HCo.out _ g1 _ hbx).mono ?_);rintro e wy ⟨rfl,g2⟩;refine hK.out _ _ (g1.trans g2) ?_;intro _;replace g1:=g1.trans g2;clear hK K g2 hbx)
      | (refine hK.out _ _ g1 ?_;intro _;clear hK K))))
   refine HW.end_ ?_
   refine NoPanic.normal ?_
   replace HL1:=hD0 (aI0 (HL1.out.1.nw g1) (Nw.below (B:=g0) HL1.out.2 g1 (by have:=HG.out.1;omega)))
   have s0':=s0 _ g1
   have s4':=s4 _ g1
   have s5':=s5 _ g1
   have hpl2:=Z1 HL1.out.1.obj
   have hgl2:=olt HL1.out.1.own rfl
   have f3':=hfz (j:=3) HL1.out.1.obj
   have p3':=Z0 (j:=3) HL1.out.1.obj
   clear s0 s1 s2 s3 s4 s5 f3 hf0 p2 p3 hpl hpl1 hgl1 HW1 hmin hwW HFt HAh HCo hgl
  · go_wp2
    go_ret
    exact⟨rfl,Z4k HL1.out.2 HG.out.1 3 _,n,by omega,HL1.out.1.wts _⟩
  · go_wp2
    go_ret
    exact⟨rfl,Z4k HL1.out.2 HG.out.1 3 _,n,by omega,HL1.out.1.wts _⟩
  · go_wp2_with (go_at_call 115;(with_reducible refine(HGr.out _ g1).mono ?_);rintro e wz ⟨rfl,hLz,hBz⟩)
    go_ret
    exact⟨rfl,hBz,_,Nat.le_refl _,hLz⟩
  · go_wp2
    go_ret
    exact⟨rfl,Z4k HL1.out.2 HG.out.1 3 _,n,by omega,HL1.out.1.wts _⟩
end
theorem Z5l{α:Type}(q:List α)(k:Nat)(hk:k<q.length):q=q.take k++q[k]::q.drop (k+1):=by rw[←List.drop_eq_getElem_cons hk,List.take_append_drop]
theorem Zpk{α:Type}(q:List α)(k:Nat)(hk:k<q.length)(x:α):q.set k x=q.take k++x::q.drop (k+1):=by
 have:=Z8b (q.take k) (q.drop (k+1)) q[k] x k (by simp;omega)
 rwa [←Z5l q k hk] at this
theorem Zg6(q:List Rq)(k:Nat)(hk:k<q.length)(x:Int):Zk q x-(if x=q[k].md then 1 else 0)=(((q.take k++q.drop (k+1)).countP fun R=>R.md==x:Nat):Int):=by
 have:Zk q x=Zk (q.take k++q[k]::q.drop (k+1)) x:=by rw[←Z5l q k hk]
 rw[this]
 unfold Zk
 rw[List.countP_append,List.countP_cons,List.countP_append]
 simp only[beq_iff_eq]
 by_cases e:x=q[k].md
 ·rw[if_pos e,if_pos e.symm];omega
 ·rw[if_neg e,if_neg (fun y=>e y.symm)];omega
theorem Z7p(q:List Rq)(k:Nat)(hk:k<q.length)(m:Int)(hkn:∀R∈q,Zq R.md=true):Z0x (Zk q) q[k].md m=(q.take k++q.drop (k+1)).all fun a=>Ui a.md m:=by
 rw[Bool.eq_iff_iff,Z4z,List.all_eq_true]
 have hsub:∀a∈q.take k++q.drop (k+1),a∈q:=fun a ha=>by
  rcases List.mem_append.1 ha with h | h
  ·exact List.mem_of_mem_take h
  ·exact List.mem_of_mem_drop h
 constructor
 ·intro h a ha
  have h1:=h a.md (hkn a (hsub a ha))
  unfold okK at h1
  rw[Zg6 q k hk] at h1
  have h2:0<(q.take k++q.drop (k+1)).countP fun R=>R.md==a.md:=List.countP_pos_iff.2 ⟨a,ha,by simp⟩
  rw[Bool.or_eq_true,decide_eq_true_eq] at h1
  rcases h1 with h1 | h1
  ·omega
  ·exact h1
 ·intro h x hx
  unfold okK
  rw[Zg6 q k hk,Bool.or_eq_true,decide_eq_true_eq]
  by_cases c:0<(q.take k++q.drop (k+1)).countP fun R=>R.md==x
  ·obtain⟨a,ha,e⟩:=List.countP_pos_iff.1 c
   have e':a.md=x:=by simpa using e
   exact .inr (e'▸h a ha)
  ·exact .inl (by omega)
theorem Zqi{a b:Rq}(h1:a.md≠0)(h2:b.md=0):toI a b<0:=by
 have:hoI a b = -1:=by unfold hoI;simp[h1,h2]
 unfold toI;rw[this,if_pos (by decide)];decide
theorem Zqh{a b:Rq}(h1:a.md=0)(h2:b.md≠0):¬toI a b<0:=by
 have:hoI a b=1:=by unfold hoI;simp[h1,h2]
 unfold toI;rw[this,if_pos (by decide)];decide
theorem Zn9{a b:Rq}(h:a.md=0↔b.md=0):toI a b=cmI a.sn b.sn:=by
 have e:(a.md != 0)=(b.md != 0):=by
  by_cases z:a.md=0
  ·rw[z,h.1 z]
  ·have y:b.md≠0:=fun e=>z (h.2 e)
   rw[bne_iff_ne.2 z,bne_iff_ne.2 y]
 have:hoI a b=0:=by unfold hoI;rw[if_pos e]
 unfold toI;rw[this];simp
theorem Zn2{a b:Int}:cmI a b<0↔a<b:=by
 unfold cmI
 by_cases h1:a<b
 ·rw[if_pos h1];exact⟨fun _=>h1,fun _=>by decide⟩
 ·rw[if_neg h1]
  by_cases h2:b<a
  ·rw[if_pos h2];exact⟨fun e=>by omega,fun e=>absurd e h1⟩
  ·rw[if_neg h2];exact⟨fun e=>by omega,fun e=>absurd e h1⟩
theorem Zo{a b:Rq}:toI a b<0↔(a.md≠0∧b.md=0)∨((a.md=0↔b.md=0)∧a.sn<b.sn):=by
 by_cases z:a.md=0
 ·by_cases y:b.md=0
  ·rw[Zn9 (by simp[z,y]),Zn2];simp[z,y]
  ·have:=Zqh z y
   simp[this,z,y]
 ·by_cases y:b.md=0
  ·have:=Zqi z y
   simp[this,z,y]
  ·rw[Zn9 (by simp[z,y]),Zn2];simp[z,y]
theorem Zco{w:World}{g0 p b n:Nat}{t r W:Int}{v:Value}{q:List Rq}(h:Ln w g0 p t r W v b n q (Zk q))(k:Nat)(hk:k<q.length)(hW:0≤W∧W≤4611686018427387904)(hkn:∀R∈q,Zq R.md=true)(hn:n<800000)(hl:q.length≤1000)
  (R:Rq) (hR:q[k]=R) (hkw:Zq R.wt=true) (B:Bool) (hB:(Z0x (Zk q) R.md R.wt&&!ahB (q.set k (enR R W)) (enR R W))=B) :
  Calls prog 82 #[.pointer (some ⟨p,0,none⟩),.int .i64 k] w fun e w'=>e=.returned (.bool B)∧Below g0 w w'∧∃n',n'≤n+2 ∧
   (if B=true then Ln w' g0 p t r W v b n' (q.set k ⟨R.id,R.txn,R.wt,R.wt,0⟩) (Zk (q.set k ⟨R.id,R.txn,R.wt,R.wt,0⟩))else Ln w' g0 p t r (W+1) v b n' (q.set k (enR R W)) (Zk (q.set k (enR R W)))):=by
 subst hR hB
 exact Znz h k hk hW hkn hkw hn hl _ _ rfl rfl
theorem Znr{W:Int}{q:List Rq}(h:Ok W q)(id txn m:Int) :
  (Z0x (Zk (q++[⟨id,txn,0,m,0⟩])) 0 m&&!ahB ((q++[(⟨id,txn,0,m,0⟩:Rq)]).set q.length ⟨id,txn,0,m,W+1⟩) ⟨id,txn,0,m,W+1⟩)=free q m:=by
 have hk:q.length<(q++[(⟨id,txn,0,m,0⟩:Rq)]).length:=by simp
 have e1:=Z7p (q++[⟨id,txn,0,m,0⟩]) q.length hk m (fun R hR=>by
  rcases List.mem_append.1 hR with hR | hR
  ·exact(h.rt R hR).md
  ·rw[List.mem_singleton] at hR;subst hR;rfl)
 rw[show(q++[(⟨id,txn,0,m,0⟩:Rq)])[q.length].md=0 by simp] at e1
 rw[e1]
 rw[show(q++[(⟨id,txn,0,m,0⟩:Rq)]).take q.length=q by simp,show(q++[(⟨id,txn,0,m,0⟩:Rq)]).drop (q.length+1)=[] by simp,List.append_nil]
 rw[show(q++[(⟨id,txn,0,m,0⟩:Rq)]).set q.length ⟨id,txn,0,m,W+1⟩=q++[⟨id,txn,0,m,W+1⟩] by simp]
 have e2:ahB (q++[⟨id,txn,0,m,W+1⟩]) ⟨id,txn,0,m,W+1⟩=q.any fun X=>decide (0<X.sn):=by
  unfold ahB
  rw[List.any_append]
  have z:([(⟨id,txn,0,m,W+1⟩:Rq)].any fun X=>decide (0<X.sn)&&decide (toI X (⟨id,txn,0,m,W+1⟩:Rq)<0))=false:=by
   have:¬toI (⟨id,txn,0,m,W+1⟩:Rq) (⟨id,txn,0,m,W+1⟩:Rq)<0:=by rw[Zo];simp
   simp[this]
  rw[z,Bool.or_false,Bool.eq_iff_iff,List.any_eq_true,List.any_eq_true]
  constructor
  ·rintro⟨x,hx,e⟩
   rw[Bool.and_eq_true] at e
   exact⟨x,hx,e.1⟩
  ·rintro⟨x,hx,e⟩
   have hs:=(h.rt x hx).sW
   have:toI x (⟨id,txn,0,m,W+1⟩:Rq)<0:=by
    rw[Zo]
    by_cases zx:x.md=0
    ·exact .inr ⟨by simp[zx],by show x.sn<W+1;omega⟩
    ·exact .inl ⟨zx,rfl⟩
   exact⟨x,hx,by rw[e];simpa using this⟩
 rw[e2]
 unfold free
 rw[Bool.eq_iff_iff,Bool.and_eq_true,Bool.not_eq_true',List.any_eq_false,List.all_eq_true,List.all_eq_true]
 constructor
 ·rintro⟨h1,h2⟩ x hx
  have:=h2 x hx
  have hs:=(h.rt x hx).s0
  rw[h1 x hx]
  simp at this ⊢
  omega
 ·intro h1
  refine⟨fun x hx=>?_,fun x hx=>?_⟩
  ·have:=h1 x hx
   rw[Bool.and_eq_true] at this
   exact this.2
  ·have:=h1 x hx
   rw[Bool.and_eq_true] at this
   have h2:x.sn=0:=by simpa using this.1
   simp[h2]
theorem Zqz{W:Int}{q:List Rq}(h:Ok W q)(k:Nat)(hk:k<q.length)(hs:q[k].sn=0)(want:Int)(hw:Zq want=true) :
  (Z0x (Zk (q.set k ⟨q[k].id,q[k].txn,q[k].md,want,0⟩)) q[k].md want&&!ahB (q.set k ⟨q[k].id,q[k].txn,q[k].md,want,W+1⟩) ⟨q[k].id,q[k].txn,q[k].md,want,W+1⟩)=upF q q[k] want:=by
 have hz:=((h.rt _ (gM0 hk)).h hs).1
 rw[Z13 q k hk ⟨q[k].id,q[k].txn,q[k].md,want,0⟩ rfl,Z7p q k hk want (fun R hR=>(h.rt R hR).md)]
 obtain⟨hq,hl,hr⟩:=h.nth k hk
 have hst:∀x:Rq,q.set k x=q.take k++x::q.drop (k+1):=fun x=>Zpk q k hk x
 have hmem:∀a,a∈q.take k++q.drop (k+1)↔a∈q∧a.id≠q[k].id:=by
  intro a
  constructor
  ·intro ha
   rcases List.mem_append.1 ha with g | g
   ·exact⟨List.mem_of_mem_take g,hl a g⟩
   ·exact⟨List.mem_of_mem_drop g,hr a g⟩
  ·rintro⟨ha,ne⟩
   rw[hq] at ha
   rcases List.mem_append.1 ha with g | g
   ·exact List.mem_append_left _ g
   ·rcases List.mem_cons.1 g with rfl | g
    ·exact absurd rfl ne
    ·exact List.mem_append_right _ g
 have e2:ahB (q.set k ⟨q[k].id,q[k].txn,q[k].md,want,W+1⟩) ⟨q[k].id,q[k].txn,q[k].md,want,W+1⟩=(q.take k++q.drop (k+1)).any fun X=>decide (0<X.sn)&&(X.md != 0):=by
  unfold ahB
  rw[hst,List.any_append,List.any_cons,List.any_append]
  have z:decide (toI (⟨q[k].id,q[k].txn,q[k].md,want,W+1⟩:Rq) ⟨q[k].id,q[k].txn,q[k].md,want,W+1⟩<0)=false:=by
   have:¬toI (⟨q[k].id,q[k].txn,q[k].md,want,W+1⟩:Rq) ⟨q[k].id,q[k].txn,q[k].md,want,W+1⟩<0:=by rw[Zo];simp
   simpa using this
  rw[z,Bool.and_false,Bool.false_or]
  have key:∀X,X∈q→(decide (0<X.sn)&&decide (toI X ⟨q[k].id,q[k].txn,q[k].md,want,W+1⟩<0))=(decide (0<X.sn)&&(X.md != 0)):=by
   intro X hX
   congr 1
   have hsW:=(h.rt X hX).sW
   rw[Bool.eq_iff_iff,decide_eq_true_eq,Zo]
   simp only[bne_iff_ne,ne_eq]
   constructor
   ·rintro(⟨a,_⟩ | ⟨a,_⟩)
    ·exact a
    ·intro z;exact hz (a.1 z)
   ·intro a
    exact .inr ⟨by simp[a,hz],by show X.sn<W+1;omega⟩
  have c1:∀l:List Rq,(∀x∈l,x∈q)→(l.any fun X=>decide (0<X.sn)&&decide (toI X ⟨q[k].id,q[k].txn,q[k].md,want,W+1⟩<0))=l.any fun X=>decide (0<X.sn)&&(X.md != 0):=by
   intro l
   induction l with
   | nil=>intro _;rfl
   | cons a l ih =>
    intro hl
    rw[List.any_cons,List.any_cons,key a (hl a (by simp)),ih (fun x hx=>hl x (List.mem_cons_of_mem _ hx))]
  rw[c1 _ (fun x hx=>List.mem_of_mem_take hx),c1 _ (fun x hx=>List.mem_of_mem_drop hx)]
 rw[e2]
 unfold upF
 rw[Bool.eq_iff_iff,Bool.and_eq_true,Bool.not_eq_true',List.any_eq_false,List.all_eq_true,List.all_eq_true]
 constructor
 ·rintro⟨h1,h2⟩ x hx
  by_cases e:x.id=q[k].id
  ·simp[e]
  ·have hm:=(hmem x).2 ⟨hx,e⟩
   have a1:=h1 x hm
   have a2:=h2 x hm
   simp only[Bool.not_eq_true] at a2
   rw[a2,a1];simp
 ·intro h1
  refine⟨fun x hx=>?_,fun x hx=>?_⟩
  ·obtain⟨hx',ne⟩:=(hmem x).1 hx
   have:=h1 x hx'
   simp only[beq_eq_false_iff_ne.2 ne,Bool.false_or,Bool.and_eq_true,Bool.or_eq_true,beq_iff_eq] at this
   rcases this.2 with z | z
   ·rw[z,Zcm want hw]
   ·exact z
  ·obtain⟨hx',ne⟩:=(hmem x).1 hx
   have:=h1 x hx'
   simp only[beq_eq_false_iff_ne.2 ne,Bool.false_or,Bool.and_eq_true,Bool.not_eq_true'] at this
   rw[this.1];simp
end Go.Proofs.YtfepoibfbmehiaaGreatDoor
