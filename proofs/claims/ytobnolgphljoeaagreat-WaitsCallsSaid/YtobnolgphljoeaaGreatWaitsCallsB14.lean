/- Texts merged: WcN, WcO, KeysL, WcP, WcQ, WdA, WeH -/
import Derived.Test.YtobnolgphljoeaaGreatWaitsCallsB13
import Derived.Shelf.SlLaysZI
import Derived.Shelf.SlIterI.Nil
set_option linter.unusedVariables false
set_option maxRecDepth 100000
set_option maxHeartbeats 16000000
namespace Go.Proofs.YtobnolgphljoeaaGreat
open Go.RowKit _root_.Go.Proofs.Tryz
section
open Go.RowKit Go.Sort
theorem Z8f{w:World}{g n cap:Nat}{x:Int}{r:List Int}(h:IS w (.slice (some ⟨g,0,none⟩) n cap) (x::r))(hl:r.length≤1000) :
  Calls prog 47 #[.slice (if cap=1 then some ⟨g,0,none⟩else some ⟨g,1,none⟩) r.length (cap-1)] w fun e w'=>e=.returned (.tuple #[])∧IS w' (.slice (some ⟨g,0,none⟩) n cap) (x::r.reverse)∧Zd (fun k=>k=g) w w':=by
 have hn:=h.nlen
 subst hn
 cases r with
 | nil =>
  refine(Tryz.slices_Reverse_int_empty (if cap=1 then some ⟨g,0,none⟩else some ⟨g,1,none⟩) (cap-1) w).mono ?_
  rintro e w' ⟨rfl,rfl⟩
  exact⟨rfl,h,Zd.refl _ _⟩
 | cons y r =>
  have hcap:(x::y::r).length≤cap:=by
   rcases h.2 with⟨q,_⟩ | ⟨g',cap',cur,q,_,_,q4,_⟩
   ·simp at q
   ·simp only[Value.slice.injEq] at q
    omega
  have hc1:¬cap=1:=by simp at hcap;omega
  rw[if_neg hc1]
  have hH:Holds (Value.int .i64) w g 1 (y::r).toArray:=by
   intro j hj
   have hj':j<(y::r).length:=by simpa using hj
   have hc:=h.cell (j+1) (by simp at hj' ⊢;omega)
   refine⟨?_,h.frozen (1+j)⟩
   rw[show 1+j=j+1 by omega,hc]
   have e1:(x::y::r).getD (j+1) 0=(y::r)[j]:=by
    rw[List.getD_eq_getElem?_getD,List.getElem?_cons_succ,List.getElem?_eq_getElem hj'];rfl
   have e2:(y::r).toArray[j]! = (y::r)[j]:=by
    rw[getElem!_pos (y::r).toArray j hj];simp
   rw[e1,e2]
  refine(Tryz.slices_Reverse_int g 1 (cap-1) (y::r) w hH (by omega)).mono ?_
  rintro e w' ⟨rfl,m,rfl⟩
  rcases h.2 with⟨q,_⟩ | ⟨g',cap',cur,q,q0,hb,q4,q5,q6,q7⟩
  ·simp at q
  ·simp only[Value.slice.injEq,Option.some.injEq,Addr.mk.injEq,and_true,true_and] at q
   obtain⟨rfl,rfl⟩:=q
   have hb':(putRow (Value.int .i64) (Sort.ahead w m) g 1 (y::r).reverse.toArray).heap[g]?=some (.cells (putCells (Value.int .i64) 1 (y::r).reverse.toArray cur) 3 (0,0)):=by
    simp[putRow,mapBlock,Sort.ahead,Array.getElem?_modify,hb,onCells]
   have hlen:(x::(y::r).reverse).length=(x::y::r).length:=by simp
   refine⟨rfl,?_,⟨rfl,rfl,rfl,by simp[putRow,mapBlock,Sort.ahead],fun k hk hne=>?_⟩⟩
   ·unfold IS
    rw[hlen]
    refine⟨by simp,.inr ⟨g,cap,_,rfl,q0,hb',q4,q5,by simp[putCells,q6],?_⟩⟩
    apply List.ext_getElem?
    intro j
    by_cases hj:j<(x::y::r).length
    ·have hj1:j<(x::y::r).length*1:=by omega
     rw[List.getElem?_take_of_lt hj1,Array.getElem?_toList]
     have hjc:j<cur.size:=by omega
     rw[show(putCells (Value.int .i64) 1 (y::r).reverse.toArray cur)[j]?=some (if 1≤j∧j<1+(y::r).reverse.toArray.size then Value.int .i64 ((y::r).reverse.toArray[j-1]!)else cur[j]) by
      rw[Array.getElem?_eq_getElem (by simpa [putCells] using hjc)]
      simp[putCells]]
     cases j with
     | zero =>
      rw[if_neg (by omega)]
      have:=congrArg (fun l=>l[0]?) q7
      rw[List.getElem?_take_of_lt (by simp),Array.getElem?_toList,Array.getElem?_eq_getElem hjc] at this
      simpa using this
     | succ j =>
      have hj2:j<(y::r).reverse.length:=by simpa using hj
      rw[if_pos ⟨by omega,by simp at hj2 ⊢;omega⟩]
      simp only[List.map_cons,List.getElem?_cons_succ,Nat.add_sub_cancel]
      rw[List.getElem?_map,List.getElem?_eq_getElem hj2]
      have e2:(y::r).reverse.toArray[j]! = (y::r).reverse[j]:=by
       rw[getElem!_pos (y::r).reverse.toArray j (by simpa using hj2)];simp
      rw[e2];rfl
    ·rw[List.getElem?_take_eq_none (by omega),List.getElem?_eq_none (by simp at hj ⊢;omega)]
   ·have:g≠k:=fun e=>hne e.symm
    simp[putRow,mapBlock,Sort.ahead,Array.getElem?_modify,this]
theorem Z2n{a:Int}{W:List (List Int)}(hn:(W.map (Zl a)).Nodup){r:List Int}(hr:r∈W):Yn a W (Zl a r)=some (Zl a r.tail):=by
 unfold Yn
 have:W.find? (fun q=>Zl a q==Zl a r)=some r:=by
  induction W with
  | nil=>cases hr
  | cons q W ih =>
   rw[List.map_cons,List.nodup_cons] at hn
   rw[List.find?_cons]
   by_cases e:Zl a q=Zl a r
   ·have:(Zl a q==Zl a r)=true:=by simpa using e
    rw[this]
    rcases List.mem_cons.1 hr with k | k
    ·rw[k]
    ·exact absurd (e▸List.mem_map.2 ⟨r,k,rfl⟩) hn.1
   ·have:(Zl a q==Zl a r)=false:=by simpa using e
    rw[this]
    rcases List.mem_cons.1 hr with k | k
    ·exact absurd (by rw[k]) e
    ·exact ih hn.2 k
 rw[this];rfl
def Zab:Value→Nat
 | .slice _ n _=>n
 | _=>0
structure RoI(W0:World)(mb:Nat)(f:Int→Option Int)(N:Nat)(a:Int)(r:List Int)(g cap j:Nat)(w:World):Prop where
 is:IS w (.slice (some ⟨g,0,none⟩) (j+1) cap) (a::r.take j)
 nw:Nw W0 w
 mp:Zg w mb f N
 lo:W0.heap.size≤g
theorem Z5e{W0:World}{mb N:Nat}{f:Int→Option Int}(hm:Zg W0 mb f N)(a:Int)(ha:Zc a)(r:List Int)(hl:r.length≤1000)(h0:f a=some (Zl a r))(hf:∀j,(hj:j<r.length)→Zc r[j]∧r[j]≠a∧f r[j]=some (Zl a (r.drop (j+1)))) :
  Calls prog 24 #[.map (some mb),.int .i64 a] W0 fun e w'=>∃v',e=.returned v'∧IS w' v' (a::r.reverse)∧Nw W0 w':=by
 have HF:=hD0 hf
 have HM:=hD0 hm
 have g1:Nw W0 (W0.alloc (.cells #[.int .i64 a] 3)):=(Nw.refl W0).alloc _
 have hlk:=(hm.nw g1).look_val ha h0
 have HI0:Hid (RoI W0 mb f N a r W0.heap.size 1 0 (W0.alloc (.cells #[.int .i64 a] 3))):=hD0 ⟨by
  have:=World.ownsRow_lit (base:=0) (size:=1) (e:=3) W0 #[.int .i64 a] 1 (Nat.zero_le _) (by decide) (by simp)
  simpa [IS] using this,g1,hm.nw g1,Nat.le_refl _⟩
 obtain⟨w1,hw1⟩:∃x,W0.alloc (.cells #[.int .i64 a] 3)=x:=⟨_,rfl⟩
 rw[hw1] at hlk HI0
 have HW1:=hD0 hw1
 obtain⟨x0,hx0⟩:∃x,Zl a r=x:=⟨_,rfl⟩
 have HX0:=hD0 hx0
 rw[hx0] at hlk
 clear hf hm g1 hw1 hx0 h0 ha
 go_enter func24,ntmps24
 go_upto_region 2 with fail
 rw[HW1.out]
 go_wp2_with fail
 go_loopw [5,6] (fun v5 v6 wr=>∃(j g cap:Nat) (x:Int),v5=.slice (some ⟨g,0,none⟩) (j+1) cap∧v6=.int .i64 x∧j≤r.length∧Hid (Zl a (r.drop j)=x)∧Hid (RoI W0 mb f N a r g cap j wr)) (fun v5 _ _=>r.length+1-Zab v5)
 case atStart=>exact⟨0,_,_,x0,rfl,rfl,Nat.zero_le _,hD0 HX0.out,HI0⟩
 case round =>
  clear HI0
  obtain⟨j,g,cap,x,rfl,rfl,hj,HX,HI⟩:=hrel
  by_cases hlt:j<r.length
  ·have hx:x=r[j]:=by
    rw[←HX.out,←List.getElem_cons_drop hlt];rfl
   obtain⟨hxf,hxa,hpx⟩:=HF.out j hlt
   rw[←hx] at hxf hxa hpx
   have hne1:(x==a)=false:=by simpa using hxa
   have hne2:(x != a)=true:=by simpa using hxa
   obtain⟨v',w2,hr2,hI2,ht2,hk2,g2,cap2,rfl⟩:=IS.push wr _ (a::r.take j) x HI.out.is (by simp[List.length_take];omega)
   have hlen:(a::r.take j).length+1=j+1+1:=by simp[List.length_take];omega
   have hlk:=(HI.out.mp.tch ht2 (fun e=>by
    have e':g=mb:=Option.some.inj e
    obtain⟨es,c,q⟩:=HI.out.mp.obj
    obtain⟨c',q'⟩:=Y1 HI.out.is (g:=g) rfl
    rw[e',q] at q';cases q')).look_val hxf hpx
   have HI2:=hD0 (show RoI W0 mb f N a r g2 cap2 (j+1) w2 from⟨by
    have e:a::r.take (j+1)=(a::r.take j)++[x]:=by rw[List.take_succ_eq_append_getElem hlt,hx];rfl
    rw[e,←hlen];exact hI2,Zi HI.out.nw ht2 (fun i e=>by rw[←Option.some.inj e];exact HI.out.lo),HI.out.mp.tch ht2 (fun e=>by
    have e':g=mb:=Option.some.inj e
    obtain⟨es,c,q⟩:=HI.out.mp.obj
    obtain⟨c',q'⟩:=Y1 HI.out.is (g:=g) rfl
    rw[e',q] at q';cases q'),by
    rcases hk2 g2 rfl with e | e
    ·rw[←Option.some.inj e];exact HI.out.lo
    ·exact Nat.le_trans HI.out.nw.sz e⟩)
   have HR2:=hD0 hr2
   obtain⟨y,hy⟩:∃y,Zl a (r.drop (j+1))=y:=⟨_,rfl⟩
   have HY:=hD0 hy
   rw[hy] at hlk
   rw[hlen] at HR2
   clear hr2 hI2 ht2 hk2 hxf hpx hx hlen hy HI
   go_wp2_with (at_builtin;refine Z7 (by rfl) (.tmp 18) (.tmp 20) 25 rfl _ _ _ _ rfl rfl HR2.out ?_)
   go_roundw
   case rel=>exact⟨j+1,g2,cap2,y,rfl,rfl,hlt,hD0 HY.out,HI2⟩
   case measure=>show r.length+1-(j+1+1)<r.length+1-(j+1);omega
  ·obtain rfl:j=r.length:=by omega
   have hx:x=a:=by rw[←HX.out,List.drop_length];rfl
   subst hx
   have his:=HI.out.is
   rw[List.take_length] at his
   have hcap:r.length+1≤cap:=by
    rcases his.2 with⟨q,_⟩ | ⟨g',cap',cur,q,_,_,q4,_⟩
    ·simp at q
    ·simp only[Value.slice.injEq] at q
     simp at q4
     omega
   have HRv:=hD0 (Z8f his hl)
   have hc1:1≤r.length+1:=by omega
   have hc2:(1:Int)≤(r.length:Int)+1:=by omega
   have HZ:=hD0 (aI0 HI.out.nw HI.out.lo)
   clear his HI hlt
   by_cases hc:cap=1
   ·subst hc
    obtain rfl:r=[]:=List.length_eq_zero_iff.1 (by omega)
    simp only[if_true,Nat.sub_self,List.length_nil,Nat.zero_add] at HRv hcap hc1 hc2
    clear hj hcap hc1 hc2
    go_wp2_with fail
    refine HRv.out.mono ?_
    rintro e w3 ⟨rfl,hI3,ht3⟩
    have HE:=hD0 (aI0 hI3 (Zi HZ.out.1 ht3 (fun i e=>by rw[e];exact HZ.out.2)))
    clear hI3 ht3 HRv
    go_wp2
    go_ret
    exact⟨_,rfl,HE.out.1,HE.out.2⟩
   ·rw[if_neg hc] at HRv
    obtain⟨nr,hnr⟩:∃n,r.length=n:=⟨_,rfl⟩
    rw[hnr] at HRv hcap hc1 hc2 hl ⊢
    clear hj hnr HF
    go_wp2_with fail
    refine HRv.out.mono ?_
    rintro e w3 ⟨rfl,hI3,ht3⟩
    have HE:=hD0 (aI0 hI3 (Zi HZ.out.1 ht3 (fun i e=>by rw[e];exact HZ.out.2)))
    clear hI3 ht3 HRv
    go_wp2
    go_ret
    exact⟨_,rfl,HE.out.1,HE.out.2⟩
theorem Z79{w:World}{B:Nat}{a:Int}(h:w.cell? ⟨B,0,none⟩=some (.int .i64 a)):Z35 w (.func (.func 23) #[] #[.pointer (some ⟨B,0,none⟩)]) (fun x=>x==a):=by
 refine⟨23,_,rfl,enters_of func23 (by kernel_rfl) rfl,fun x w1 g=>?_⟩
 have hc:=g.kp h
 simp only[List.append_toArray,List.cons_append,List.nil_append]
 go_enter func23,ntmps23
 go_wp2
 go_ret
 exact⟨rfl,Nw.refl _⟩
theorem Z7a(w:World):Z35 w (.func (.func 33) #[] #[]) (fun _=>false):=by
 refine⟨33,_,rfl,enters_of func33 (by kernel_rfl) rfl,fun x w1 g=>?_⟩
 simp only[List.append_toArray,List.append_nil]
 go_enter func33,ntmps33
 go_wp2
 go_ret
 exact⟨rfl,Nw.refl _⟩
theorem Z3p{l:List (Int × Int)}(hF:∀e∈l,Zc e.1∧Zc e.2):∀e∈sortE l,Zc e.1∧Zc e.2:=fun e he=>hF e (Y7.1 he)
theorem Z1s{w:World}{v:Value}{l:List (Int × Int)}(h:Zw w v l)(hl:l.length≤1000)(hF:∀e∈l,Zc e.1∧Zc e.2) :
  Calls prog 9 #[v] w fun e w'=>∃b,e=.returned (.bool b)∧(b=false↔∃x,Ya l x x)∧Nw w w':=by
 have HS:=hD0 (V1 h hl)
 have hls:=Nat.le_trans (Y6 l) hl
 have HA:=hD0 (aI0 hF hls)
 obtain⟨a,c,rfl⟩:=h.form
 clear h hF hls
 go_enter func9,ntmps9
 go_wp2_with fail
 refine HS.out.mono ?_
 rintro e w1 ⟨v1,rfl,hO,g1⟩
 have HL:=hD0 (Ua (Z6.at_ hO) (Yx l) HA.out.2 (Z3p HA.out.1))
 have HG:=hD0 g1
 clear hO g1 HS
 go_wp2_with fail
 refine HL.out.mono ?_
 rintro e w2 ⟨fd,ls,rfl,hR,g2⟩
 have HR:=hD0 (aI0 (show(!fd)=false↔∃x,Ya l x x from by
  have:=hR.1
  constructor
  ·intro q
   obtain⟨x,r⟩:=this.1 (by simpa using q)
   exact⟨x,(Yl (fun _=>Y7)).1 r⟩
  ·rintro⟨x,r⟩
   have:=this.2 ⟨x,(Yl (fun _=>Y7)).2 r⟩
   rw[this];rfl) (HG.out.trans g2))
 clear hR g2 HL
 go_wp2
 go_ret
 exact⟨_,rfl,HR.out.1,HR.out.2⟩
end
section
open Go.RowKit Go.Sort
theorem Z75{E:List (Int × Int)}{a:Int}{W:List (List Int)}(hs:Zj E)(hr:Ya E a a)(h:SrP E a (fun x=>x==a) W) :
  ∃r,Lst E a a r∧r.length≤E.length∧Yn a W a=some (Zl a r)∧∀j,(hj:j<r.length)→(∃e∈E,e.2=r[j])∧r[j]≠a∧Yn a W r[j]=some (Zl a (r.drop (j+1))):=by
 rcases h with⟨h,h1,b,h2⟩ | ⟨W1,y,r,h,i,rfl,b,h1,h2,h3,h4,h5⟩
 ·exfalso
  obtain⟨q,hq,e⟩:=List.mem_map.1 ((b.reach h1 a).2 hr)
  have:=h2 q hq
  rw[e] at this
  simp at this
 ·have hy:y=a:=by simpa using h4
  subst hy
  have hrm:r∈([]::W1):=List.mem_of_getElem? h1
  have hnd:((W1++[y::r]).map (Zl y)).Nodup:=by
   rw[List.map_append,List.map_singleton]
   exact List.nodup_append.2 ⟨b.nd,by simp,fun x hx z hz e=>by
    rw[List.mem_singleton.1 hz] at e
    exact h3 ((show x=y from e)▸hx)⟩
  refine⟨r,b.first hs h1 h2 h3,b.wlen hrm,Z2n (r:=y::r) hnd (by simp),fun j hj=>?_⟩
  have hs1:=b.suf r.length r rfl hrm j hj
  have hd:Zl y (r.drop j)=r[j]:=by rw[←List.getElem_cons_drop hj];rfl
  have hm:r[j]∈W1.map (Zl y):=List.mem_map.2 ⟨_,hs1,hd⟩
  refine⟨b.inE _ hm,fun e=>h3 (e▸hm),?_⟩
  have:=Z2n hnd (List.mem_append_left [y::r] hs1)
  rw[hd,List.tail_drop] at this
  exact this
theorem Z0p{w:World}{v:Value}{l:List (Int × Int)}(h:Zw w v l)(hl:l.length≤1000)(hF:∀e∈l,Zc e.1∧Zc e.2) :
  Calls prog 5 #[v] w fun e w'=>∃v' c b,e=.returned (.tuple #[v',.bool b])∧IS w' v' c∧V5 l c b∧Nw w w':=by
 have HS:=hD0 (V1 h hl)
 have hls:=Nat.le_trans (Y6 l) hl
 have HA:=hD0 (aI0 hF hls)
 obtain⟨a,c,rfl⟩:=h.form
 clear h hF hls
 go_enter func5,ntmps5
 go_wp2_with fail
 refine HS.out.mono ?_
 rintro e w1 ⟨v1,rfl,hO,g1⟩
 obtain⟨E,hE⟩:∃E,sortE l=E:=⟨_,rfl⟩
 have HE:=hD0 (aI0 (show Zj E from hE▸Yx l) (aI0 (show E.length≤1000 from hE▸HA.out.2) (aI0 (show ∀e∈E,Zc e.1∧Zc e.2 from hE▸Z3p HA.out.1) (show ∀x,x∈E↔x∈l from fun x=>hE▸Y7))))
 rw[hE] at hO
 have HO:=hD0 (Z6.at_ hO)
 have HL:=hD0 (Ua HO.out HE.out.1 HE.out.2.1 HE.out.2.2.1)
 have HG:=hD0 g1
 clear hO g1 HS hE
 go_wp2_with fail
 refine HL.out.mono ?_
 rintro e w2 ⟨fd,ls,rfl,hR,g2⟩
 have HR:=hD0 (aI0 hR (HG.out.trans g2))
 have HO2:=hD0 (HO.out.nw g2)
 clear hR g2 HL HO HG
 cases fd with
 | false =>
  have HZ:=hD0 (Vy HE.out.2.2.2 (Z3z (fun q=>by have:=HR.out.1.1.2 q;cases this)))
  go_wp2_with fail
  go_ret2
  exact⟨_,[],false,rfl,IS.nil _,HZ.out,HR.out.2.alloc _⟩
 | true =>
  obtain⟨hr1,hr2⟩:=HR.out.1.2 rfl
  have HLs:=hD0 (aI0 hr1 hr2)
  have hfit:Zc ls:=by
   obtain⟨y,hy⟩:=Vc hr1
   exact(HE.out.2.2.1 _ hy).1
  have hal:=Z4 w2 (.cells #[.int .i64 ls] 3)
  have g3:Nw w2 (w2.alloc (.cells #[.int .i64 ls] 3)):=(Nw.refl w2).alloc _
  obtain⟨w3,hw3⟩:∃x,w2.alloc (.cells #[.int .i64 ls] 3)=x:=⟨_,rfl⟩
  have HW3:=hD0 hw3
  rw[hw3] at hal g3
  obtain⟨B,hB⟩:∃B,w2.heap.size=B:=⟨_,rfl⟩
  have HB:=hD0 hB
  rw[hB] at hal
  have HAL:=hD0 hal
  have HT:=hD0 (Z79 (a:=ls) (Z2 (j:=0) hal))
  have HSe:=hD0 (Z0b (HO2.out.nw g3) HE.out.1 HE.out.2.1 HE.out.2.2.1 ls hfit HT.out)
  have HG3:=hD0 (aI0 (HR.out.2.trans g3) hfit)
  have hb0:=Z2 (j:=0) hal
  have hBl:=hlt hal
  clear hr1 hr2 hal g3 hw3 HO2 HT hfit hB
  go_upto_region 5 with fail
  rw[HW3.out,HB.out]
  go_wp2_with fail
  refine HSe.out.mono ?_
  rintro e w4 ⟨mb,W,rfl,g4,hmb,hm,hsr⟩
  obtain⟨r,q1,q2,q3,q4⟩:=Z75 HE.out.1 HLs.out.1 hsr
  have HRo:=hD0 (Z5e hm ls HG3.out.2 r (Nat.le_trans q2 HE.out.2.1) q3 (fun j hj=>by
   obtain⟨⟨e,he,e1⟩,e2,e3⟩:=q4 j hj
   exact⟨e1▸(HE.out.2.2.1 e he).2,e2,e3⟩))
  have HQ:=hD0 (aI0 (Vy HE.out.2.2.2 (Z7o HLs.out.1 HLs.out.2 q1)) (HG3.out.1.trans g4))
  have hb4:=g4.kp hb0
  have hBl4:=lL0 hBl g4.sz
  clear g4 hmb hm hsr q1 q2 q3 q4 HSe hb0 hBl
  go_wp2_with fail
  refine HRo.out.mono ?_
  rintro e w5 ⟨v5,rfl,h5,g5⟩
  have HZ:=hD0 (aI0 h5 (HQ.out.2.trans g5))
  clear h5 g5 HRo
  go_wp2
  go_ret2
  exact⟨_,_,true,rfl,HZ.out.1,HQ.out.1,HZ.out.2⟩
end
end Go.Proofs.YtobnolgphljoeaaGreat
namespace Go.Proofs
open _root_.Go.Proofs.Tryz
open Go.Shelf
def Tryz.keysL_ren:Go.Shelf.Ren:=⟨fun | 7=>35 | 10=>53 | n=>n,fun | 23=>41 | 26=>3 | 3=>3 | 28=>53 | 0=>0 | 27=>52 | 33=>43 | 4=>4 | n=>n,fun | n=>n⟩
theorem Tryz.keysL:Go.Proofs.SlLaysZI.n7 prog Tryz.keysL_ren:={
 mixed:=by kernel_rfl
 f7:=⟨Tryz.f35.name,by decide,func35.trans (congrArg some (by kernel_rfl))⟩
 f10:=⟨Tryz.f53.name,by decide,func53.trans (congrArg some (by kernel_rfl))⟩
 t0:=underlying0
 a0:=Tryz.isAgg0
 z0:=Tryz.sizeOf0
 v0:=Tryz.zeroValue0
 t4:=underlying4
 a4:=Tryz.isAgg4
 z4:=Tryz.sizeOf4
 v4:=Tryz.zeroValue4
 t23:=underlying41
 a23:=Tryz.isAgg41
 z23:=Tryz.sizeOf41
 v23:=Tryz.zeroValue41
 t26:=underlying3
 a26:=Tryz.isAgg3
 z26:=Tryz.sizeOf3
 v26:=Tryz.zeroValue3
 t27:=underlying52
 a27:=Tryz.isAgg52
 z27:=Tryz.sizeOf52
 v27:=Tryz.zeroValue52
 t28:=underlying53
 a28:=Tryz.isAgg53
 z28:=Tryz.sizeOf53
 v28:=Tryz.zeroValue53
 t33:=underlying43
 a33:=Tryz.isAgg43
 z33:=Tryz.sizeOf43
 v33:=Tryz.zeroValue43 }
def Tryz.sortedL_ren:Go.Shelf.Ren:=⟨fun | 6=>34 | 8=>51 | 9=>52 | 11=>79 | 13=>49 | 12=>80 | 23=>77 | 24=>78 | 14=>97 | 15=>98 | 16=>99 | 17=>100 | 18=>101 | 19=>102 | 20=>103 | 21=>104 | 22=>105 | 25=>111 | 26=>93 | 27=>94 | 28=>112 | 29=>113 | 30=>50 | 31=>115 | n=>n,fun | 26=>3 | 28=>53 | 24=>25 | 0=>0 | 3=>3 | 37=>81 | 48=>101 | 50=>103 | 4=>4 | 40=>95 | 39=>94 | 45=>39 | 5=>5 | 9=>9 | 51=>116 | 55=>120 | 57=>130 | 58=>131 | 33=>43 | n=>n,fun | n=>n⟩
theorem Tryz.sortedL:Go.Proofs.SlLaysZI.n6 prog Tryz.sortedL_ren:={
 mixed:=by kernel_rfl
 f6:=⟨Tryz.f34.name,by decide,func34.trans (congrArg some (by kernel_rfl))⟩
 f8:=⟨Tryz.f51.name,by decide,func51.trans (congrArg some (by kernel_rfl))⟩
 f11:=⟨Tryz.f79.name,by decide,func79.trans (congrArg some (by kernel_rfl))⟩
 t0:=underlying0
 a0:=Tryz.isAgg0
 z0:=Tryz.sizeOf0
 v0:=Tryz.zeroValue0
 t24:=underlying25
 a24:=Tryz.isAgg25
 z24:=Tryz.sizeOf25
 v24:=Tryz.zeroValue25
 t26:=underlying3
 a26:=Tryz.isAgg3
 z26:=Tryz.sizeOf3
 v26:=Tryz.zeroValue3
 t28:=underlying53
 a28:=Tryz.isAgg53
 z28:=Tryz.sizeOf53
 v28:=Tryz.zeroValue53
 i26:=by kernel_rfl }
end Go.Proofs
namespace Go.Proofs.YtobnolgphljoeaaGreat
open Go.RowKit _root_.Go.Proofs.Tryz
section
open Go.RowKit Go.Sort Go.Maps Go.Shelf
theorem Z9p(m:Nat):AnyZI.SortsIn prog Tryz.sortedL_ren Fence.wide m :=
  ⟨fun blk off cap ss W hH hblk hsz=>callsIn_wide.2 (Tryz.slices_Sort_int blk off cap ss W hH hblk hsz),
   fun p cap W=>callsIn_wide.2 (Tryz.slices_Sort_int_none p cap W)⟩
theorem Z9e(mb:Option Nat)(w:World):Calls prog 35 #[.map mb] w fun e w'=>e=.returned (.func (.func 53) #[] #[.pointer (some ⟨w.heap.size,0,none⟩)])∧w'=w.alloc (.cells #[.map mb] 41) :=
  (callsIn_wide (n:=5)).1 (AnyZI.keys_in Tryz.keysL Fence.wide 5 trivial rfl mb w)
theorem Z6h{ss K:List Int}(hp:ss.Perm K)(hn:K.Nodup):(ss.mergeSort fun x y=>decide (x≤y)).Pairwise (·<·)∧∀y,y∈(ss.mergeSort fun x y=>decide (x≤y))↔y∈K:=by
  have hs:(ss.mergeSort fun x y=>decide (x≤y)).Pairwise (·≤·):=by
    have:=List.pairwise_mergeSort (le:=fun(x y:Int)=>decide (x≤y)) (fun a b c h1 h2=>by simp at *;omega) (fun a b=>by simp;omega) ss
    exact this.imp (fun h=>by simpa using h)
  have hpm:(ss.mergeSort fun x y=>decide (x≤y)).Perm K:=(List.mergeSort_perm ss _).trans hp
  have hnd:=hpm.nodup_iff.2 hn
  refine⟨?_,fun y=>hpm.mem_iff⟩
  rw[List.nodup_iff_pairwise_ne] at hnd
  exact hs.imp₂ (fun a b h1 h2=>by omega) hnd
theorem Z73{w:World}{B mb N:Nat}{f:Int→Option Int}{K:List Int}(hm:Zg w mb f N)(hB:w.cell? ⟨B,0,none⟩=some (.map (some mb)))(hBl:B<w.heap.size)(hn:K.Nodup)(hK:∀x,x∈K↔f x≠none)(hN:N≤1000000) :
    Calls prog 34 #[.func (.func 53) #[] #[.pointer (some ⟨B,0,none⟩)]] w fun e w'=>∃v l,e=.returned v∧IS w' v l∧l.Pairwise (·<·)∧(∀y,y∈l↔y∈K)∧Nw w w':=by
  obtain⟨D,o,h2,h3,h4⟩:=hm
  have hperm:K.Perm (intKeys D):=CollectedI.perm (left:=fun _=>false) ⟨hn,fun x=>by rw[hK x,h2 x];cases f x<;>simp⟩ o Z3h underlying3 (fun _=>rfl)
  have hmax:Maps.size D≤maxLen:=by unfold maxLen;omega
  have hbytes:Maps.size D*8≤140737488355328:=by omega
  have hseq:SeqGives Fence.wide 2 prog 53 #[.pointer (some ⟨B,0,none⟩)] encZ (fun ss=>ss.Perm (intKeys D)) (Maps.size D) w :=
    AnyZI.keys_gives (ρ:=Tryz.keysL_ren) { Tryz.keysL with } Fence.wide _ trivial rfl (by omega) B mb (Maps.size D) D _ hBl hB o
  have cS:=AnyZI.sorted_in Tryz.sortedL Fence.wide 5 trivial trivial trivial trivial rfl (by omega) (Z9p _) (enters_of func52 (by kernel_rfl) rfl) 53 #[.pointer (some ⟨B,0,none⟩)] trivial (enters_of func53 (by kernel_rfl) rfl) _ _ hmax hbytes _ hseq
  change CallsIn _ _ prog 34 _ _ _ at cS
  refine((callsIn_wide (n:=5)).1 cS).mono ?_
  rintro e w' ⟨v,ss,rfl,hS,hrow,hnil,hb⟩
  obtain⟨k1,k2⟩:=Z6h (hS.trans hperm.symm) hn
  refine⟨v,_,rfl,?_,k1,k2,hb⟩
  have hl:(ss.mergeSort fun x y=>decide (x≤y)).length=ss.length:=List.length_mergeSort _
  have hr:w'.ownsRow w.heap.size 3 1 v (ss.mergeSort fun x y=>decide (x≤y)).length ((ss.mergeSort fun x y=>decide (x≤y)).map (Value.int .i64)):=by rw[hl];exact hrow
  exact Z0k hr (fun _ _=>Nat.zero_le _)
theorem Z3u{w:World}{v:Value}{l:List (Int × Int)}(h:Zw w v l)(hl:l.length≤1000)(hF:∀e∈l,Zc e.1∧Zc e.2)(a:Int)(ha:Zc a) :
    Calls prog 14 #[v,.int .i64 a] w fun e w'=>∃v' c,e=.returned v'∧IS w' v' c∧Z34 l a c∧Nw w w':=by
  have HS:=hD0 (V1 h hl)
  have hls:=Nat.le_trans (Y6 l) hl
  have HA:=hD0 (aI0 hF (aI0 hls ha))
  obtain⟨ea,ec,rfl⟩:=h.form
  clear h hF hls ha
  go_enter func14,ntmps14
  go_wp2_with fail
  refine HS.out.mono ?_
  rintro e w1 ⟨v1,rfl,hO,g1⟩
  have HSe:=hD0 (Z0b (Z6.at_ hO) (Yx l) HA.out.2.1 (Z3p HA.out.1) a HA.out.2.2 (Z7a w1))
  have HG:=hD0 g1
  clear hO g1 HS
  go_wp2_with fail
  refine HSe.out.mono ?_
  rintro e w2 ⟨mb,W,rfl,g2,hmb,hm,hsr⟩
  have hb:∃h,W.length<h∧BI (sortE l) a W h 0:=by
    rcases hsr with⟨h,h1,b,_⟩ | ⟨_,_,_,_,_,_,_,_,_,_,q,_⟩
    · exact⟨h,h1,b⟩
    · cases q
  obtain⟨hh,h1,b⟩:=hb
  have HK:=hD0 (Z9e (some mb) w2)
  have g3:Nw w2 (w2.alloc (.cells #[.map (some mb)] 41)):=(Nw.refl w2).alloc _
  have hal:=Z4 w2 (.cells #[.map (some mb)] 41)
  have HSo:=hD0 (Z73 (B:=w2.heap.size) (K:=W.map (Zl a)) (hm.nw g3) (Z2 (j:=0) hal) (hlt hal) b.nd (fun x=>by
    have:=Y5 (a:=a) (W:=W) (x:=x)
    constructor
    · intro k q;exact this.1 q k
    · intro q;exact Classical.not_not.1 (fun k=>q (this.2 k))) (by have:=b.size;have:=HA.out.2.1;omega))
  have HR:=hD0 (aI0 (show ∀y,y∈W.map (Zl a)↔Ya l a y from fun y=>(b.reach h1 y).trans (Yl fun _=>Y7)) ((HG.out.trans g2).trans g3))
  clear g2 hmb hm hsr h1 b g3 hal HSe HG
  go_wp2_with fail
  refine HK.out.mono ?_
  rintro e w3 ⟨rfl,rfl⟩
  go_wp2_with fail
  refine HSo.out.mono ?_
  rintro e w4 ⟨v4,c,rfl,hI,hp,hmem,g4⟩
  have HZ:=hD0 (aI0 hI (aI0 (show Z34 l a c from⟨hp,fun y=>(hmem y).trans (HR.out.1 y)⟩) (HR.out.2.trans g4)))
  clear hI hp hmem g4 HSo HK
  go_wp2
  go_ret
  exact⟨_,c,rfl,HZ.out.1,HZ.out.2.1,HZ.out.2.2⟩
end
def Z11(w:World)(f:Value)(p:(Int × Int)→Bool):Prop:=∃(g:Nat) (lb:Array Value),f=.func (.func g) #[] lb∧(∀args w,(callFunc g args).run prog w=.ok (.enter g args) w)∧∀(R:Int × Int) (w1:World),Nw w w1→Calls prog g (#[egV R]++lb) w1 fun e w'=>e=.returned (.bool (p R))∧Nw w1 w'
def Z36:Value→Prop
 | .slice _ n c=>n≤c
 | _=>True
theorem Z6.capE{w:World}{g0:Nat}{v:Value}{q:List (Int × Int)}(h:Z6 w g0 v q):Z36 v:=by
 rcases h.2 with⟨rfl,_⟩ | ⟨g',cap',cur,rfl,_,_,q4,_⟩
 ·exact Nat.le_refl _
 ·exact q4
theorem Z6.atE{w:World}{g0:Nat}{v:Value}{q:List (Int × Int)}(h:Z6 w g0 v q){k:Nat}(hk:k<q.length):∃g cap,v=.slice (some ⟨g,0,none⟩) q.length cap∧g0≤g∧g<w.heap.size∧True:=by
 rcases V8 h with⟨_,e⟩ | ⟨g,cap,rfl⟩
 ·omega
 ·exact⟨g,cap,rfl,Vg h rfl,Uo h rfl,trivial⟩
theorem Z25{w:World}{g0 g cap n:Nat}{q:List (Int × Int)}(h:Z6 w g0 (.slice (some ⟨g,0,none⟩) n cap) q)(hn:n=q.length)(k:Nat)(hk:k<q.length)(j:Nat)(hj:j<2)(u:Value)(new:Int × Int)(e:(Zb q[k]).set j u=Zb new) :
  Z6 (w.setCell ⟨g,k*2+j,none⟩ u) g0 (.slice (some ⟨g,0,none⟩) n cap) (q.set k new):=by
 subst hn
 have h1:=(World.ownsRow.stored h (k*2+j) u).1
 unfold Z6 Zt
 rw[List.length_set,←Z06 (row:=Zb) (sz:=2) (fun _=>rfl) q k hk j hj u new e]
 exact h1
theorem Vz{w:World}{g0 g cap n:Nat}{q:List (Int × Int)}(h:Z6 w g0 (.slice (some ⟨g,0,none⟩) n cap) q)(hn:n=q.length)(k:Nat)(hk:k<q.length)(j:Nat)(u:Value)(hu:(Zb q[k])[j]?=some u):w.cell? ⟨g,k*2+j,none⟩=some u:=by
 subst hn
 have hj:j<2:=by have:=(List.getElem?_eq_some_iff.1 hu).1;simpa [Zb] using this
 refine(World.ownsRow.cellAt h (k*2+j) (by omega)).trans ?_
 rw[Yd (sz:=2) (fun _=>rfl) q k j hk hj];exact hu
theorem Z24{w:World}{g0 g cap n:Nat}{q:List (Int × Int)}(h:Z6 w g0 (.slice (some ⟨g,0,none⟩) n cap) q)(hn:n=q.length)(j:Nat):w.frozen? ⟨g,j,none⟩=false:=by
 subst hn
 exact World.ownsRow.frozenAt h j
def Z0i(p:(Int × Int)→Bool):List (Int × Int)→Int
 | []=>-1
 | a::r=>if p a=true then 0 else if Z0i p r = -1 then -1 else Z0i p r+1
theorem Ve(p:(Int × Int)→Bool):∀q:List (Int × Int),(Z0i p q = -1∧∀a∈q,p a=false)∨∃k:Nat,Z0i p q=k∧∃h:k<q.length,p q[k]=true∧∀i (hi:i<q.length),i<k→p q[i]=false
 | []=>.inl ⟨rfl,by simp⟩
 | a::r=>by
  unfold Z0i
  cases e:p a with
  | true=>exact .inr ⟨0,rfl,by simp,e,fun i _ h=>by omega⟩
  | false =>
   rcases Ve p r with⟨h1,h2⟩ | ⟨k,h1,h2,h3,h4⟩
   ·rw[h1]
    refine .inl ⟨rfl,fun x hx=>?_⟩
    rcases List.mem_cons.1 hx with rfl | hx
    ·exact e
    ·exact h2 x hx
   ·rw[h1]
    refine .inr ⟨k+1,?_,by simpa using h2,h3,fun i hi hik=>?_⟩
    ·simp only[Bool.false_eq_true,if_false]
     rw[if_neg (by omega)];rfl
    ·cases i with
     | zero=>exact e
     | succ i=>exact h4 i (by simpa using hi) (by omega)
theorem Z64{p:(Int × Int)→Bool}{q:List (Int × Int)}{k:Nat}(hk:k<q.length)(h:p q[k]=true)(hb:∀i (hi:i<q.length),i<k→p q[i]=false):Z0i p q=k:=by
 rcases Ve p q with⟨_,h2⟩ | ⟨j,h1,h2,h3,h4⟩
 ·rw[h2 _ (gM0 hk)] at h;cases h
 ·rw[h1]
  rcases Nat.lt_trichotomy j k with g | g | g
  ·rw[hb j h2 g] at h3;cases h3
  ·rw[g]
  ·rw[h4 k hk g] at h;cases h
theorem Z4y{p:(Int × Int)→Bool}{q:List (Int × Int)}(h:∀i (hi:i<q.length),p q[i]=false):Z0i p q = -1:=by
 rcases Ve p q with⟨h1,_⟩ | ⟨j,h1,h2,h3,_⟩
 ·exact h1
 ·rw[h j h2] at h3;cases h3
theorem Z7u(v f:Value)(p:(Int × Int)→Bool)(q:List (Int × Int))(w:World)(hl:q.length≤1000)(h:Zw w v q)(hf:Z11 w f p) :
  Calls prog 54 #[v,f] w fun e w'=>e=.returned (.int .i64 (Z0i p q))∧Nw w w':=by
 obtain⟨g,lb,rfl,eg,hT⟩:=hf
 have HT:=hD0 hT
 clear hT
 obtain⟨a,c,rfl,⟨rfl,_⟩ | ⟨b,o,rfl,hc⟩⟩:=h
 ·go_enter func54,ntmps54
  go_wp2
  refine wp_loop_rounds 1 ?_
  repeat (rw[rounds_succ];go_wp2)
  go_ret
  exact⟨rfl,Nw.refl _⟩
 ·have H:=hD0 hc
  clear hc
  obtain⟨V,hV⟩:∃V,Z0i p q=V:=⟨_,rfl⟩
  rw[hV]
  have HV:=hD0 hV
  clear hV
  go_enter func54,ntmps54
  go_wp2
  go_loopw [8] (fun i wr=>∃k:Nat,k≤q.length∧i=.int .i64 k∧(∀i (hi:i<q.length),i<k→p q[i]=false)∧Nw w wr) (fun i _=>q.length-(intOf i).toNat)
  case atStart=>exact⟨0,Nat.zero_le _,rfl,fun _ _ h=>by omega,Nw.refl _⟩
  case round =>
   obtain⟨k,hk,rfl,hF,hN⟩:=hrel
   by_cases hlt:k<q.length
   ·have hce:=(H.out.nw hN).cell k hlt
    obtain⟨R,hR⟩:∃R,q[k]=R:=⟨_,rfl⟩
    rw[hR] at hce
    have HC:=hD0 (HT.out R)
    have HS:=hD0 hR
    have HF:=hD0 hF
    have HN:=hD0 hN
    clear hR hF hN
    obtain⟨B,hB⟩:∃B,p R=B:=⟨_,rfl⟩
    rw[hB] at HC
    have HB:=hD0 hB
    clear hB
    obtain⟨b0,b1⟩:=R
    have e0:=hce 0 _ rfl
    have e1:=hce 1 _ rfl
    simp only[Nat.add_zero] at e0
    clear hce
    cases B
    case true =>
     go_wp2_with (go_at_fn g;refine(HC.out _ HN.out).mono ?_;rintro e w1 ⟨rfl,g1⟩)
     go_ret
     exact⟨by rw[←HV.out,Z64 hlt (by rw[HS.out];exact HB.out) HF.out];rfl,HN.out.trans g1⟩
    case false =>
     go_wp2_with (go_at_fn g;refine(HC.out _ HN.out).mono ?_;rintro e w1 ⟨rfl,g1⟩)
     go_roundw
     case rel =>
      refine⟨k+1,by omega,by go_num,fun i hi hik=>?_,HN.out.trans g1⟩
      by_cases q:i<k
      ·exact HF.out i hi q
      ·have:i=k:=by omega
       subst this
       rw[HS.out];exact HB.out
     case measure=>simp[intOf];omega
   ·have HF:=hD0 hF
    have HN:=hD0 hN
    clear hF hN
    go_wp2
    go_ret
    exact⟨by rw[←HV.out,Z4y fun i hi=>HF.out i hi (by omega)];rfl,HN.out⟩
abbrev ezQ:Value:=.agg #[.int .i64 0,.int .i64 0]
theorem Z3d(w:World)(g o n c:Nat)(hn:0<n)(hc:∀j,j<n*2→(w.cell? ⟨g,o+j,none⟩).isSome=true)(hf:∀j,w.frozen? ⟨g,j,none⟩=false) :
  ∃vs,∀ty,(Builtin.clear_ #[23] ty #[.slice (some ⟨g,o,none⟩) n c]).run prog w=.ok (.tuple #[]) (w.setCells g o vs):=by
 obtain⟨m,rfl⟩:∃m,n=m+1:=⟨n-1,by omega⟩
 refine⟨(Builtin.zeroCells ezQ.cells (m+1)).toList,fun ty=>?_⟩
 have hlen:(Builtin.zeroCells ezQ.cells (m+1)).toList.length=(m+1)*2:=by simp[Builtin.zeroCells,Value.cells]
 have hst:=run_storeCells_cells (P:=prog) g o (Builtin.zeroCells ezQ.cells (m+1)).toList 0 w (by rw[hlen];simpa using hc) (by intro j _;exact hf _) (by
  intro v hv
  obtain⟨i,hi,rfl⟩:=List.getElem_of_mem hv
  simp only[Builtin.zeroCells,Array.toList_map,List.getElem_map]
  have h5:∀i:Nat,i<2→(ezQ.cells[i]!).oneCell'=true:=by decide
  exact h5 _ (Nat.mod_lt _ (by decide)))
 simp only[Nat.add_zero] at hst
 simp[Builtin.clear_,run_underlying underlying23,hst]
theorem Nw.rlsE{a b:World}(h:Nw a b):(∀k o,k<a.heap.size→b.cell? ⟨k,o,none⟩=a.cell? ⟨k,o,none⟩)∧(∀k o,k<a.heap.size→b.frozen? ⟨k,o,none⟩=a.frozen? ⟨k,o,none⟩):=⟨fun _ _ h1=>h.cell h1,fun _ _ h1=>h.froz h1⟩
theorem Z50{w:World}{g0 g n cap:Nat}{l:List (Int × Int)}(h:Z6 w g0 (.slice (some ⟨g,0,none⟩) n cap) l)(hn:n=l.length)(j:Nat)(hj:j<l.length*2):(w.cell? ⟨g,j,none⟩).isSome=true:=by
 subst hn
 have e:w.cell? ⟨g,j,none⟩=(Z8 Zb l)[j]?:=World.ownsRow.cellAt h j hj
 rw[e,List.getElem?_eq_getElem (by rw[Ye (sz:=2) (fun _=>rfl)];exact hj)];rfl
theorem Ut(g:Nat):∀(vs:List Value) (o:Nat) (w:World),Zd (fun k=>k=g) w (w.setCells g o vs)
 | [],_,w=>Zd.refl _ w
 | v::r,o,w=>by
  rw[World.setCells]
  exact(Zy w ⟨g,o,none⟩ v).trans (Ut g r (o+1) _)
def Z40(w:World)(g a:Nat)(s:Int × Int):World:=(w.setCell ⟨g,a*2,none⟩ (.int .i64 s.1)).setCell ⟨g,a*2+1,none⟩ (.int .i64 s.2)
theorem Z4x{w:World}{g0 g n cap a:Nat}{R:List (Int × Int)}(h:Z6 w g0 (.slice (some ⟨g,0,none⟩) n cap) R)(hn:n=R.length)(ha:a<R.length)(s:Int × Int):Z6 (Z40 w g a s) g0 (.slice (some ⟨g,0,none⟩) n cap) (R.set a s):=by
 have l1:∀x:Int × Int,n=(R.set a x).length:=fun x=>by rw[List.length_set];exact hn
 have k1:∀x:Int × Int,a<(R.set a x).length:=fun x=>by rw[List.length_set];exact ha
 have h0:=Z25 h hn a ha 0 (by decide) (.int .i64 s.1) (s.1,R[a].2) rfl
 have h1:=Z25 h0 (l1 _) a (k1 _) 1 (by decide) (.int .i64 s.2) s (by rw[List.getElem_set_self];rfl)
 rw[List.set_set] at h1
 exact h1
theorem Z4z(w:World)(g a:Nat)(s:Int × Int):Zd (fun k=>k=g) w (Z40 w g a s):=by
 unfold Z40
 exact((Zd.refl (fun k=>k=g) w).set (p:=⟨g,a*2,none⟩) (.inl rfl) _).set (p:=⟨g,a*2+1,none⟩) (.inl rfl) _
abbrev Yc(p:(Int × Int)→Bool)(l:List (Int × Int)):List (Int × Int):=l.filter fun s=>!p s
structure Z1q(p:(Int × Int)→Bool)(w wr:World)(g0 g n cap a b:Nat)(l R:List (Int × Int)):Prop where
 ab:a<b
 bn:b≤l.length
 len:R.length=l.length
 front:R.take a=Yc p (l.take b)
 rest:R.drop b=l.drop b
 row:Z6 wr g0 (.slice (some ⟨g,0,none⟩) n cap) R
 tch:Zd (fun k=>k=g) w wr
theorem Z1a{α:Type}{l:List α}{b:Nat}(h:b<l.length):l.take (b+1)=l.take b++[l[b]]:=by
 rw[List.take_add_one,List.getElem?_eq_getElem h];rfl
theorem Z23{p:(Int × Int)→Bool}{L:List (Int × Int)}{s:Int × Int}(h:p s=true):Yc p (L++[s])=Yc p L:=by
 simp only[Yc,List.filter_append,List.filter_cons,h,Bool.not_true,Bool.false_eq_true,if_false,List.filter_nil,List.append_nil]
theorem Z7w{p:(Int × Int)→Bool}{L:List (Int × Int)}{s:Int × Int}(h:p s=false):Yc p (L++[s])=Yc p L++[s]:=by
 simp only[Yc,List.filter_append,List.filter_cons,h,Bool.not_false,if_true,List.filter_nil]
theorem Z4w{α:Type}{R l:List α}{b:Nat}(h:R.drop b=l.drop b)(hb:b<l.length)(hR:R.length=l.length):∃hr:b<R.length,R[b]=l[b]:=by
 refine⟨by omega,?_⟩
 have:=congrArg (fun x=>x[0]?) h
 simp only[List.getElem?_drop,Nat.add_zero] at this
 rw[List.getElem?_eq_getElem hb,List.getElem?_eq_getElem (by omega)] at this
 exact Option.some.inj this
theorem Z0q{α:Type}{R l:List α}{b:Nat}(h:R.drop b=l.drop b):R.drop (b+1)=l.drop (b+1):=by
 rw[←List.drop_drop,←List.drop_drop,h]
section
variable {p:(Int × Int)→Bool} {w wr wr':World} {g0 g n cap a b:Nat} {l R:List (Int × Int)}
theorem Z1q.skip(h:Z1q p w wr g0 g n cap a b l R)(hb:b<l.length)(he:p l[b]=true)(g':Nw wr wr'):Z1q p w wr' g0 g n cap a (b+1) l R :=
 ⟨by have:=h.ab;omega,hb,h.len,by rw[h.front,Z1a hb,Z23 he],Z0q h.rest,Yq h.row g',h.tch.trans (Zd.nw g')⟩
theorem Z1q.move(h:Z1q p w wr g0 g n cap a b l R)(hn:n=l.length)(hb:b<l.length)(he:p l[b]=false)(g':Nw wr wr'):Z1q p w (Z40 wr' g a l[b]) g0 g n cap (a+1) (b+1) l (R.set a l[b]):=by
 have hab:=h.ab
 have hR:=h.len
 have ha:a<R.length:=by omega
 refine⟨by omega,hb,by simp[hR],?_,?_,?_,?_⟩
 ·rw[Z1a (by simpa using ha),Z1a hb]
  have e1:(R.set a l[b]).take a=R.take a:=List.take_set_of_le (Nat.le_refl a)
  rw[e1,h.front,Z7w he]
  simp
 ·rw[List.drop_set_of_lt (by omega)];exact Z0q h.rest
 ·exact Z4x (Yq h.row g') (by omega) ha _
 ·exact(h.tch.trans (Zd.nw g')).trans (Z4z _ _ _ _)
end
theorem Z0j{p:(Int × Int)→Bool}{l:List (Int × Int)}{j:Nat}(hj:j<l.length)(he:p l[j]=true)(hF:∀i (hi:i<l.length),i<j→p l[i]=false):l.take j=Yc p (l.take (j+1)):=by
 rw[Z1a hj,Z23 he]
 symm
 rw[Yc,List.filter_eq_self]
 intro s hs
 obtain⟨i,hi,rfl⟩:=List.getElem_of_mem hs
 simp at hi
 simp[hF i (by omega) (by omega)]
theorem Z22{p:(Int × Int)→Bool}{l:List (Int × Int)}(h:∀s∈l,p s=false):Yc p l=l:=by
 rw[Yc,List.filter_eq_self]
 intro s hs
 simp[h s hs]
theorem Z62(p:(Int × Int)→Bool)(f:Value)(g0:Nat)(v:Value)(l:List (Int × Int))(w:World)(hl:l.length≤1000)(h:Z6 w g0 v l)(hf:Z11 w f p)(hfr:∀w1,Zd (fun k=>v.ownBlock=some k) w w1→Z11 w1 f p) :
  Calls prog 38 #[v,f] w fun e w'=>∃v',e=.returned v'∧Zw w' v' (Yc p l)∧Z36 v'∧(∀b o n c,v'=.slice (some ⟨b,o,none⟩) n c→v.ownBlock=some b∨(Yc p l)=[])∧Zd (fun k=>v.ownBlock=some k) w w':=by
 have HI0:=Z7u v f p l w hl (Z6.at_ h) hf
 have hf':=hf
 obtain⟨gf,lb,rfl,eg,_⟩:=hf'
 obtain⟨hfo,-⟩:True∧True:=⟨trivial,trivial⟩
 obtain⟨px,hpx⟩:∃px,Z0i p l=px:=⟨_,rfl⟩
 rw[hpx] at HI0
 have HI:=hD0 HI0
 clear HI0
 rcases Ve p l with⟨h1,h2⟩ | ⟨j,h1,hj,he,hF⟩
 ·obtain rfl:=hpx.symm.trans h1
  obtain⟨a,c,rfl⟩:=(Z6.at_ h).form
  have HR:=hD0 h
  clear h hfr hf
  go_enter func38,ntmps38
  go_wp2_with (go_at_call 54;refine HI.out.mono ?_;rintro e w1 ⟨rfl,g1⟩)
  go_ret
  exact⟨_,rfl,by rw[Z22 h2];exact Z6.at_ (Yq HR.out g1),Z6.capE HR.out,fun b o n k e=>by
   rcases V8 HR.out with⟨e2,z⟩ | ⟨g,cap,e2⟩
   ·exact .inr (by rw[Z22 h2];exact List.length_eq_zero_iff.1 z)
   ·have e3:=e2.symm.trans e
    simp only[Value.slice.injEq,Option.some.injEq,Addr.mk.injEq] at e3
    refine .inl ?_
    rw[e2,←e3.1.1];rfl,Zd.nw g1⟩
 obtain rfl:=hpx.symm.trans h1
 obtain⟨g,cap,rfl,hg0,hgl,_⟩:=Z6.atE h hj
 have hcap:=Z6.capE h
 have hcap:l.length≤cap:=hcap
 have d0:((j:Int)==-1)=false:=by simp
 have HX:=hD0 (aI0 he hF)
 have HFr:=hD0 hfr
 have H:=hD0 h
 clear he hF hfr hf h
 go_enter func38,ntmps38
 go_wp2_with (go_at_call 54;refine HI.out.mono ?_;rintro e w1 ⟨rfl,g1⟩)
 have HD:Hid (Z1q p w w1 g0 g l.length cap j (j+1) l l):=hD0 ⟨by omega,hj,rfl,Z0j hj HX.out.1 HX.out.2,rfl,Yq H.out g1,Zd.nw g1⟩
 clear HX H HI g1
 case _ =>
  go_loopw [5,6] (fun i k wr=>∃(a b:Nat) (R:List (Int × Int)),i=.int .i64 a∧k=.int .i64 b∧Z1q p w wr g0 g l.length cap a b l R) (fun _ k _=>l.length-(intOf k).toNat)
  case atStart=>exact⟨j,j+1,l,rfl,by go_num,HD.out⟩
  case round =>
   obtain⟨a,b,R,rfl,rfl,hD⟩:=hrel
   have hab:=hD.ab
   have hbn:=hD.bn
   by_cases hlt:b<l.length
   ·obtain⟨hrb,hRb⟩:=Z4w hD.rest hlt hD.len
    obtain⟨s,hs⟩:∃s,l[b]=s:=⟨_,rfl⟩
    rw[hs] at hRb
    have Z2:∀c u,(Zb s)[c]?=some u→wr.cell? ⟨g,b*2+c,none⟩=some u:=fun c u hu=>Vz hD.row hD.len.symm b hrb c u (by rw[hRb];exact hu)
    have c0:=Z2 0 _ rfl
    have c1:=Z2 1 _ rfl
    simp only[Nat.add_zero] at c0
    have hgl:=Uo hD.row rfl
    have hT:=HFr.out wr (hD.tch.mono fun i _ e=>by rw[e];rfl)
    obtain⟨gf',lb',eqf,_,hTT⟩:=hT
    simp only[Value.func.injEq,Fn.func.injEq,true_and] at eqf
    obtain⟨rfl,rfl⟩:=eqf
    have HE:=hD0 (hTT s)
    obtain⟨B,hB⟩:∃B,p s=B:=⟨_,rfl⟩
    rw[hB] at HE
    have HB:=hD0 (show p l[b]=B by rw[hs];exact hB)
    have HS:=hD0 hs
    have HR:=hD0 hD
    clear hB Z2 hs hRb hTT
    have g6:Nw wr (wr.alloc (.cells #[.int .i64 s.1,.int .i64 s.2] 30)):=(Nw.refl wr).alloc _
    have hq6:=hD0 (aI0 (Z2 (j:=0) (Z4 wr (.cells #[.int .i64 s.1,.int .i64 s.2] 30))) (Z2 (j:=1) (Z4 wr (.cells #[.int .i64 s.1,.int .i64 s.2] 30))))
    cases B
    case true =>
     clear hD
     go_wp2_with (go_at_fn gf;refine(HE.out _ g6).mono ?_;rintro e w1 ⟨rfl,g1⟩)
     go_roundw
     case rel=>exact⟨a,b+1,R,rfl,by go_num,HR.out.skip hlt HB.out (g6.trans g1)⟩
     case measure=>simp[intOf];omega
    case false =>
     have har:a<R.length:=by have:=hD.len;omega
     have k0:∀c,c<2→∃u,wr.cell? ⟨g,a*2+c,none⟩=some u:=fun c hc=>by
      have:c<(Zb R[a]).length:=hc
      exact⟨_,Vz hD.row hD.len.symm a har c _ (List.getElem?_eq_getElem this)⟩
     obtain⟨y0,a0⟩:=k0 0 (by omega)
     obtain⟨y1,a1⟩:=k0 1 (by omega)
     simp only[Nat.add_zero] at a0
     have fz:=fun c=>Z24 hD.row hD.len.symm c
     have z0:=fz (a*2)
     have z1:=fz (a*2+1)
     have hRl:=hD.len
     have hai:(a:Int)<(l.length:Int):=by omega
     clear k0 fz hD
     go_wp2_with (go_at_fn gf;refine(HE.out _ g6).mono ?_;rintro e w1 ⟨rfl,g1⟩;obtain⟨hc1,hf1⟩:=g1.rlsE)
     go_roundw
     case rel=>exact⟨a+1,b+1,_,by go_num,by go_num,by have:=HR.out.move rfl hlt HB.out (g6.trans g1);rw[HS.out] at this;exact this⟩
     case measure=>simp[intOf];omega
   ·have hbe:b=l.length:=by omega
    subst hbe
    have HR:=hD0 hD
    have hlen:=hD.len
    have hcc:∀q,q<(l.length-a)*2→(wr.cell? ⟨g,a*2+q,none⟩).isSome=true:=fun q hq=>Z50 hD.row hlen.symm (a*2+q) (by omega)
    obtain⟨vs,hvs⟩:=Z3d wr g (a*2) (l.length-a) (cap-a) (by omega) hcc (fun q=>Z24 hD.row hlen.symm q)
    have e1:((l.length:Int)-(a:Int)).toNat=l.length-a:=by omega
    have hne:¬cap=a:=by omega
    clear hD hcc
    go_wp2
    go_ret
    have hfr:=HR.out.front
    rw[List.take_length] at hfr
    have hpl:(Yc p l).length=a:=by rw[←hfr,List.length_take];omega
    have hT:=Ut g vs (a*2) wr
    refine⟨_,rfl,⟨_,cap,by rw[hpl];rfl,.inr ⟨g,0,rfl,lL0 (Uo HR.out.row rfl) hT.size,fun i hi c u hu=>?_⟩⟩,by show a≤cap;omega,fun b o n c e=>by
     injection e with e _ _
     injection e with e
     injection e with e _ _
     rw[←e];exact .inl rfl,(HR.out.tch.trans hT).mono fun i _ e=>by rw[e];rfl⟩
    have hc:c<2:=by have:=(List.getElem?_eq_some_iff.1 hu).1;simpa [Zb] using this
    rw[Nat.zero_add,World.cell?_setCells_out g vs _ wr _ (fun _ _=>.inl (show i*2+c<a*2 by omega))]
    have hiR:i<R.length:=by omega
    refine Vz HR.out.row hlen.symm i hiR c u ?_
    have hx:(Yc p l)[i]=R[i]:=by
     have:∀(M:List (Int × Int)) (e:R.take a=M) (h:i<M.length),M[i]=R[i]:=fun M e h=>by subst e;simp
     exact this _ hfr hi
    rw[←hx];exact hu
theorem Z1n(e:Int × Int){w:World}{B:Nat}{t:Int}(h:w.cell? ⟨B,0,none⟩=some (.int .i64 t)):Calls prog 39 #[egV e,.pointer (some ⟨B,0,none⟩)] w fun e' w'=>e'=.returned (.bool (decide (e.1=t) || decide (e.2=t)))∧Nw w w':=by
 obtain⟨a,b⟩:=e
 have g1:Nw w (w.alloc (.cells #[.int .i64 a,.int .i64 b] 30)):=(Nw.refl w).alloc _
 have hc:=g1.kp h
 have hal:=Z4 w (.cells #[.int .i64 a,.int .i64 b] 30)
 by_cases q:a=t
 ·have h1:(a==t)=true:=by simpa using q
  have e1:(decide (a=t) || decide (b=t))=true:=by simp[q]
  rw[e1]
  clear e1 q
  go_enter func39,ntmps39
  go_wp2
  go_ret
  exact⟨rfl,g1⟩
 ·have h1:(a==t)=false:=by simpa using q
  have e1:(decide (a=t) || decide (b=t))=(b==t):=by
   rw[decide_eq_false q,Bool.false_or]
   rfl
  rw[e1]
  clear e1
  go_enter func39,ntmps39
  go_wp2
  go_ret
  exact⟨rfl,g1⟩
theorem Z31{w:World}{B:Nat}{t:Int}(h:w.cell? ⟨B,0,none⟩=some (.int .i64 t)):Z11 w (.func (.func 39) #[] #[.pointer (some ⟨B,0,none⟩)]) (fun e=>decide (e.1=t) || decide (e.2=t)):=by
 refine⟨39,_,rfl,enters_of func39 (by kernel_rfl) rfl,fun x w1 g=>?_⟩
 simp only[List.append_toArray,List.cons_append,List.nil_append]
 exact Z1n x (g.kp h)
theorem Z6n(l:List (Int × Int))(t:Int):Yc (fun e=>decide (e.1=t) || decide (e.2=t)) l=Ym l t:=by
 unfold Yc Ym
 congr 1
 funext e
 simp
theorem Z33{w:World}{v:Value}{l:List (Int × Int)}(h:Zw w v l)(hl:l.length≤1000)(t:Int) :
  Calls prog 16 #[v,.int .i64 t] w fun e w'=>∃v',e=.returned v'∧Zw w' v' (Ym l t)∧Z36 v'∧Nw w w':=by
 have g1:Nw w (w.alloc (.cells #[.int .i64 t] 3)):=(Nw.refl w).alloc _
 have hal:=Z4 w (.cells #[.int .i64 t] 3)
 obtain⟨w1,hw1⟩:∃x,w.alloc (.cells #[.int .i64 t] 3)=x:=⟨_,rfl⟩
 rw[hw1] at g1 hal
 have HW1:=hD0 hw1
 obtain⟨B,hB⟩:∃B,w.heap.size=B:=⟨_,rfl⟩
 have HB:=hD0 hB
 rw[hB] at hal
 have HAL:=hD0 (aI0 hal g1)
 have HC:=hD0 (Z60 v l w1 (Nat.le_trans hl (by decide)) (h.nw g1))
 obtain⟨a,c,rfl⟩:=h.form
 clear h hw1 hB g1 hal
 go_enter func16,ntmps16
 go_upto_region 1 with fail
 rw[HW1.out,HB.out]
 go_wp2_with fail
 refine HC.out.mono ?_
 rintro e w2 ⟨v2,rfl,g2,hO⟩
 have hc2:=g2.kp (Z2 (j:=0) HAL.out.1)
 have hB2:B<w1.heap.size:=hlt HAL.out.1
 have HD:=hD0 (Z62 (fun e=>decide (e.1=t) || decide (e.2=t)) _ _ v2 l w2 hl hO (Z31 hc2) (fun w3 ht=>Z31 ((ht.cell (lL0 hB2 g2.sz) (fun e=>by
  have:=Vg hO e
  omega)).trans hc2)))
 have HG:=hD0 (aI0 (HAL.out.2.trans g2) (fun k (e:v2.ownBlock=some k)=>Nat.le_trans HAL.out.2.sz (Vg hO e)))
 clear g2 hO hc2 hB2 HC
 go_wp2_with fail
 refine HD.out.mono ?_
 rintro e w3 ⟨v3,rfl,h3,hcp,_,ht⟩
 rw[Z6n] at h3
 have HZ:=hD0 (aI0 h3 (aI0 hcp (Zi HG.out.1 ht (fun i e=>HG.out.2 i e))))
 clear h3 hcp ht HD
 go_wp2
 go_ret
 exact⟨_,rfl,HZ.out.1,HZ.out.2.1,HZ.out.2.2⟩
section
open Go.ChangeShapes Go.WideShapes Go.ChangeAt Go.RowKit
theorem fit_wf{n:Int}(h:(Lit.int .i64 n).wf=true):Zc n:=by
 simp[Lit.wf,IntKind.min,IntKind.max,IntKind.signed,IntKind.bits] at h
 unfold Zc
 omega
structure EgIn(w:World)(a:Option Addr)(len cap:Nat)(l:List (Int × Int)):Prop where
 hl:l.length=len
 rd:Zw w (.slice a len cap) l
 hc:len≤cap
 fit:∀e∈l,Zc e.1∧Zc e.2
theorem open_edges{H:Type}{enc:TypeId × Value→H}{W:World}{base fuel:Nat}{held:Bool}{a:Option Addr}{len cap:Nat}{x:DataW H × List MemPlace}(h:DataW.trod enc prog W base (fun _=>true) held fuel 23 (Value.slice a len cap).cells.toList=some x) :
  ∃l,EgIn W a len cap l:=by
 rcases Deep.open_slice underlying23 h with h0 | ⟨ad,len',cap',m,n,D,Pl,hcs,hb,hl,hm,hmm,_,hx⟩
 ·have h1:=h0.1
  simp[Value.cells] at h1
  obtain⟨rfl,rfl,rfl⟩:=h1
  exact⟨[],rfl,Rd.nil W,Nat.le_refl _,by simp⟩
 ·simp[Value.cells] at hcs
  obtain⟨rfl,rfl,rfl⟩:=hcs
  simp only[if_true] at hmm
  subst hmm
  have ce:prog.cellsOf 30=2:=by kernel_rfl
  have ci:prog.cellsOf 3=1:=by kernel_rfl
  have each:∀i,i<m→∃q:Int × Int,W.cell? (ad.add (i*2))=some (.int .i64 q.1)∧W.cell? (ad.add (i*2+1))=some (.int .i64 q.2)∧Zc q.1∧Zc q.2:=by
   intro i hi
   obtain⟨cs',h1,h2⟩:=hx i hi
   rw[ce] at h1
   obtain⟨_,hlen,Z2⟩:=World.cells?_some h1
   obtain⟨xs,k,hk,hxy,_,hxl,hf⟩:=DataW.trod_struct underlying30 h2
   match xs,hxl,cs',hlen with
   | [y0,y1],_,[v0,v1],_ =>
    have g0:=hf 0 _ rfl
    have g1:=hf 1 _ rfl
    simp[ci] at g0 g1
    obtain⟨n0,e0,_,u0⟩:=DataW.trod_int underlying3 g0
    obtain⟨n1,e1,_,u1⟩:=DataW.trod_int underlying3 g1
    simp only[List.cons.injEq,and_true] at e0 e1
    subst e0 e1
    have c0:=Z2 0 (by omega)
    have c1:=Z2 1 (by omega)
    rw[Deep.add_add] at c0 c1
    exact⟨(n0,n1),by simpa using c0,by simpa using c1,fit_wf u0,fit_wf u1⟩
  obtain⟨q,hq⟩:=Deep.choose_lt each
  have hL:((List.range len).map q).length=len:=by simp
  refine⟨(List.range len).map q,hL,?_,hl,fun e he=>?_⟩
  ·by_cases h0:len=0
   ·subst h0
    exact⟨some ad,m,rfl,.inl ⟨rfl,fun e=>by cases e⟩⟩
   ·obtain⟨b,o,spot⟩:=ad
    have hs:spot=none:=by simpa [Addr.add] using World.cell?_spot (hq 0 (by omega)).1
    subst hs
    refine⟨_,m,by rw[hL],.inr ⟨b,o,rfl,⟨World.block_lt_of_cell? _ _ (hq 0 (by omega)).1,fun i hi c u hu=>?_⟩⟩⟩
    rw[hL] at hi
    obtain⟨q0,q1,_⟩:=hq i (by omega)
    simp only[List.getElem_map,List.getElem_range] at hu
    rw[Addr.add_lit] at q0 q1
    match c,hu with
    | 0,hu=>simp[Zb] at hu;subst hu;simpa using q0
    | 1,hu=>simp[Zb] at hu;subst hu;simpa [Nat.add_assoc] using q1
  ·obtain⟨i,hi,rfl⟩:=List.mem_map.1 he
   exact(hq i (by have:=List.mem_range.1 hi;omega)).2.2
abbrev exE:List (Int × Int):=[(1,2),(2,3),(3,1),(2,1)]
theorem Z7x:V5 exE [1,2] true:=by
 have m12:((1:Int),(2:Int))∈exE:=by simp
 have m21:((2:Int),(1:Int))∈exE:=by simp
 have r11:Ya exE 1 1:=.tail (.single m12) m21
 have f21:Vh exE 2 1 1:=⟨.one m21,fun m w=>Yo w⟩
 refine⟨⟨fun _=>⟨1,r11⟩,fun _=>rfl⟩,(fun h=>nomatch h),fun _=>⟨1,[2],rfl,r11,fun v r=>?_,⟨.step m12 (.one m21),fun m w=>?_⟩,.step m12 f21 (fun y hy _=>?_) (.last m21)⟩⟩
 ·obtain⟨y,hy⟩:=Vc r
  simp at hy
  omega
 ·have:=Yo w
  cases w with
  | one k=>simp at k
  | step _ k=>have:=Yo k;simp only[List.length_cons,List.length_nil];omega
 ·simp at hy
  show(2:Int)≤y
  omega
theorem Z7y:∀e∈exE,Zc e.1∧Zc e.2:=by
 intro e he
 unfold Zc
 simp at he
 rcases he with rfl | rfl | rfl | rfl<;>simp
theorem Z5k(w:World):Calls prog 4 #[] w fun e w'=>e=.returned (.bool true)∧Nw w w':=by
 have hal:=Z4 w (.cells #[.int .i64 1,.int .i64 2,.int .i64 2,.int .i64 3,.int .i64 3,.int .i64 1,.int .i64 2,.int .i64 1] 30)
 have g1:Nw w (w.alloc (.cells #[.int .i64 1,.int .i64 2,.int .i64 2,.int .i64 3,.int .i64 3,.int .i64 1,.int .i64 2,.int .i64 1] 30)):=(Nw.refl w).alloc _
 obtain⟨w1,hw1⟩:∃x,w.alloc (.cells #[.int .i64 1,.int .i64 2,.int .i64 2,.int .i64 3,.int .i64 3,.int .i64 1,.int .i64 2,.int .i64 1] 30)=x:=⟨_,rfl⟩
 have HW1:=hD0 hw1
 rw[hw1] at hal g1
 have hE:Zw w1 (.slice (some ⟨w.heap.size,0,none⟩) 4 4) exE:=Z6v (row:=Zb) (sz:=2) (fun _=>rfl) (l:=exE) hal 4
 have HC:=hD0 (Z0p hE (by decide) Z7y)
 have HG:=hD0 g1
 clear hw1 hal g1 hE
 go_enter func4,ntmps4
 go_wp2_with fail
 rw[HW1.out]
 refine HC.out.mono ?_
 rintro e w2 ⟨v2,c,b,rfl,hI,hP,g2⟩
 obtain⟨rfl,rfl⟩:=Z0o hP Z7x
 have HI:=hD0 hI
 have g3:Nw w2 (w2.alloc (.cells #[.int .i64 1,.int .i64 2] 3)):=(Nw.refl w2).alloc _
 have hL:IS (w2.alloc (.cells #[.int .i64 1,.int .i64 2] 3)) (.slice (some ⟨w2.heap.size,0,none⟩) 2 2) [1,2]:=by
  have:=World.ownsRow_lit (base:=0) (size:=1) (e:=3) w2 #[.int .i64 1,.int .i64 2] 2 (Nat.zero_le _) (by decide) (by simp)
  simpa [IS] using this
 have HS:=hD0 (Z09 _ v2 (.slice (some ⟨w2.heap.size,0,none⟩) 2 2) [1,2] (hI.nw g3) hL)
 have HG2:=hD0 ((HG.out.trans g2).trans g3)
 clear hI hP g2 g3 hL HC
 go_wp2_with fail
 refine HS.out.mono ?_
 rintro e w3 ⟨rfl,g3⟩
 have HZ:=hD0 (HG2.out.trans g3)
 clear g3
 go_wp2
 go_ret
 exact⟨rfl,HZ.out⟩
end
theorem Z8j{a b:List Int}(ha:a.Pairwise (·<·))(hb:b.Pairwise (·<·))(h:∀x,x∈a↔x∈b):a=b:=by
 have key:∀ {l:List Int},l.Pairwise (·<·)→Zj (l.map fun x=>(x,(0:Int))):=fun {l} hl=>by
  exact List.pairwise_map.2 (hl.imp (fun {x y} k=>.inl k))
 have e:=Z4j (key ha) (key hb) (fun p=>by
  rw[List.mem_map,List.mem_map]
  exact⟨fun⟨x,q,e⟩=>⟨x,(h x).1 q,e⟩,fun⟨x,q,e⟩=>⟨x,(h x).2 q,e⟩⟩)
 have:=congrArg (List.map Prod.fst) e
 rw[List.map_map,List.map_map] at this
 simpa [Function.comp_def] using this
theorem Z5b{l:List (Int × Int)}{a:Int}{c d:List Int}(h:Z34 l a c)(k:Z34 l a d):c=d:=Z8j h.1 k.1 fun x=>(h.2 x).trans (k.2 x).symm
theorem Z4q(a0:Option Addr)(len0 cap0:Nat)(hs:List Hv)(a1:Option Addr)(len1 cap1:Nat)(l:List (Int × Int))(n:Int)(W:World)(hh:HdsIn W a0 len0 cap0 hs)(h:EgIn W a1 len1 cap1 l)(hn:Zc n) :
  Calls prog 3 #[.slice a0 len0 cap0,.slice a1 len1 cap1,.int .i64 n] W fun e W'=>e=.returned (.bool true)∧Nw W W':=by
 have HL:=hD0 (Z5k W)
 have HE:=hD0 h
 have HH:=hD0 hh
 have HN:=hD0 hn
 have HRi:=hD0 (fun(z:World) (g:Nw W z)=>Z5c (hh.nw g))
 clear h hh hn
 by_cases hlen:40<len1
 ·have d:decide ((40:Int)<(len1:Int))=true:=by rw[decide_eq_true_iff];omega
  have d2:decide (40<len1)=true:=by simpa using hlen
  clear hlen
  go_enter func3,ntmps3
  go_wp2_with fail
  refine HL.out.mono ?_
  rintro e w1 ⟨rfl,g1⟩
  have HG:=hD0 g1
  clear g1
  go_wp2_with fail
  go_ret
  exact⟨rfl,HG.out⟩
 ·have d:decide ((40:Int)<(len1:Int))=false:=by rw[decide_eq_false_iff_not];omega
  have d2:decide (40<len1)=false:=by rw[decide_eq_false_iff_not];exact hlen
  have hll:len1≤40:=Nat.le_of_not_lt hlen
  have hl900:l.length≤900:=by rw[HE.out.hl];omega
  have HB:=hD0 hl900
  have HAt:=hD0 (fun(z:World) (g:Nw W z)=>(show Zw z (.slice a1 len1 cap1) l from HE.out.rd.nw g))
  clear hlen hll hl900
  go_enter func3,ntmps3
  go_wp2_with fail
  refine HL.out.mono ?_
  rintro e w0 ⟨rfl,g0⟩
  have HG0:=hD0 g0
  clear g0 HL
  have HC:=hD0 (Z6e _ l w0 (Nat.le_trans HB.out (by decide)) (HAt.out w0 HG0.out))
  go_wp2_with fail
  refine HC.out.mono ?_
  rintro e w1 ⟨v1,rfl,g1,hO1⟩
  have HG1:=hD0 (HG0.out.trans g1)
  have HO1:=hD0 hO1
  clear hO1 g1 HC
  have HC:=hD0 (Z0p (Z6.at_ HO1.out) (Nat.le_trans HB.out (by decide)) HE.out.fit)
  go_wp2_with fail
  refine HC.out.mono ?_
  rintro e w2 ⟨v2,c,b,rfl,hI,hP,g2⟩
  have HG2:=hD0 (HG1.out.trans g2)
  have H2:=hD0 (aI0 hI hP)
  have HK2:=hD0 g2
  clear hI hP HC HO1 g2
  have HC:=hD0 (Z05 (HAt.out w2 HG2.out) HB.out)
  go_wp2_with fail
  refine HC.out.mono ?_
  rintro e w3 ⟨v3,c3,b3,rfl,hI3,hP3,g3⟩
  have HG3:=hD0 (HG2.out.trans g3)
  obtain⟨rfl,rfl⟩:=Z0o H2.out.2 hP3
  have H3:=hD0 (aI0 (H2.out.1.nw g3) hI3)
  clear hI3 hP3 g3 HC
  have hbb:(b != b)=false:=by cases b<;>rfl
  have HC:=hD0 (Z09 w3 _ _ _ H3.out.1 H3.out.2)
  go_wp2_with fail
  refine HC.out.mono ?_
  rintro e w4 ⟨rfl,g4⟩
  have HG4:=hD0 (HG3.out.trans g4)
  clear g4 HC H3
  have HC:=hD0 (Z1s (HAt.out w4 HG4.out) (Nat.le_trans HB.out (by decide)) HE.out.fit)
  go_wp2_with fail
  refine HC.out.mono ?_
  rintro e w5 ⟨b5,rfl,hb5,g5⟩
  have HG5:=hD0 (HG4.out.trans g5)
  have H5:=hD0 hb5
  clear hb5 g5 HC
  have HC:=hD0 (Z1g (HAt.out w5 HG5.out) HB.out)
  go_wp2_with fail
  refine HC.out.mono ?_
  rintro e w6 ⟨c6,b6,rfl,hP6,g6⟩
  have HG6:=hD0 (HG5.out.trans g6)
  obtain rfl:b5=!b6:=by
   have h5:=H5.out
   have h6:=hP6.1
   cases b5<;>cases b6<;>simp_all
  have hb6:(!b6 != !b6)=false:=by cases b6<;>rfl
  have hb7:(b6 != b6)=false:=by cases b6<;>rfl
  clear hP6 g6 HC H5
  have HC:=hD0 (Z6e _ l w6 (Nat.le_trans HB.out (by decide)) (HAt.out w6 HG6.out))
  go_wp2_with fail
  refine HC.out.mono ?_
  rintro e w7 ⟨v7,rfl,g7,hO7⟩
  have HG7:=hD0 (HG6.out.trans g7)
  have HO7:=hD0 hO7
  clear hO7 g7 HC
  have HC:=hD0 (V1 (Z6.at_ HO7.out) (Nat.le_trans HB.out (by decide)))
  go_wp2_with fail
  refine HC.out.mono ?_
  rintro e w8 ⟨v8,rfl,hO8,g8⟩
  have HG8:=hD0 (HG7.out.trans g8)
  have HO8:=hD0 (Z6.at_ hO8)
  clear hO8 g8 HC HO7
  have HC:=hD0 (Vd (HAt.out w8 HG8.out) (Nat.le_trans HB.out (by decide)))
  go_wp2_with fail
  refine HC.out.mono ?_
  rintro e w9 ⟨v9,rfl,hO9,g9⟩
  have HG9:=hD0 (HG8.out.trans g9)
  have HO9:=hD0 (aI0 (HO8.out.nw g9) (Z6.at_ hO9))
  clear hO9 g9 HC HO8
  have HC:=hD0 (U3 _ _ _ w9 (Nat.le_trans (Y6 l) (Nat.le_trans HB.out (by decide))) HO9.out.1 HO9.out.2)
  go_wp2_with fail
  refine HC.out.mono ?_
  rintro e w10 ⟨rfl,g10⟩
  have HG10:=hD0 (HG9.out.trans g10)
  clear g10 HC HO9
  have HC:=hD0 (Z3u (HAt.out w10 HG10.out) (Nat.le_trans HB.out (by decide)) HE.out.fit n HN.out)
  go_wp2_with fail
  refine HC.out.mono ?_
  rintro e w11 ⟨v11,c11,rfl,hI11,hP11,g11⟩
  have HG11:=hD0 (HG10.out.trans g11)
  have H11:=hD0 (aI0 hI11 hP11)
  clear hI11 hP11 g11 HC
  have HC:=hD0 (Z3m (HAt.out w11 HG11.out) HB.out n)
  go_wp2_with fail
  refine HC.out.mono ?_
  rintro e w12 ⟨v12,c12,rfl,hI12,hP12,g12⟩
  have HG12:=hD0 (HG11.out.trans g12)
  obtain rfl:=Z5b H11.out.2 hP12
  have H12:=hD0 (aI0 (H11.out.1.nw g12) hI12)
  clear hI12 hP12 g12 HC H11
  have HC:=hD0 (Z09 w12 _ _ _ H12.out.1 H12.out.2)
  go_wp2_with fail
  refine HC.out.mono ?_
  rintro e w13 ⟨rfl,g13⟩
  have HG13:=hD0 (HG12.out.trans g13)
  clear g13 HC H12
  have HC:=hD0 (Z6e _ l w13 (Nat.le_trans HB.out (by decide)) (HAt.out w13 HG13.out))
  go_wp2_with fail
  refine HC.out.mono ?_
  rintro e w14 ⟨v14,rfl,g14,hO14⟩
  have HG14:=hD0 (HG13.out.trans g14)
  have HO14:=hD0 hO14
  clear hO14 g14 HC
  have HC:=hD0 (Z33 (Z6.at_ HO14.out) (Nat.le_trans HB.out (by decide)) n)
  go_wp2_with fail
  refine HC.out.mono ?_
  rintro e w15 ⟨v15,rfl,hE15,_,g15⟩
  have HG15:=hD0 (HG14.out.trans g15)
  have HO15:=hD0 hE15
  clear hE15 g15 HC HO14
  have HC:=hD0 (Z1k (HAt.out w15 HG15.out) (Nat.le_trans HB.out (by decide)) n)
  go_wp2_with fail
  refine HC.out.mono ?_
  rintro e w16 ⟨v16,rfl,hO16,g16⟩
  have HG16:=hD0 (HG15.out.trans g16)
  have HO16:=hD0 (aI0 (HO15.out.nw g16) (Z6.at_ hO16))
  clear hO16 g16 HC HO15
  have HC:=hD0 (U3 _ _ _ w16 (Nat.le_trans (List.length_filter_le _ _) (Nat.le_trans HB.out (by decide))) HO16.out.1 HO16.out.2)
  go_wp2_with fail
  refine HC.out.mono ?_
  rintro e w17 ⟨rfl,g17⟩
  have HG17:=hD0 (HG16.out.trans g17)
  clear g17 HC HO16
  obtain⟨rg,hrg⟩:∃b,Z1h hs=b:=⟨_,rfl⟩
  have HRG:=hD0 hrg
  rw[hrg] at HRi
  clear hrg
  have HC:=hD0 (HRi.out w17 HG17.out)
  go_wp2_with fail
  refine HC.out.mono ?_
  rintro e w18 ⟨rfl,g18⟩
  have HG18:=hD0 (HG17.out.trans g18)
  clear g18 HC HRi
  cases rg with
  | false =>
   go_wp2_with fail
   go_ret
   exact⟨rfl,HG18.out⟩
  | true =>
   have hrg:=HRG.out
   unfold Z1h at hrg
   rw[Bool.and_eq_true,List.all_eq_true] at hrg
   obtain⟨hlg,hok⟩:=hrg
   unfold Z01 at hlg
   rw[Bool.and_eq_true,decide_eq_true_iff,List.all_eq_true] at hlg
   have HQ:=hD0 (show hs.length≤8∧∀z,Nw W z→∀x∈hs,Z4n z x from⟨hlg.1,fun z g x hx=>⟨((HH.out.all x hx).nw g).at_,(Z83 _ _).1 (hok x hx),of_decide_eq_true (hlg.2 x hx)⟩⟩)
   have HRd:=hD0 (fun(z:World) (g:Nw W z)=>(show Rd 4 U8 z (.slice a0 len0 cap0) hs from HH.out.rd.nw g))
   clear hlg hok HRG
   have HC:=hD0 (Z4v (HRd.out w18 HG18.out) (HQ.out.2 w18 HG18.out) HQ.out.1)
   go_wp2_with fail
   refine HC.out.mono ?_
   rintro e w19 ⟨v19,rfl,hO19,g19⟩
   have HG19:=hD0 (HG18.out.trans g19)
   have HO19:=hD0 (Z6.at_ hO19)
   clear hO19 g19 HC
   have HC:=hD0 (Z3l (HRd.out w19 HG19.out) (HQ.out.2 w19 HG19.out) HQ.out.1)
   go_wp2_with fail
   refine HC.out.mono ?_
   rintro e w20 ⟨v20,rfl,hO20,g20⟩
   have HG20:=hD0 (HG19.out.trans g20)
   have HO20:=hD0 (aI0 (HO19.out.nw g20) (Z6.at_ hO20))
   clear hO20 g20 HC HO19
   have HC:=hD0 (U3 _ _ _ w20 (Nat.le_trans (Y6 _) (Nat.le_trans (Vn HQ.out.1 (fun x hx=>(HQ.out.2 W (Nw.refl W) x hx).len) _) (by decide))) HO20.out.1 HO20.out.2)
   go_wp2_with fail
   refine HC.out.mono ?_
   rintro e w21 ⟨rfl,g21⟩
   have HG21:=hD0 (HG20.out.trans g21)
   clear g21 HC HO20
   go_wp2_with fail
   go_ret
   exact⟨rfl,HG21.out⟩
theorem waitsCalls_law(a0:Option Addr)(len0 cap0:Nat)(hs:List Hv)(a1:Option Addr)(len1 cap1:Nat)(l:List (Int × Int))(n:Int)(W:World)(hh:HdsIn W a0 len0 cap0 hs)(h:EgIn W a1 len1 cap1 l)(hn:Zc n) :
  Calls prog 3 #[.slice a0 len0 cap0,.slice a1 len1 cap1,.int .i64 n] W fun e W'=>e=.returned (.bool true)∧Below W.heap.size W W':=Z4q a0 len0 cap0 hs a1 len1 cap1 l n W hh h hn
end Go.Proofs.YtobnolgphljoeaaGreat
