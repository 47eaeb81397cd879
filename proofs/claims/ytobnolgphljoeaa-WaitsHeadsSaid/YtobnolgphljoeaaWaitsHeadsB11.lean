/- Texts merged: WcN, WcO, WcQ, WdA -/
import Derived.Test.YtobnolgphljoeaaWaitsHeadsB10
import Derived.Shelf.SlLaysZI
import Derived.Shelf.SlIterI.Nil
set_option linter.unusedVariables false
set_option maxRecDepth 100000
set_option maxHeartbeats 16000000
namespace Go.Proofs.Ytobnolgphljoeaa
open Go.RowKit _root_.Go.Proofs.Try
section
open Go.RowKit Go.Sort
theorem Z7z{w:World}{g n cap:Nat}{x:Int}{r:List Int}(h:IS w (.slice (some ⟨g,0,none⟩) n cap) (x::r))(hl:r.length≤1000) :
  Calls prog 46 #[.slice (if cap=1 then some ⟨g,0,none⟩else some ⟨g,1,none⟩) r.length (cap-1)] w fun e w'=>e=.returned (.tuple #[])∧IS w' (.slice (some ⟨g,0,none⟩) n cap) (x::r.reverse)∧Zd (fun k=>k=g) w w':=by
 have hn:=h.nlen
 subst hn
 cases r with
 | nil =>
  refine(Try.slices_Reverse_int_empty (if cap=1 then some ⟨g,0,none⟩else some ⟨g,1,none⟩) (cap-1) w).mono ?_
  rintro e w' ⟨rfl,rfl⟩
  exact⟨rfl,h,Zd.refl _ _⟩
 | cons y r =>
  have hcap:(x::y::r).length≤cap:=by
   rcases h.2 with⟨q,_⟩ | ⟨g',cap',cur,q,_,_,q4,_⟩
   ·simp at q
   ·simp only[Value.slice.injEq] at q
    omega
  have hc1:¬cap=1:=by simp at hcap;omega
  rw[if_neg hc1]
  have hH:Holds (Value.int .i64) w g 1 (y::r).toArray:=by
   intro j hj
   have hj':j<(y::r).length:=by simpa using hj
   have hc:=h.cell (j+1) (by simp at hj' ⊢;omega)
   refine⟨?_,h.frozen (1+j)⟩
   rw[show 1+j=j+1 by omega,hc]
   have e1:(x::y::r).getD (j+1) 0=(y::r)[j]:=by
    rw[List.getD_eq_getElem?_getD,List.getElem?_cons_succ,List.getElem?_eq_getElem hj'];rfl
   have e2:(y::r).toArray[j]! = (y::r)[j]:=by
    rw[getElem!_pos (y::r).toArray j hj];simp
   rw[e1,e2]
  refine(Try.slices_Reverse_int g 1 (cap-1) (y::r) w hH (by omega)).mono ?_
  rintro e w' ⟨rfl,m,rfl⟩
  rcases h.2 with⟨q,_⟩ | ⟨g',cap',cur,q,q0,hb,q4,q5,q6,q7⟩
  ·simp at q
  ·simp only[Value.slice.injEq,Option.some.injEq,Addr.mk.injEq,and_true,true_and] at q
   obtain⟨rfl,rfl⟩:=q
   have hb':(putRow (Value.int .i64) (Sort.ahead w m) g 1 (y::r).reverse.toArray).heap[g]?=some (.cells (putCells (Value.int .i64) 1 (y::r).reverse.toArray cur) 3 (0,0)):=by
    simp[putRow,mapBlock,Sort.ahead,Array.getElem?_modify,hb,onCells]
   have hlen:(x::(y::r).reverse).length=(x::y::r).length:=by simp
   refine⟨rfl,?_,⟨rfl,rfl,rfl,by simp[putRow,mapBlock,Sort.ahead],fun k hk hne=>?_⟩⟩
   ·unfold IS
    rw[hlen]
    refine⟨by simp,.inr ⟨g,cap,_,rfl,q0,hb',q4,q5,by simp[putCells,q6],?_⟩⟩
    apply List.ext_getElem?
    intro j
    by_cases hj:j<(x::y::r).length
    ·have hj1:j<(x::y::r).length*1:=by omega
     rw[List.getElem?_take_of_lt hj1,Array.getElem?_toList]
     have hjc:j<cur.size:=by omega
     rw[show(putCells (Value.int .i64) 1 (y::r).reverse.toArray cur)[j]?=some (if 1≤j∧j<1+(y::r).reverse.toArray.size then Value.int .i64 ((y::r).reverse.toArray[j-1]!)else cur[j]) by
      rw[Array.getElem?_eq_getElem (by simpa [putCells] using hjc)]
      simp[putCells]]
     cases j with
     | zero =>
      rw[if_neg (by omega)]
      have:=congrArg (fun l=>l[0]?) q7
      rw[List.getElem?_take_of_lt (by simp),Array.getElem?_toList,Array.getElem?_eq_getElem hjc] at this
      simpa using this
     | succ j =>
      have hj2:j<(y::r).reverse.length:=by simpa using hj
      rw[if_pos ⟨by omega,by simp at hj2 ⊢;omega⟩]
      simp only[List.map_cons,List.getElem?_cons_succ,Nat.add_sub_cancel]
      rw[List.getElem?_map,List.getElem?_eq_getElem hj2]
      have e2:(y::r).reverse.toArray[j]! = (y::r).reverse[j]:=by
       rw[getElem!_pos (y::r).reverse.toArray j (by simpa using hj2)];simp
      rw[e2];rfl
    ·rw[List.getElem?_take_eq_none (by omega),List.getElem?_eq_none (by simp at hj ⊢;omega)]
   ·have:g≠k:=fun e=>hne e.symm
    simp[putRow,mapBlock,Sort.ahead,Array.getElem?_modify,this]
theorem Z28{a:Int}{W:List (List Int)}(hn:(W.map (Zl a)).Nodup){r:List Int}(hr:r∈W):Yi a W (Zl a r)=some (Zl a r.tail):=by
 unfold Yi
 have:W.find? (fun q=>Zl a q==Zl a r)=some r:=by
  induction W with
  | nil=>cases hr
  | cons q W ih =>
   rw[List.map_cons,List.nodup_cons] at hn
   rw[List.find?_cons]
   by_cases e:Zl a q=Zl a r
   ·have:(Zl a q==Zl a r)=true:=by simpa using e
    rw[this]
    rcases List.mem_cons.1 hr with k | k
    ·rw[k]
    ·exact absurd (e▸List.mem_map.2 ⟨r,k,rfl⟩) hn.1
   ·have:(Zl a q==Zl a r)=false:=by simpa using e
    rw[this]
    rcases List.mem_cons.1 hr with k | k
    ·exact absurd (by rw[k]) e
    ·exact ih hn.2 k
 rw[this];rfl
def Z9w:Value→Nat
 | .slice _ n _=>n
 | _=>0
structure RoI(W0:World)(mb:Nat)(f:Int→Option Int)(N:Nat)(a:Int)(r:List Int)(g cap j:Nat)(w:World):Prop where
 is:IS w (.slice (some ⟨g,0,none⟩) (j+1) cap) (a::r.take j)
 nw:Nw W0 w
 mp:Zh w mb f N
 lo:W0.heap.size≤g
theorem Z4p{W0:World}{mb N:Nat}{f:Int→Option Int}(hm:Zh W0 mb f N)(a:Int)(ha:Zb a)(r:List Int)(hl:r.length≤1000)(h0:f a=some (Zl a r))(hf:∀j,(hj:j<r.length)→Zb r[j]∧r[j]≠a∧f r[j]=some (Zl a (r.drop (j+1)))) :
  Calls prog 24 #[.map (some mb),.int .i64 a] W0 fun e w'=>∃v',e=.returned v'∧IS w' v' (a::r.reverse)∧Nw W0 w':=by
 have HF:=hD0 hf
 have HM:=hD0 hm
 have g1:Nw W0 (W0.alloc (.cells #[.int .i64 a] 3)):=(Nw.refl W0).alloc _
 have hlk:=(hm.nw g1).look_val ha h0
 have HI0:Hid (RoI W0 mb f N a r W0.heap.size 1 0 (W0.alloc (.cells #[.int .i64 a] 3))):=hD0 ⟨by
  have:=World.ownsRow_lit (base:=0) (size:=1) (e:=3) W0 #[.int .i64 a] 1 (Nat.zero_le _) (by decide) (by simp)
  simpa [IS] using this,g1,hm.nw g1,Nat.le_refl _⟩
 obtain⟨w1,hw1⟩:∃x,W0.alloc (.cells #[.int .i64 a] 3)=x:=⟨_,rfl⟩
 rw[hw1] at hlk HI0
 have HW1:=hD0 hw1
 obtain⟨x0,hx0⟩:∃x,Zl a r=x:=⟨_,rfl⟩
 have HX0:=hD0 hx0
 rw[hx0] at hlk
 clear hf hm g1 hw1 hx0 h0 ha
 go_enter func24,ntmps24
 go_upto_region 2 with fail
 rw[HW1.out]
 go_wp2_with fail
 go_loopw [5,6] (fun v5 v6 wr=>∃(j g cap:Nat) (x:Int),v5=.slice (some ⟨g,0,none⟩) (j+1) cap∧v6=.int .i64 x∧j≤r.length∧Hid (Zl a (r.drop j)=x)∧Hid (RoI W0 mb f N a r g cap j wr)) (fun v5 _ _=>r.length+1-Z9w v5)
 case atStart=>exact⟨0,_,_,x0,rfl,rfl,Nat.zero_le _,hD0 HX0.out,HI0⟩
 case round =>
  clear HI0
  obtain⟨j,g,cap,x,rfl,rfl,hj,HX,HI⟩:=hrel
  by_cases hlt:j<r.length
  ·have hx:x=r[j]:=by
    rw[←HX.out,←List.getElem_cons_drop hlt];rfl
   obtain⟨hxf,hxa,hpx⟩:=HF.out j hlt
   rw[←hx] at hxf hxa hpx
   have hne1:(x==a)=false:=by simpa using hxa
   have hne2:(x != a)=true:=by simpa using hxa
   obtain⟨v',w2,hr2,hI2,ht2,hk2,g2,cap2,rfl⟩:=IS.push wr _ (a::r.take j) x HI.out.is (by simp[List.length_take];omega)
   have hlen:(a::r.take j).length+1=j+1+1:=by simp[List.length_take];omega
   have hlk:=(HI.out.mp.tch ht2 (fun e=>by
    have e':g=mb:=Option.some.inj e
    obtain⟨es,c,q⟩:=HI.out.mp.obj
    obtain⟨c',q'⟩:=Zp HI.out.is (g:=g) rfl
    rw[e',q] at q';cases q')).look_val hxf hpx
   have HI2:=hD0 (show RoI W0 mb f N a r g2 cap2 (j+1) w2 from⟨by
    have e:a::r.take (j+1)=(a::r.take j)++[x]:=by rw[List.take_succ_eq_append_getElem hlt,hx];rfl
    rw[e,←hlen];exact hI2,Zg HI.out.nw ht2 (fun i e=>by rw[←Option.some.inj e];exact HI.out.lo),HI.out.mp.tch ht2 (fun e=>by
    have e':g=mb:=Option.some.inj e
    obtain⟨es,c,q⟩:=HI.out.mp.obj
    obtain⟨c',q'⟩:=Zp HI.out.is (g:=g) rfl
    rw[e',q] at q';cases q'),by
    rcases hk2 g2 rfl with e | e
    ·rw[←Option.some.inj e];exact HI.out.lo
    ·exact Nat.le_trans HI.out.nw.sz e⟩)
   have HR2:=hD0 hr2
   obtain⟨y,hy⟩:∃y,Zl a (r.drop (j+1))=y:=⟨_,rfl⟩
   have HY:=hD0 hy
   rw[hy] at hlk
   rw[hlen] at HR2
   clear hr2 hI2 ht2 hk2 hxf hpx hx hlen hy HI
   go_wp2_with (at_builtin;refine Zn (by rfl) (.tmp 18) (.tmp 20) 24 rfl _ _ _ _ rfl rfl HR2.out ?_)
   go_roundw
   case rel=>exact⟨j+1,g2,cap2,y,rfl,rfl,hlt,hD0 HY.out,HI2⟩
   case measure=>show r.length+1-(j+1+1)<r.length+1-(j+1);omega
  ·obtain rfl:j=r.length:=by omega
   have hx:x=a:=by rw[←HX.out,List.drop_length];rfl
   subst hx
   have his:=HI.out.is
   rw[List.take_length] at his
   have hcap:r.length+1≤cap:=by
    rcases his.2 with⟨q,_⟩ | ⟨g',cap',cur,q,_,_,q4,_⟩
    ·simp at q
    ·simp only[Value.slice.injEq] at q
     simp at q4
     omega
   have HRv:=hD0 (Z7z his hl)
   have hc1:1≤r.length+1:=by omega
   have hc2:(1:Int)≤(r.length:Int)+1:=by omega
   have HZ:=hD0 (aI0 HI.out.nw HI.out.lo)
   clear his HI hlt
   by_cases hc:cap=1
   ·subst hc
    obtain rfl:r=[]:=List.length_eq_zero_iff.1 (by omega)
    simp only[if_true,Nat.sub_self,List.length_nil,Nat.zero_add] at HRv hcap hc1 hc2
    clear hj hcap hc1 hc2
    go_wp2_with fail
    refine HRv.out.mono ?_
    rintro e w3 ⟨rfl,hI3,ht3⟩
    have HE:=hD0 (aI0 hI3 (Zg HZ.out.1 ht3 (fun i e=>by rw[e];exact HZ.out.2)))
    clear hI3 ht3 HRv
    go_wp2
    go_ret
    exact⟨_,rfl,HE.out.1,HE.out.2⟩
   ·rw[if_neg hc] at HRv
    obtain⟨nr,hnr⟩:∃n,r.length=n:=⟨_,rfl⟩
    rw[hnr] at HRv hcap hc1 hc2 hl ⊢
    clear hj hnr HF
    go_wp2_with fail
    refine HRv.out.mono ?_
    rintro e w3 ⟨rfl,hI3,ht3⟩
    have HE:=hD0 (aI0 hI3 (Zg HZ.out.1 ht3 (fun i e=>by rw[e];exact HZ.out.2)))
    clear hI3 ht3 HRv
    go_wp2
    go_ret
    exact⟨_,rfl,HE.out.1,HE.out.2⟩
theorem Z6n{w:World}{B:Nat}{a:Int}(h:w.cell? ⟨B,0,none⟩=some (.int .i64 a)):Z4y w (.func (.func 23) #[] #[.pointer (some ⟨B,0,none⟩)]) (fun x=>x==a):=by
 refine⟨23,_,rfl,enters_of func23 (by kernel_rfl) rfl,fun x w1 g=>?_⟩
 have hc:=g.kp h
 simp only[List.append_toArray,List.cons_append,List.nil_append]
 go_enter func23,ntmps23
 go_wp2
 go_ret
 exact⟨rfl,Nw.refl _⟩
theorem Z6k{l:List (Int × Int)}(hF:∀e∈l,Zb e.1∧Zb e.2):∀e∈sortE l,Zb e.1∧Zb e.2:=fun e he=>hF e (Y4.1 he)
theorem Z1o{w:World}{v:Value}{l:List (Int × Int)}(h:V6 w v l)(hl:l.length≤1000)(hF:∀e∈l,Zb e.1∧Zb e.2) :
  Calls prog 9 #[v] w fun e w'=>∃b,e=.returned (.bool b)∧(b=false↔∃x,Yj l x x)∧Nw w w':=by
 have HS:=hD0 (Z09 h hl)
 have hls:=Nat.le_trans (Vu l) hl
 have HA:=hD0 (aI0 hF hls)
 obtain⟨a,c,rfl⟩:=h.form
 clear h hF hls
 go_enter func9,ntmps9
 go_wp2_with fail
 refine HS.out.mono ?_
 rintro e w1 ⟨v1,rfl,hO,g1⟩
 have HL:=hD0 (U1 (Zo.at_ hO) (Vv l) HA.out.2 (Z6k HA.out.1))
 have HG:=hD0 g1
 clear hO g1 HS
 go_wp2_with fail
 refine HL.out.mono ?_
 rintro e w2 ⟨fd,ls,rfl,hR,g2⟩
 have HR:=hD0 (aI0 (show(!fd)=false↔∃x,Yj l x x from by
  have:=hR.1
  constructor
  ·intro q
   obtain⟨x,r⟩:=this.1 (by simpa using q)
   exact⟨x,(Ye (fun _=>Y4)).1 r⟩
  ·rintro⟨x,r⟩
   have:=this.2 ⟨x,(Ye (fun _=>Y4)).2 r⟩
   rw[this];rfl) (HG.out.trans g2))
 clear hR g2 HL
 go_wp2
 go_ret
 exact⟨_,rfl,HR.out.1,HR.out.2⟩
end
section
open Go.RowKit Go.Sort
theorem Z6j{E:List (Int × Int)}{a:Int}{W:List (List Int)}(hs:Zj E)(hr:Yj E a a)(h:SrP E a (fun x=>x==a) W) :
  ∃r,Lst E a a r∧r.length≤E.length∧Yi a W a=some (Zl a r)∧∀j,(hj:j<r.length)→(∃e∈E,e.2=r[j])∧r[j]≠a∧Yi a W r[j]=some (Zl a (r.drop (j+1))):=by
 rcases h with⟨h,h1,b,h2⟩ | ⟨W1,y,r,h,i,rfl,b,h1,h2,h3,h4,h5⟩
 ·exfalso
  obtain⟨q,hq,e⟩:=List.mem_map.1 ((b.reach h1 a).2 hr)
  have:=h2 q hq
  rw[e] at this
  simp at this
 ·have hy:y=a:=by simpa using h4
  subst hy
  have hrm:r∈([]::W1):=List.mem_of_getElem? h1
  have hnd:((W1++[y::r]).map (Zl y)).Nodup:=by
   rw[List.map_append,List.map_singleton]
   exact List.nodup_append.2 ⟨b.nd,by simp,fun x hx z hz e=>by
    rw[List.mem_singleton.1 hz] at e
    exact h3 ((show x=y from e)▸hx)⟩
  refine⟨r,b.first hs h1 h2 h3,b.wlen hrm,Z28 (r:=y::r) hnd (by simp),fun j hj=>?_⟩
  have hs1:=b.suf r.length r rfl hrm j hj
  have hd:Zl y (r.drop j)=r[j]:=by rw[←List.getElem_cons_drop hj];rfl
  have hm:r[j]∈W1.map (Zl y):=List.mem_map.2 ⟨_,hs1,hd⟩
  refine⟨b.inE _ hm,fun e=>h3 (e▸hm),?_⟩
  have:=Z28 hnd (List.mem_append_left [y::r] hs1)
  rw[hd,List.tail_drop] at this
  exact this
theorem Z45{w:World}{v:Value}{l:List (Int × Int)}(h:V6 w v l)(hl:l.length≤1000)(hF:∀e∈l,Zb e.1∧Zb e.2) :
  Calls prog 8 #[v] w fun e w'=>∃v' c b,e=.returned (.tuple #[v',.bool b])∧IS w' v' c∧Z1n l c b∧Nw w w':=by
 have HS:=hD0 (Z09 h hl)
 have hls:=Nat.le_trans (Vu l) hl
 have HA:=hD0 (aI0 hF hls)
 obtain⟨a,c,rfl⟩:=h.form
 clear h hF hls
 go_enter func8,ntmps8
 go_wp2_with fail
 refine HS.out.mono ?_
 rintro e w1 ⟨v1,rfl,hO,g1⟩
 obtain⟨E,hE⟩:∃E,sortE l=E:=⟨_,rfl⟩
 have HE:=hD0 (aI0 (show Zj E from hE▸Vv l) (aI0 (show E.length≤1000 from hE▸HA.out.2) (aI0 (show ∀e∈E,Zb e.1∧Zb e.2 from hE▸Z6k HA.out.1) (show ∀x,x∈E↔x∈l from fun x=>hE▸Y4))))
 rw[hE] at hO
 have HO:=hD0 (Zo.at_ hO)
 have HL:=hD0 (U1 HO.out HE.out.1 HE.out.2.1 HE.out.2.2.1)
 have HG:=hD0 g1
 clear hO g1 HS hE
 go_wp2_with fail
 refine HL.out.mono ?_
 rintro e w2 ⟨fd,ls,rfl,hR,g2⟩
 have HR:=hD0 (aI0 hR (HG.out.trans g2))
 have HO2:=hD0 (HO.out.nw g2)
 clear hR g2 HL HO HG
 cases fd with
 | false =>
  have HZ:=hD0 (Z0o HE.out.2.2.2 (Z76 (fun q=>by have:=HR.out.1.1.2 q;cases this)))
  go_wp2_with fail
  go_ret2
  exact⟨_,[],false,rfl,IS.nil _,HZ.out,HR.out.2.alloc _⟩
 | true =>
  obtain⟨hr1,hr2⟩:=HR.out.1.2 rfl
  have HLs:=hD0 (aI0 hr1 hr2)
  have hfit:Zb ls:=by
   obtain⟨y,hy⟩:=Z06 hr1
   exact(HE.out.2.2.1 _ hy).1
  have hal:=Z5 w2 (.cells #[.int .i64 ls] 3)
  have g3:Nw w2 (w2.alloc (.cells #[.int .i64 ls] 3)):=(Nw.refl w2).alloc _
  obtain⟨w3,hw3⟩:∃x,w2.alloc (.cells #[.int .i64 ls] 3)=x:=⟨_,rfl⟩
  have HW3:=hD0 hw3
  rw[hw3] at hal g3
  obtain⟨B,hB⟩:∃B,w2.heap.size=B:=⟨_,rfl⟩
  have HB:=hD0 hB
  rw[hB] at hal
  have HAL:=hD0 hal
  have HT:=hD0 (Z6n (a:=ls) (Z2 (j:=0) hal))
  have HSe:=hD0 (Z33 (HO2.out.nw g3) HE.out.1 HE.out.2.1 HE.out.2.2.1 ls hfit HT.out)
  have HG3:=hD0 (aI0 (HR.out.2.trans g3) hfit)
  have hb0:=Z2 (j:=0) hal
  have hBl:=hlt hal
  clear hr1 hr2 hal g3 hw3 HO2 HT hfit hB
  go_upto_region 5 with fail
  rw[HW3.out,HB.out]
  go_wp2_with fail
  refine HSe.out.mono ?_
  rintro e w4 ⟨mb,W,rfl,g4,hmb,hm,hsr⟩
  obtain⟨r,q1,q2,q3,q4⟩:=Z6j HE.out.1 HLs.out.1 hsr
  have HRo:=hD0 (Z4p hm ls HG3.out.2 r (Nat.le_trans q2 HE.out.2.1) q3 (fun j hj=>by
   obtain⟨⟨e,he,e1⟩,e2,e3⟩:=q4 j hj
   exact⟨e1▸(HE.out.2.2.1 e he).2,e2,e3⟩))
  have HQ:=hD0 (aI0 (Z0o HE.out.2.2.2 (Z77 HLs.out.1 HLs.out.2 q1)) (HG3.out.1.trans g4))
  have hb4:=g4.kp hb0
  have hBl4:=lL0 hBl g4.sz
  clear g4 hmb hm hsr q1 q2 q3 q4 HSe hb0 hBl
  go_wp2_with fail
  refine HRo.out.mono ?_
  rintro e w5 ⟨v5,rfl,h5,g5⟩
  have HZ:=hD0 (aI0 h5 (HQ.out.2.trans g5))
  clear h5 g5 HRo
  go_wp2
  go_ret2
  exact⟨_,_,true,rfl,HZ.out.1,HQ.out.1,HZ.out.2⟩
end
abbrev Z9q(p:(Int × Int)→Bool)(l:List (Int × Int)):List (Int × Int):=l.filter fun s=>!p s
structure Zam(p:(Int × Int)→Bool)(w wr:World)(g0 g n cap a b:Nat)(l R:List (Int × Int)):Prop where
 ab:a<b
 bn:b≤l.length
 len:R.length=l.length
 front:R.take a=Z9q p (l.take b)
 rest:R.drop b=l.drop b
 row:Zo wr g0 (.slice (some ⟨g,0,none⟩) n cap) R
 tch:Zd (fun k=>k=g) w wr
section
variable {p:(Int × Int)→Bool} {w wr wr':World} {g0 g n cap a b:Nat} {l R:List (Int × Int)}
end
section
open Go.ChangeShapes Go.WideShapes Go.ChangeAt Go.RowKit
structure Zan(w:World)(a:Option Addr)(len cap:Nat)(l:List (Int × Int)):Prop where
 hl:l.length=len
 rd:V6 w (.slice a len cap) l
 hc:len≤cap
 fit:∀e∈l,Zb e.1∧Zb e.2
abbrev exE:List (Int × Int):=[(1,2),(2,3),(3,1),(2,1)]
theorem Z7g:Z1n exE [1,2] true:=by
 have m12:((1:Int),(2:Int))∈exE:=by simp
 have m21:((2:Int),(1:Int))∈exE:=by simp
 have r11:Yj exE 1 1:=.tail (.single m12) m21
 have f21:Far exE 2 1 1:=⟨.one m21,fun m w=>Z1j w⟩
 refine⟨⟨fun _=>⟨1,r11⟩,fun _=>rfl⟩,(fun h=>nomatch h),fun _=>⟨1,[2],rfl,r11,fun v r=>?_,⟨.step m12 (.one m21),fun m w=>?_⟩,.step m12 f21 (fun y hy _=>?_) (.last m21)⟩⟩
 ·obtain⟨y,hy⟩:=Z06 r
  simp at hy
  omega
 ·have:=Z1j w
  cases w with
  | one k=>simp at k
  | step _ k=>have:=Z1j k;simp only[List.length_cons,List.length_nil];omega
 ·simp at hy
  show(2:Int)≤y
  omega
theorem Z7h:∀e∈exE,Zb e.1∧Zb e.2:=by
 intro e he
 unfold Zb
 simp at he
 rcases he with rfl | rfl | rfl | rfl<;>simp
theorem Z4w(w:World):Calls prog 7 #[] w fun e w'=>e=.returned (.bool true)∧Nw w w':=by
 have hal:=Z5 w (.cells #[.int .i64 1,.int .i64 2,.int .i64 2,.int .i64 3,.int .i64 3,.int .i64 1,.int .i64 2,.int .i64 1] 30)
 have g1:Nw w (w.alloc (.cells #[.int .i64 1,.int .i64 2,.int .i64 2,.int .i64 3,.int .i64 3,.int .i64 1,.int .i64 2,.int .i64 1] 30)):=(Nw.refl w).alloc _
 obtain⟨w1,hw1⟩:∃x,w.alloc (.cells #[.int .i64 1,.int .i64 2,.int .i64 2,.int .i64 3,.int .i64 3,.int .i64 1,.int .i64 2,.int .i64 1] 30)=x:=⟨_,rfl⟩
 have HW1:=hD0 hw1
 rw[hw1] at hal g1
 have hE:V6 w1 (.slice (some ⟨w.heap.size,0,none⟩) 4 4) exE:=Z2f (row:=Yn) (sz:=2) (fun _=>rfl) (l:=exE) hal 4
 have HC:=hD0 (Z45 hE (by decide) Z7h)
 have HG:=hD0 g1
 clear hw1 hal g1 hE
 go_enter func7,ntmps7
 go_wp2_with fail
 rw[HW1.out]
 refine HC.out.mono ?_
 rintro e w2 ⟨v2,c,b,rfl,hI,hP,g2⟩
 obtain⟨rfl,rfl⟩:=Z44 hP Z7g
 have HI:=hD0 hI
 have g3:Nw w2 (w2.alloc (.cells #[.int .i64 1,.int .i64 2] 3)):=(Nw.refl w2).alloc _
 have hL:IS (w2.alloc (.cells #[.int .i64 1,.int .i64 2] 3)) (.slice (some ⟨w2.heap.size,0,none⟩) 2 2) [1,2]:=by
  have:=World.ownsRow_lit (base:=0) (size:=1) (e:=3) w2 #[.int .i64 1,.int .i64 2] 2 (Nat.zero_le _) (by decide) (by simp)
  simpa [IS] using this
 have HS:=hD0 (Z6b _ v2 (.slice (some ⟨w2.heap.size,0,none⟩) 2 2) [1,2] (hI.nw g3) hL)
 have HG2:=hD0 ((HG.out.trans g2).trans g3)
 clear hI hP g2 g3 hL HC
 go_wp2_with fail
 refine HS.out.mono ?_
 rintro e w3 ⟨rfl,g3⟩
 have HZ:=hD0 (HG2.out.trans g3)
 clear g3
 go_wp2
 go_ret
 exact⟨rfl,HZ.out⟩
end
end Go.Proofs.Ytobnolgphljoeaa
