/- Texts merged: WcL, WbO, WbC, TbM, SortE -/
import Derived.Test.YtobnolgphljoeaaWaitsCyclesB5
import Derived.ArgAppend
import Derived.WalkMore
import Derived.Test.YtobnolgphljoeaaChecked
set_option linter.unusedVariables false
set_option maxRecDepth 100000
set_option maxHeartbeats 16000000
namespace Go.Proofs.Ytobnolgphljoeaa
open Go.RowKit _root_.Go.Proofs.Try
structure LnW(w:World)(g0 g k cap:Nat)(L:List Int):Prop where
 blk:∃cur,w.heap[g]?=some (.cells cur 3 (0,0))∧k+cap≤cur.size
 rd:∀j u,(L.map (Value.int .i64))[j]?=some u→w.cell? ⟨g,k+j,none⟩=some u
 le:L.length≤cap
 lo:g0≤g
section
variable {w w':World} {g0 g k cap:Nat} {L:List Int}
theorem LnW.lt(h:LnW w g0 g k cap L):g<w.heap.size:=by
 obtain⟨cur,hb,_⟩:=h.blk
 exact hlt hb
theorem LnW.nw(h:LnW w g0 g k cap L)(n:Nw w w'):LnW w' g0 g k cap L:=by
 have hl:=h.lt
 obtain⟨cur,hb,hs⟩:=h.blk
 exact⟨⟨cur,n.at' hb,hs⟩,fun j u hu=>(n.cell hl).trans (h.rd j u hu),h.le,h.lo⟩
theorem LnW.tch{S:Nat→Prop}(h:LnW w g0 g k cap L)(n:Zf S w w')(hn:¬S g):LnW w' g0 g k cap L:=by
 have hl:=h.lt
 obtain⟨cur,hb,hs⟩:=h.blk
 exact⟨⟨cur,(n.block g hl hn).trans hb,hs⟩,fun j u hu=>(n.cell hl hn).trans (h.rd j u hu),h.le,h.lo⟩
theorem LnW.pop{x:Int}(h:LnW w g0 g k cap (x::L)):w.cell? ⟨g,k,none⟩=some (.int .i64 x)∧LnW w g0 g (if cap=1 then k else k+1) (cap-1) L:=by
 obtain⟨cur,hb,hs⟩:=h.blk
 have hle:=h.le
 simp only[List.length_cons] at hle
 refine⟨by have:=h.rd 0 _ rfl;rwa [Nat.add_zero] at this,⟨cur,hb,by split<;>omega⟩,fun j u hu=>?_,by omega,h.lo⟩
 have hj:=(List.getElem?_eq_some_iff.1 hu).1
 simp only[List.length_map] at hj
 rw[if_neg (by omega)]
 have:=h.rd (j+1) u (by simpa using hu)
 rwa [show k+(j+1)=k+1+j by omega] at this
theorem LnW.push(h:LnW w g0 g k cap L)(x:Int)(hsm:L.length≤100000)(hg0:g0≤w.heap.size) :
  ∃g' k' cap' w2,(Builtin.append_ #[24,24] 24 #[.slice (some ⟨g,k,none⟩) L.length cap,.slice (some ⟨w.heap.size,0,none⟩) 1 1]).run prog (w.alloc (.cells #[.int .i64 x] 3))=.ok (.slice (some ⟨g',k',none⟩) (L.length+1) cap') w2∧LnW w2 g0 g' k' cap' (L++[x])∧Zf (fun b=>b=g) w w2:=by
 obtain⟨i0,hi,hz0,hz1,hz2⟩:=info_parts Z31
 have g1:Nw w (w.alloc (.cells #[.int .i64 x] 3)):=(Nw.refl w).alloc _
 have hal:=Z9 w (.cells #[.int .i64 x] 3)
 have h1:=h.nw g1
 have hgl:=h.lt
 obtain⟨z,hz⟩:∃z,w.alloc (.cells #[.int .i64 x] 3)=z:=⟨_,rfl⟩
 rw[hz] at hal g1 h1 ⊢
 have hnews:∀j u,([Value.int .i64 x]:List Value)[j]?=some u→z.cell? ((⟨w.heap.size,0,none⟩:Addr).add j)=some u:=by
  intro j u hu
  rw[Addr.add_lit,Nat.zero_add,Z7 hal]
  simpa using hu
 by_cases hroom:L.length+1≤cap
 ·obtain⟨cur,hb,hs⟩:=h1.blk
  have hc:∀j,j<([Value.int .i64 x]:List Value).length→(z.cell? ⟨g,k+L.length*i0.size+j,none⟩).isSome=true:=by
   intro j hj
   rw[hz1,Nat.mul_one]
   have hj0:j=0:=by simpa using hj
   subst hj0
   rw[Z7 hb,Array.getElem?_eq_getElem (by omega)];rfl
  have hr:=run_append_room_cells (P:=prog) z 24 24 3 i0 underlying24 hi g k L.length cap ⟨w.heap.size,0,none⟩ 1 1 [.int .i64 x] (by rw[hz1];rfl) hnews (by simp[Value.oneCell']) hroom hc (fun j hj=>hfz hb)
  rw[hz1,Nat.mul_one] at hr
  have hset:z.setCells g (k+L.length) [.int .i64 x]=z.setCell ⟨g,k+L.length,none⟩ (.int .i64 x):=rfl
  rw[hset] at hr
  have t:Zf (fun b=>b=g) z (z.setCell ⟨g,k+L.length,none⟩ (.int .i64 x)):=(Zf.refl (fun b=>b=g) z).set (p:=⟨g,k+L.length,none⟩) (.inl rfl) _
  refine⟨g,k,cap,_,hr,⟨⟨_,Go.Proofs.Ytobnolgphljoeaa.hset _ hb,by simpa using hs⟩,fun j u hu=>?_,by simpa using hroom,h.lo⟩,(Zf.nw g1).trans t⟩
  have hj:=(List.getElem?_eq_some_iff.1 hu).1
  rw[List.map_append] at hu hj
  by_cases q:j<L.length
  ·rw[List.getElem?_append_left (by simpa using q)] at hu
   have hold:=h1.rd j u hu
   have hne:(⟨g,k+L.length,none⟩:Addr)≠⟨g,k+j,none⟩:=fun e=>by simp at e;try omega
   rw[World.cell?_setCell_other _ _ _ _ hne]
   exact hold
  ·simp only[List.length_append,List.length_map,List.length_cons,List.length_nil] at hj
   obtain rfl:j=L.length:=by omega
   rw[List.getElem?_append_right (by simp)] at hu
   simp at hu
   subst hu
   have hsm2:=hc 0 (by simp)
   rw[hz1,Nat.mul_one,Nat.add_zero] at hsm2
   exact World.cell?_setCell_same' _ _ _ hsm2
 ·obtain⟨v',w2,hr,ho,hg⟩:=run_append_arg_grows (P:=prog) z 24 24 3 i0 _ 1 8 underlying24 hi hz0 hz1 hz2 rfl (by decide) ⟨g,k,none⟩ L.length cap (L.map (Value.int .i64)) (by simp)
   (fun j u hu=>by rw[Addr.add_lit];exact h1.rd j u hu) ⟨w.heap.size,0,none⟩ 1 1 [.int .i64 x] rfl hnews (by omega) (by unfold maxLen;omega) (by omega)
  rcases ho.2 with⟨_,q⟩ | ⟨g',cap',cur,rfl,hbg,hb,hnc,_,hcs,htake⟩
  ·simp at q
  ·refine⟨g',0,cap',w2,hr,⟨⟨cur,hb,by rw[hcs];omega⟩,fun j u hu=>?_,by simpa using hnc,Nat.le_trans hg0 (Nat.le_trans g1.sz hbg)⟩,(Zf.nw g1).trans ((Zf.refl _ z).grown hg (fun k e=>by cases e))⟩
   rw[Nat.zero_add]
   have hj:=(List.getElem?_eq_some_iff.1 hu).1
   simp only[List.length_map,List.length_append,List.length_cons,List.length_nil] at hj
   refine(World.ownsRow.cellAt ho j (by omega)).trans ?_
   rw[←hu,List.map_append];rfl
end
def Z06(w:World)(f:Value)(p:Int→Bool):Prop:=∃(g:Nat) (lb:Array Value),f=.func (.func g) #[] lb∧(∀args w,(callFunc g args).run prog w=.ok (.enter g args) w)∧∀(x:Int) (w1:World),Nw w w1→Calls prog g (#[.int .i64 x]++lb) w1 fun e w'=>e=.returned (.bool (p x))∧Nw w1 w'
def Y3(a:Int)(W:List (List Int))(x:Int):Option Int:=(W.find? fun r=>Zd a r==x).map fun r=>Zd a r.tail
theorem Zq{a:Int}{W:List (List Int)}{x:Int}:Y3 a W x=none↔x∉W.map (Zd a):=by
 unfold Y3
 rw[Option.map_eq_none_iff,List.find?_eq_none]
 constructor
 ·intro h m
  obtain⟨r,hr,e⟩:=List.mem_map.1 m
  exact h r hr (by simpa using e)
 ·intro h r hr e
  exact h (List.mem_map.2 ⟨r,hr,by simpa using e⟩)
theorem Vb{a:Int}{W:List (List Int)}{y:Int}{r:List Int}(hy:y∉W.map (Zd a)):Ze (Y3 a W) y (Zd a r)=Y3 a (W++[y::r]):=by
 funext x
 unfold Ze
 by_cases q:x=y
 ·subst q
  rw[if_pos rfl]
  have:=Zq.2 hy
  unfold Y3 at this ⊢
  rw[Option.map_eq_none_iff] at this
  rw[List.find?_append,this]
  have e:((x::r)::[]).find? (fun r=>Zd a r==x)=some (x::r):=by simp[Zd]
  rw[e];rfl
 ·rw[if_neg q]
  unfold Y3
  rw[List.find?_append]
  have:((y::r)::[]).find? (fun r=>Zd a r==x)=none:=by
   rw[List.find?_eq_none]
   intro z hz
   rw[List.mem_singleton.1 hz]
   simp[Zd];exact fun e=>q e.symm
  rw[this]
  simp
def SrP(E:List (Int × Int))(a:Int)(p:Int→Bool)(W:List (List Int)):Prop :=
 (∃h,W.length<h∧BI E a W h 0∧∀r∈W,p (Zd a r)=false) ∨
 (∃W1 y r h i,W=W1++[y::r]∧BI E a W1 h i∧([]::W1)[h]?=some r∧E[i]?=some (Zd a r,y)∧y∉W1.map (Zd a)∧p y=true∧∀r∈W1,p (Zd a r)=false)
structure SeI(W0 w:World)(mb g k cap:Nat)(a:Int)(W:List (List Int))(L:List Int):Prop where
 nw:Nw W0 w
 mp:Za w mb (Y3 a W) W.length
 ln:LnW w W0.heap.size g k cap L
 mW:W0.heap.size≤mb
section
variable {W0 w w':World} {mb g k cap:Nat} {a:Int} {W:List (List Int)} {L:List Int}
theorem SeI.mg(h:SeI W0 w mb g k cap a W L):mb≠g:=fun e=>by
 obtain⟨es,c,q⟩:=h.mp.obj
 obtain⟨cur,q2,_⟩:=h.ln.blk
 rw[e,q2] at q;cases q
def Ye(a:Int)(W:List (List Int))(h:Nat):List Int:=(([]::W).drop h).map (Zd a)
theorem Yl(a:Int)(W:List (List Int))(h:Nat):(Ye a W h).length=W.length+1-h:=by simp[Ye]
theorem Z0y{a:Int}{W:List (List Int)}{h:Nat}{r:List Int}(hr:([]::W)[h]?=some r):Ye a W h=Zd a r::Ye a W (h+1):=by
 obtain⟨hl,e⟩:=List.getElem?_eq_some_iff.1 hr
 unfold Ye
 rw[←List.getElem_cons_drop hl,e];rfl
theorem Vv{a:Int}{W:List (List Int)}{h:Nat}(x:List Int)(hh:h≤W.length+1):Ye a (W++[x]) h=Ye a W h++[Zd a x]:=by
 unfold Ye
 rw[←List.cons_append,List.drop_append_of_le_length (by simpa using hh)]
 simp
end
section
variable {W0:World} {ev:Value} {E:List (Int × Int)}
theorem Vf(hed:Yc W0 ev E)(hs:Zc E)(hl:E.length≤1000)(hF:∀e∈E,Z8 e.1∧Z8 e.2)(a:Int)(ha:Z8 a){f:Value}{p:Int→Bool}(hf:Z06 W0 f p) :
  Calls prog 22 #[ev,.int .i64 a,f] W0 fun e w'=>∃mb W,e=.returned (.map (some mb))∧Nw W0 w'∧W0.heap.size≤mb∧Za w' mb (Y3 a W) W.length∧SrP E a p W:=by
 have HS:=hD0 (fun(v:Int) (x:World) (g:Nw W0 x)=>Vy v ev E x (Nat.le_trans hl (by decide)) hs (hed.nw g))
 have HA:=hD0 (aI0 hs (aI0 hl hF))
 obtain⟨ea,ec,rfl,hed'⟩:=hed
 have HD:=hD0 hed'
 obtain⟨fg,lb,rfl,eg,hfc⟩:=hf
 have HFc:=hD0 hfc
 have hmm:=@run_makeMap prog
 obtain⟨n,hn⟩:∃n,E.length=n:=⟨_,rfl⟩
 have HN:=hD0 hn
 rw[hn] at hl HS ⊢
 clear hs hF hed' hfc hn ha
 go_enter func22,ntmps22
 go_wp2_with fail
 go_step3
 go_wp2_with fail
 have s1:(W0.alloc (.map #[] 0)).heap.size=W0.heap.size+1:=by simp
 have ha2:=Z9 (W0.alloc (.map #[] 0)) (.cells #[.int .i64 a] 3)
 obtain⟨w3,hw3⟩:∃x,(W0.alloc (.map #[] 0)).alloc (.cells #[.int .i64 a] 3)=x:=⟨_,rfl⟩
 rw[s1,hw3] at ha2
 have HI0:Hid (SeI W0 w3 W0.heap.size (W0.heap.size+1) 0 1 a [] [a]):=hD0 ⟨by rw[←hw3];exact((Nw.refl W0).alloc _).alloc _,by
   rw[←hw3]
   exact(Za.made W0).nw ((Nw.refl _).alloc _),⟨⟨_,ha2,by simp⟩,fun j u hu=>by
   rw[Z7 ha2,Nat.zero_add]
   simpa using hu,Nat.le_refl _,Nat.le_succ _⟩,Nat.le_refl _⟩
 rw[hw3]
 obtain⟨mb,hmb⟩:∃b,W0.heap.size=b:=⟨_,rfl⟩
 have HMB:=hD0 (Nat.le_of_eq hmb)
 rw[hmb] at HI0 ⊢
 clear s1 ha2 hw3 hmm hmb
 go_step3
 go_wp2_with fail
 go_loopg [8] (E.length+1) (fun gk v8 wr=>∃(g k cap h:Nat) (W:List (List Int)) (L:List Int),v8=.slice (some ⟨g,k,none⟩) L.length cap∧Hid (SeI W0 wr mb g k cap a W L∧BI E a W h 0∧Ye a W h=L∧h≤W.length+1∧gk=E.length+1-h∧∀r∈W,p (Zd a r)=false))
 case atStart=>exact⟨mb+1,0,1,0,[],[a],rfl,HI0.out,BI.start,rfl,Nat.zero_le _,rfl,by simp⟩
 case round =>
  clear HI0
  obtain⟨g,k,cap,h,W,L,rfl,HI⟩:=hrel
  cases L with
  | nil =>
   have HF:=hD0 (show SrP E a p W from .inl ⟨h,by
    have:=HI.out.2.2.1
    have e:=Yl a W h
    rw[this] at e
    simp at e
    omega,HI.out.2.1,HI.out.2.2.2.2.2⟩)
   have HI1:=hD0 HI.out.1
   clear HI
   go_wp2_with fail
   rw[Exit.noGoto_ret]
   go_ret
   exact⟨mb,W,rfl,HI1.out.nw,HI1.out.mW,HI1.out.mp,HF.out⟩
  | cons t L =>
   obtain⟨r,hr⟩:∃r,([]::W)[h]?=some r:=by
    have e:=Yl a W h
    rw[HI.out.2.2.1] at e
    simp only[List.length_cons] at e
    have hl':h<([]::W).length:=by simp only[List.length_cons];omega
    exact⟨_,List.getElem?_eq_getElem hl'⟩
   have hcons:=Z0y (a:=a) hr
   rw[HI.out.2.2.1] at hcons
   injection hcons with ht hL
   obtain⟨ct,hln⟩:=HI.out.1.ln.pop
   have hgl:=HI.out.1.ln.lt
   have hcl:L.length+1≤cap:=by have:=HI.out.1.ln.le;simpa using this
   have hb:=(HI.out.2.1.to hr (Yp E t) (Nat.zero_le _) (by rw[←ht];exact Nat.le_refl _))
   have HB:=hD0 (aI0 hb (aI0 hr (aI0 ht (aI0 hL HI.out.2.2.2.2))))
   have HG:=hD0 (show ∀wz,Nw wr wz→SeI W0 wz mb g (if cap=1 then k else k+1) (cap-1) a W L from fun wz q=>⟨HI.out.1.nw.trans q,HI.out.1.mp.nw q,hln.nw q,HI.out.1.mW⟩)
   have HS2:=hD0 (HS.out t wr HI.out.1.nw)
   obtain⟨len1,hlen1⟩:∃m,L.length+1=m:=⟨_,rfl⟩
   have hl0:(0:Int)<(len1:Int):=by omega
   have hl00:0<len1:=by omega
   have hl1:(1:Int)≤(len1:Int):=by omega
   have hl11:1≤len1:=by omega
   have hl2:((len1:Int)-1).toNat=L.length:=by omega
   have hl22:len1-1=L.length:=by omega
   rw[hlen1] at hcl
   rw[List.length_cons,hlen1]
   clear hr ht hL hln hb HI hlen1 HS
   by_cases hc1:cap=1
   ·subst hc1
    simp only[if_true,Nat.sub_self] at HG
    go_wp2_with fail
    refine HS2.out.mono ?_
    rintro e w5 ⟨rfl,g5⟩
    have HI5:=hD0 (HG.out w5 g5)
    clear g5 HS2 HG ct hgl
    go_wp2_with fail
    obtain⟨i0,hi0⟩:∃m,Yp E t=m:=⟨_,rfl⟩
    have hi0n:i0≤n:=by rw[←hi0,←HN.out];exact U6 E t
    rw[hi0] at HB
    rw[hi0]
    have HST:=hD0 hi0
    clear hi0
    go_loopw [8,10] (fun v8 v10 wr=>∃(g k cap i:Nat) (W:List (List Int)) (L:List Int),v8=.slice (some ⟨g,k,none⟩) L.length cap∧v10=.int .i64 i∧i≤n∧Hid (SeI W0 wr mb g k cap a W L∧BI E a W h i∧Ye a W (h+1)=L∧([]::W)[h]?=some r∧i0≤i∧∀r∈W,p (Zd a r)=false)) (fun _ v10 _=>n-(intOf v10).toNat)
    case atStart=>exact⟨g,k,0,i0,W,L,rfl,rfl,hi0n,hD0 ⟨HI5.out,HB.out.1,HB.out.2.2.2.1.symm,HB.out.2.1,Nat.le_refl _,HB.out.2.2.2.2.2⟩⟩
    case round =>
     clear HI5
     generalize wr=w6 at *
     obtain⟨g6,k6,c6,i,W6,L6,rfl,rfl,hin,HI⟩:=hrel
     have HT:=hD0 (aI0 HB.out.2.2.1 HB.out.2.2.2.2.1)
     by_cases hlt:i<n
     ·have hiE:i<E.length:=by rw[HN.out];exact hlt
      obtain⟨e,he⟩:∃e,E[i]=e:=⟨_,rfl⟩
      rcases HD.out with⟨q,_⟩ | ⟨eb,eo,rfl,hrc⟩
      ·rw[q] at hiE;simp at hiE
      ·obtain⟨x0,x1⟩:=(hrc.nw HI.out.1.nw).eg hiE
       have hebl:=(hrc.nw HI.out.1.nw).lt
       rw[he] at x0 x1
       have he':E[i]?=some e:=by rw[List.getElem?_eq_getElem hiE,he]
       obtain⟨ex,ey⟩:=e
       simp only at x0 x1
       obtain⟨dl1,dl2⟩:=Z2f hlt
       have hlt':=Zo hlt
       have hw:=Y2 i (i+1) (Nat.le_trans (Nat.le_of_lt hlt) (Nat.le_trans hl (by decide))) rfl
       obtain⟨i1,hi1⟩:∃m,i+1=m:=⟨_,rfl⟩
       have HI1:=hD0 hi1
       rw[hi1] at hw
       have HE:=hD0 he'
       clear he he' hiE hi1
       by_cases hx:ex=t
       ·subst hx
        have hy:=(HA.out.2.2 _ (List.mem_of_getElem? HE.out)).2
        have hr0:Zd a r=ex:=HT.out.1.symm
        cases hpy:Y3 a W6 ey with
        | some z =>
         have hlk:=HI.out.1.mp.look_yes hy hpy
         have HI2:=hD0 (show SeI W0 w6 mb g6 k6 c6 a W6 L6∧BI E a W6 h i1∧Ye a W6 (h+1)=L6∧([]::W6)[h]?=some r∧i0≤i1∧∀r∈W6,p (Zd a r)=false from⟨HI.out.1,by rw[←HI1.out];exact HI.out.2.1.skip HA.out.1 HI.out.2.2.2.1 (by rw[hr0];exact HE.out) (Classical.not_not.1 (fun q=>by rw[Zq.2 q] at hpy;cases hpy)),HI.out.2.2.1,HI.out.2.2.2.1,by rw[←HI1.out];exact Nat.le_succ_of_le HI.out.2.2.2.2.1,HI.out.2.2.2.2.2⟩)
         clear hy hr0 hpy HI
         go_wp2_with fail
         go_roundw
         case rel=>exact⟨g6,k6,c6,i1,W6,L6,rfl,rfl,by rw[←HI1.out];exact hlt,HI2⟩
         case measure=>rw[←HI1.out];exact Zz hlt
        | none =>
         have hno:=Zq.1 hpy
         have hlk:=HI.out.1.mp.look_no hy hpy
         obtain⟨w7,hr7,hm7,hg7⟩:=HI.out.1.mp.put (by have:=HI.out.2.1.size;have:=HA.out.2.1;omega) hy ex
         have ht7:=U7 hg7
         have hnw7:Nw W0 w7:=Zh HI.out.1.nw ht7 (fun b e=>by subst e;exact HI.out.1.mW)
         rw[←hr0,Vb hno] at hm7
         have hln7:=HI.out.1.ln.tch ht7 (fun e=>HI.out.1.mg e.symm)
         have HF7:=hD0 (HFc.out ey w7 hnw7)
         have HPU:=hD0 (HI.out.2.1.push HA.out.1 HI.out.2.2.2.1 (by rw[hr0];exact HE.out) hno)
         have HR7:=hD0 hr7
         have HX7:=hD0 (aI0 hnw7 (aI0 hm7 (aI0 hln7 hno)))
         have hr0H:=hD0 hr0
         clear hr7 hm7 hg7 ht7 hnw7 hln7 hno hy hr0 hpy
         cases hp:p ey with
         | true =>
          have HPY:=hD0 hp
          rw[hp] at HF7
          clear hp
          go_wp2_with (at_mapUpdate;refine Zk rfl (.tmp 55) (.tmp 56) (.tmp 57) 53 rfl _ _ _ _ rfl rfl rfl HR7.out ?_)
          go_at_fn fg
          refine HF7.out.mono ?_
          rintro e w8 ⟨rfl,g8⟩
          have HZ:=hD0 (aI0 (HX7.out.1.trans g8) (HX7.out.2.1.nw g8))
          clear g8 HF7
          go_wp2_with fail
          try rw[Exit.noGoto_ret]
          go_ret
          exact⟨mb,W6++[ey::r],rfl,HZ.out.1,HI.out.1.mW,by rw[List.length_append,List.length_singleton];exact HZ.out.2,.inr ⟨W6,ey,r,h,i,rfl,HI.out.2.1,HI.out.2.2.2.1,by rw[hr0H.out];exact HE.out,HX7.out.2.2.2,HPY.out,HI.out.2.2.2.2.2⟩⟩
         | false =>
          have HPY:=hD0 hp
          rw[hp] at HF7
          clear hp
          go_wp2_with (at_mapUpdate;refine Zk rfl (.tmp 55) (.tmp 56) (.tmp 57) 53 rfl _ _ _ _ rfl rfl rfl HR7.out ?_)
          go_at_fn fg
          refine HF7.out.mono ?_
          rintro e w8 ⟨rfl,g8⟩
          have hln8:=HX7.out.2.2.1.nw g8
          obtain⟨g9,k9,c9,w9,hr9,hln9,ht9⟩:=hln8.push ey (by
           have e:=Yl a W6 (h+1)
           rw[HI.out.2.2.1] at e
           have:=HI.out.2.1.size
           have:=HA.out.2.1
           omega) (HX7.out.1.trans g8).sz
          have hA9:SeI W0 w9 mb g9 k9 c9 a (W6++[ey::r]) (L6++[ey]):=by
           refine⟨Zh (HX7.out.1.trans g8) ht9 (fun b e=>by subst e;exact hln8.lo),?_,hln9,HI.out.1.mW⟩
           rw[List.length_append,List.length_singleton]
           exact(HX7.out.2.1.nw g8).tch ht9 (fun e=>HI.out.1.mg e)
          have hB9:Ye a (W6++[ey::r]) (h+1)=L6++[ey]:=by
           have h1:=(List.getElem?_eq_some_iff.1 HI.out.2.2.2.1).1
           simp only[List.length_cons] at h1
           rw[Vv _ (by omega),HI.out.2.2.1];rfl
          have hC9:∀r'∈W6++[ey::r],p (Zd a r')=false:=by
           intro q hq
           rcases List.mem_append.1 hq with hq | hq
           ·exact HI.out.2.2.2.2.2 q hq
           ·rw[List.mem_singleton.1 hq];exact HPY.out
          have hD9:BI E a (W6++[ey::r]) h i1:=by rw[←HI1.out];exact HPU.out
          have hE9:i0≤i1:=by rw[←HI1.out];exact Nat.le_succ_of_le HI.out.2.2.2.2.1
          have HI9:=hD0 (aI0 hA9 (aI0 hD9 (aI0 hB9 (aI0 (Z2o (x:=ey::r) HI.out.2.2.2.1) (aI0 hE9 hC9)))))
          clear hA9 hB9 hC9 hD9 hE9
          obtain⟨l9,hl9⟩:∃m,L6.length+1=m:=⟨_,rfl⟩
          have HL9:=hD0 hl9
          rw[hl9] at hr9
          have HR9:=hD0 hr9
          clear g8 HF7 hln8 hr9 hln9 ht9 hl9 HX7 HPU
          go_wp2_with (at_builtin;refine Zu (by rfl) (.tmp 61) (.tmp 63) 24 rfl _ _ _ _ rfl rfl HR9.out ?_)
          go_roundw
          case rel=>exact⟨g9,k9,c9,i1,W6++[ey::r],L6++[ey],by rw[←HL9.out,List.length_append,List.length_singleton],rfl,by rw[←HI1.out];exact hlt,HI9⟩
          case measure=>rw[←HI1.out];exact Zz hlt
       ·have hx1:(ex==t)=false:=by simpa using hx
        have HNX:=hD0 (HI.out.2.1.next HA.out.1 HI.out.2.2.2.1 (by rw[←HT.out.1,HST.out];exact HI.out.2.2.2.2.1) (fun y q=>by
         rw[HE.out] at q
         injection q with q
         injection q with q _
         exact hx (by rw[q];exact HT.out.1.symm)) 0 (fun _ _=>Nat.zero_le _))
        go_wp2_with fail
        go_roundg (E.length+1-(h+1))
        case measure =>
         rw[HT.out.2]
         have:=(List.getElem?_eq_some_iff.1 HI.out.2.2.2.1).1
         have h2:=HI.out.2.1.size
         simp at this
         omega
        case rel=>exact⟨g6,k6,c6,h+1,W6,L6,rfl,HI.out.1,HNX.out,HI.out.2.2.1,by
         have:=(List.getElem?_eq_some_iff.1 HI.out.2.2.2.1).1
         simp at this
         omega,rfl,HI.out.2.2.2.2.2⟩
     ·obtain rfl:i=n:=Nat.le_antisymm hin (Nat.le_of_not_lt hlt)
      obtain⟨dl1,dl2⟩:=Z1d (Nat.lt_irrefl i)
      have HNX:=hD0 (HI.out.2.1.next HA.out.1 HI.out.2.2.2.1 (by rw[←HT.out.1,HST.out];exact HI.out.2.2.2.2.1) (fun y q=>by
       have:=(List.getElem?_eq_some_iff.1 q).1
       have:=HN.out
       omega) 0 (fun _ _=>Nat.zero_le _))
      go_wp2_with fail
      go_roundg (E.length+1-(h+1))
      case measure =>
       rw[HT.out.2]
       have:=(List.getElem?_eq_some_iff.1 HI.out.2.2.2.1).1
       have h2:=HI.out.2.1.size
       simp at this
       omega
      case rel=>exact⟨g6,k6,c6,h+1,W6,L6,rfl,HI.out.1,HNX.out,HI.out.2.2.1,by
       have:=(List.getElem?_eq_some_iff.1 HI.out.2.2.2.1).1
       simp at this
       omega,rfl,HI.out.2.2.2.2.2⟩
   ·obtain⟨k1,hk1⟩:∃m,k+1=m:=⟨_,rfl⟩
    obtain⟨c1,hcc⟩:∃m,cap-1=m:=⟨_,rfl⟩
    rw[if_neg hc1,hk1,hcc] at HG
    go_wp2_with fail
    refine HS2.out.mono ?_
    rintro e w5 ⟨rfl,g5⟩
    have HI5:=hD0 (HG.out w5 g5)
    clear g5 HS2 HG ct hgl
    go_wp2_with fail
    obtain⟨i0,hi0⟩:∃m,Yp E t=m:=⟨_,rfl⟩
    have hi0n:i0≤n:=by rw[←hi0,←HN.out];exact U6 E t
    rw[hi0] at HB
    rw[hi0]
    have HST:=hD0 hi0
    clear hi0
    go_loopw [8,10] (fun v8 v10 wr=>∃(g k cap i:Nat) (W:List (List Int)) (L:List Int),v8=.slice (some ⟨g,k,none⟩) L.length cap∧v10=.int .i64 i∧i≤n∧Hid (SeI W0 wr mb g k cap a W L∧BI E a W h i∧Ye a W (h+1)=L∧([]::W)[h]?=some r∧i0≤i∧∀r∈W,p (Zd a r)=false)) (fun _ v10 _=>n-(intOf v10).toNat)
    case atStart=>exact⟨g,k1,c1,i0,W,L,rfl,rfl,hi0n,hD0 ⟨HI5.out,HB.out.1,HB.out.2.2.2.1.symm,HB.out.2.1,Nat.le_refl _,HB.out.2.2.2.2.2⟩⟩
    case round =>
     clear HI5
     generalize wr=w6 at *
     obtain⟨g6,k6,c6,i,W6,L6,rfl,rfl,hin,HI⟩:=hrel
     have HT:=hD0 (aI0 HB.out.2.2.1 HB.out.2.2.2.2.1)
     by_cases hlt:i<n
     ·have hiE:i<E.length:=by rw[HN.out];exact hlt
      obtain⟨e,he⟩:∃e,E[i]=e:=⟨_,rfl⟩
      rcases HD.out with⟨q,_⟩ | ⟨eb,eo,rfl,hrc⟩
      ·rw[q] at hiE;simp at hiE
      ·obtain⟨x0,x1⟩:=(hrc.nw HI.out.1.nw).eg hiE
       have hebl:=(hrc.nw HI.out.1.nw).lt
       rw[he] at x0 x1
       have he':E[i]?=some e:=by rw[List.getElem?_eq_getElem hiE,he]
       obtain⟨ex,ey⟩:=e
       simp only at x0 x1
       obtain⟨dl1,dl2⟩:=Z2f hlt
       have hlt':=Zo hlt
       have hw:=Y2 i (i+1) (Nat.le_trans (Nat.le_of_lt hlt) (Nat.le_trans hl (by decide))) rfl
       obtain⟨i1,hi1⟩:∃m,i+1=m:=⟨_,rfl⟩
       have HI1:=hD0 hi1
       rw[hi1] at hw
       have HE:=hD0 he'
       clear he he' hiE hi1
       by_cases hx:ex=t
       ·subst hx
        have hy:=(HA.out.2.2 _ (List.mem_of_getElem? HE.out)).2
        have hr0:Zd a r=ex:=HT.out.1.symm
        cases hpy:Y3 a W6 ey with
        | some z =>
         have hlk:=HI.out.1.mp.look_yes hy hpy
         have HI2:=hD0 (show SeI W0 w6 mb g6 k6 c6 a W6 L6∧BI E a W6 h i1∧Ye a W6 (h+1)=L6∧([]::W6)[h]?=some r∧i0≤i1∧∀r∈W6,p (Zd a r)=false from⟨HI.out.1,by rw[←HI1.out];exact HI.out.2.1.skip HA.out.1 HI.out.2.2.2.1 (by rw[hr0];exact HE.out) (Classical.not_not.1 (fun q=>by rw[Zq.2 q] at hpy;cases hpy)),HI.out.2.2.1,HI.out.2.2.2.1,by rw[←HI1.out];exact Nat.le_succ_of_le HI.out.2.2.2.2.1,HI.out.2.2.2.2.2⟩)
         clear hy hr0 hpy HI
         go_wp2_with fail
         go_roundw
         case rel=>exact⟨g6,k6,c6,i1,W6,L6,rfl,rfl,by rw[←HI1.out];exact hlt,HI2⟩
         case measure=>rw[←HI1.out];exact Zz hlt
        | none =>
         have hno:=Zq.1 hpy
         have hlk:=HI.out.1.mp.look_no hy hpy
         obtain⟨w7,hr7,hm7,hg7⟩:=HI.out.1.mp.put (by have:=HI.out.2.1.size;have:=HA.out.2.1;omega) hy ex
         have ht7:=U7 hg7
         have hnw7:Nw W0 w7:=Zh HI.out.1.nw ht7 (fun b e=>by subst e;exact HI.out.1.mW)
         rw[←hr0,Vb hno] at hm7
         have hln7:=HI.out.1.ln.tch ht7 (fun e=>HI.out.1.mg e.symm)
         have HF7:=hD0 (HFc.out ey w7 hnw7)
         have HPU:=hD0 (HI.out.2.1.push HA.out.1 HI.out.2.2.2.1 (by rw[hr0];exact HE.out) hno)
         have HR7:=hD0 hr7
         have HX7:=hD0 (aI0 hnw7 (aI0 hm7 (aI0 hln7 hno)))
         have hr0H:=hD0 hr0
         clear hr7 hm7 hg7 ht7 hnw7 hln7 hno hy hr0 hpy
         cases hp:p ey with
         | true =>
          have HPY:=hD0 hp
          rw[hp] at HF7
          clear hp
          go_wp2_with (at_mapUpdate;refine Zk rfl (.tmp 55) (.tmp 56) (.tmp 57) 53 rfl _ _ _ _ rfl rfl rfl HR7.out ?_)
          go_at_fn fg
          refine HF7.out.mono ?_
          rintro e w8 ⟨rfl,g8⟩
          have HZ:=hD0 (aI0 (HX7.out.1.trans g8) (HX7.out.2.1.nw g8))
          clear g8 HF7
          go_wp2_with fail
          try rw[Exit.noGoto_ret]
          go_ret
          exact⟨mb,W6++[ey::r],rfl,HZ.out.1,HI.out.1.mW,by rw[List.length_append,List.length_singleton];exact HZ.out.2,.inr ⟨W6,ey,r,h,i,rfl,HI.out.2.1,HI.out.2.2.2.1,by rw[hr0H.out];exact HE.out,HX7.out.2.2.2,HPY.out,HI.out.2.2.2.2.2⟩⟩
         | false =>
          have HPY:=hD0 hp
          rw[hp] at HF7
          clear hp
          go_wp2_with (at_mapUpdate;refine Zk rfl (.tmp 55) (.tmp 56) (.tmp 57) 53 rfl _ _ _ _ rfl rfl rfl HR7.out ?_)
          go_at_fn fg
          refine HF7.out.mono ?_
          rintro e w8 ⟨rfl,g8⟩
          have hln8:=HX7.out.2.2.1.nw g8
          obtain⟨g9,k9,c9,w9,hr9,hln9,ht9⟩:=hln8.push ey (by
           have e:=Yl a W6 (h+1)
           rw[HI.out.2.2.1] at e
           have:=HI.out.2.1.size
           have:=HA.out.2.1
           omega) (HX7.out.1.trans g8).sz
          have hA9:SeI W0 w9 mb g9 k9 c9 a (W6++[ey::r]) (L6++[ey]):=by
           refine⟨Zh (HX7.out.1.trans g8) ht9 (fun b e=>by subst e;exact hln8.lo),?_,hln9,HI.out.1.mW⟩
           rw[List.length_append,List.length_singleton]
           exact(HX7.out.2.1.nw g8).tch ht9 (fun e=>HI.out.1.mg e)
          have hB9:Ye a (W6++[ey::r]) (h+1)=L6++[ey]:=by
           have h1:=(List.getElem?_eq_some_iff.1 HI.out.2.2.2.1).1
           simp only[List.length_cons] at h1
           rw[Vv _ (by omega),HI.out.2.2.1];rfl
          have hC9:∀r'∈W6++[ey::r],p (Zd a r')=false:=by
           intro q hq
           rcases List.mem_append.1 hq with hq | hq
           ·exact HI.out.2.2.2.2.2 q hq
           ·rw[List.mem_singleton.1 hq];exact HPY.out
          have hD9:BI E a (W6++[ey::r]) h i1:=by rw[←HI1.out];exact HPU.out
          have hE9:i0≤i1:=by rw[←HI1.out];exact Nat.le_succ_of_le HI.out.2.2.2.2.1
          have HI9:=hD0 (aI0 hA9 (aI0 hD9 (aI0 hB9 (aI0 (Z2o (x:=ey::r) HI.out.2.2.2.1) (aI0 hE9 hC9)))))
          clear hA9 hB9 hC9 hD9 hE9
          obtain⟨l9,hl9⟩:∃m,L6.length+1=m:=⟨_,rfl⟩
          have HL9:=hD0 hl9
          rw[hl9] at hr9
          have HR9:=hD0 hr9
          clear g8 HF7 hln8 hr9 hln9 ht9 hl9 HX7 HPU
          go_wp2_with (at_builtin;refine Zu (by rfl) (.tmp 61) (.tmp 63) 24 rfl _ _ _ _ rfl rfl HR9.out ?_)
          go_roundw
          case rel=>exact⟨g9,k9,c9,i1,W6++[ey::r],L6++[ey],by rw[←HL9.out,List.length_append,List.length_singleton],rfl,by rw[←HI1.out];exact hlt,HI9⟩
          case measure=>rw[←HI1.out];exact Zz hlt
       ·have hx1:(ex==t)=false:=by simpa using hx
        have HNX:=hD0 (HI.out.2.1.next HA.out.1 HI.out.2.2.2.1 (by rw[←HT.out.1,HST.out];exact HI.out.2.2.2.2.1) (fun y q=>by
         rw[HE.out] at q
         injection q with q
         injection q with q _
         exact hx (by rw[q];exact HT.out.1.symm)) 0 (fun _ _=>Nat.zero_le _))
        go_wp2_with fail
        go_roundg (E.length+1-(h+1))
        case measure =>
         rw[HT.out.2]
         have:=(List.getElem?_eq_some_iff.1 HI.out.2.2.2.1).1
         have h2:=HI.out.2.1.size
         simp at this
         omega
        case rel=>exact⟨g6,k6,c6,h+1,W6,L6,rfl,HI.out.1,HNX.out,HI.out.2.2.1,by
         have:=(List.getElem?_eq_some_iff.1 HI.out.2.2.2.1).1
         simp at this
         omega,rfl,HI.out.2.2.2.2.2⟩
     ·obtain rfl:i=n:=Nat.le_antisymm hin (Nat.le_of_not_lt hlt)
      obtain⟨dl1,dl2⟩:=Z1d (Nat.lt_irrefl i)
      have HNX:=hD0 (HI.out.2.1.next HA.out.1 HI.out.2.2.2.1 (by rw[←HT.out.1,HST.out];exact HI.out.2.2.2.2.1) (fun y q=>by
       have:=(List.getElem?_eq_some_iff.1 q).1
       have:=HN.out
       omega) 0 (fun _ _=>Nat.zero_le _))
      go_wp2_with fail
      go_roundg (E.length+1-(h+1))
      case measure =>
       rw[HT.out.2]
       have:=(List.getElem?_eq_some_iff.1 HI.out.2.2.2.1).1
       have h2:=HI.out.2.1.size
       simp at this
       omega
      case rel=>exact⟨g6,k6,c6,h+1,W6,L6,rfl,HI.out.1,HNX.out,HI.out.2.2.1,by
       have:=(List.getElem?_eq_some_iff.1 HI.out.2.2.2.1).1
       simp at this
       omega,rfl,HI.out.2.2.2.2.2⟩
end
structure Zw(l:List (Int × Int))(k:Nat)(out:List (Int × Int)):Prop where
 srt:Zc out
 mem:∀x,x∈out↔x∈l.take k
 len:out.length≤k
abbrev Z19(l:List (Int × Int)):Prop:=l.Pairwise fun a b=>¬Vk b a
theorem Z0v{l:List (Int × Int)}{k:Nat}(hk:k<l.length)(x:Int × Int):x∈l.take (k+1)↔x∈l.take k∨x=l[k]:=by
 rw[List.take_succ_eq_append_getElem hk,List.mem_append,List.mem_singleton]
theorem Zw.start(l:List (Int × Int)):Zw l 0 []:=⟨List.Pairwise.nil,by simp,Nat.le_refl _⟩
theorem Zw.push{l out:List (Int × Int)}{k:Nat}(h:Zw l k out)(hw:Z19 l)(hk:k<l.length)(hn:k=0∨∃j,∃hj:j<l.length,k=j+1∧l[k]≠l[j]):Zw l (k+1) (out++[l[k]]):=by
 refine⟨List.pairwise_append.2 ⟨h.srt,by simp,fun x hx y hy=>?_⟩,fun x=>?_,by rw[List.length_append,List.length_singleton];have:=h.len;omega⟩
 ·rw[List.mem_singleton.1 hy]
  obtain⟨i,hi,e⟩:=List.getElem_of_mem ((h.mem x).1 hx)
  simp only[List.length_take] at hi
  rw[List.getElem_take] at e
  subst e
  have hik:i<k:=by omega
  have h1:=List.pairwise_iff_getElem.1 hw i k (by omega) hk hik
  rcases U3 l[i] l[k] with q | q | q
  ·exact q
  ·exfalso
   rcases hn with z | ⟨j,hj,rfl,z⟩
   ·omega
   ·rcases Nat.lt_or_eq_of_le (show i≤j by omega)with a | a
    ·have h2:=List.pairwise_iff_getElem.1 hw i j (by omega) hj a
     have h3:=List.pairwise_iff_getElem.1 hw j (j+1) hj hk (Nat.lt_succ_self j)
     rw[q] at h2
     rcases U3 l[j] l[j+1] with b | b | b
     ·exact h2 b
     ·exact z b.symm
     ·exact h3 b
    ·subst a;exact z q.symm
  ·exact absurd q h1
 ·rw[List.mem_append,List.mem_singleton,h.mem x,Z0v hk]
theorem Zw.skip{l out:List (Int × Int)}{k j:Nat}(h:Zw l k out)(hk:k<l.length)(hj:j<l.length)(e:k=j+1)(hn:l[k]=l[j]):Zw l (k+1) out:=by
 refine⟨h.srt,fun x=>?_,by have:=h.len;omega⟩
 rw[h.mem x,Z0v hk]
 refine⟨.inl,fun q=>q.elim id fun q=>?_⟩
 subst e
 rw[q,hn]
 refine List.mem_of_getElem? (i:=j) ?_
 rw[List.getElem?_take_of_lt (Nat.lt_succ_self j),List.getElem?_eq_getElem hj]
theorem Zw.done{l out:List (Int × Int)}{k:Nat}(h:Zw l k out)(hk:l.length≤k){m:List (Int × Int)}(hp:l.Perm m):out=sortE m :=
 Z20 h.srt fun x=>(h.mem x).trans (by rw[List.take_of_length_le hk];exact hp.mem_iff)
theorem Us(x:Int × Int):∀l:List (Int × Int),(Yf x l).length≤l.length+1
 | []=>by simp[Yf]
 | b::o=>by
  have ih:=Us x o
  unfold Yf
  split
  ·simpa using ih
  ·split<;>simp
theorem Vt:∀(l o:List (Int × Int)),(l.foldl (fun o x=>Yf x o) o).length≤o.length+l.length
 | [],o=>Nat.le_refl _
 | a::t,o=>by
  have h1:=Vt t (Yf a o)
  have h2:=Us a o
  simp only[List.foldl_cons,List.length_cons]
  omega
theorem Yt(l:List (Int × Int)):(sortE l).length≤l.length:=by
 have:=Vt l []
 simp only[List.length_nil,Nat.zero_add] at this
 exact this
section
variable {E:List (Int × Int)} {a:Int} {W:List (List Int)} {h i:Nat}
theorem BI.suf(b:BI E a W h i):∀(n:Nat) (r:List Int),r.length=n→r∈([]::W)→∀j,j<r.length→r.drop j∈W
 | 0,r,hn,_,j,hj=>by omega
 | n+1,r,hn,hr,j,hj=>by
  have hrW:r∈W:=by
   rcases List.mem_cons.1 hr with e | e
   ·rw[e] at hn;simp at hn
   ·exact e
  cases j with
  | zero=>exact hrW
  | succ j =>
   obtain⟨y,k,r0,rfl,h2,_⟩:=b.org r hrW
   exact b.suf n r0 (by simpa using hn) (List.mem_of_getElem? h2) j (by simpa using hj)
theorem BI.heads(b:BI E a W h i){r:List Int}(hr:r∈([]::W)):∀x∈r,x∈W.map (Zd a):=by
 intro x hx
 obtain⟨j,hj,e⟩:=List.getElem_of_mem hx
 have:=b.suf r.length r rfl hr j hj
 refine List.mem_map.2 ⟨_,this,?_⟩
 rw[←List.getElem_cons_drop hj]
 exact e
theorem BI.inE(b:BI E a W h i):∀x∈W.map (Zd a),∃e∈E,e.2=x:=by
 intro x hx
 obtain⟨r,hr,rfl⟩:=List.mem_map.1 hx
 cases(b.rp r hr).1 with
 | nil=>exact absurd rfl (b.rp _ hr).2
 | cons p k=>exact⟨_,k,rfl⟩
end
theorem Z1j{α β:Type}{f:α→β}:∀ {W:List α},(W.map f).Nodup→∀ {q q':α},q∈W→q'∈W→f q=f q'→q=q'
 | [],_,_,_,h,_,_=>nomatch h
 | x::W,hn,q,q',h,h',e=>by
  rw[List.map_cons,List.nodup_cons] at hn
  rcases List.mem_cons.1 h with rfl | k
  ·rcases List.mem_cons.1 h' with rfl | k'
   ·rfl
   ·exact absurd (List.mem_map.2 ⟨q',k',e.symm⟩) hn.1
  ·rcases List.mem_cons.1 h' with rfl | k'
   ·exact absurd (List.mem_map.2 ⟨q,k,e⟩) hn.1
   ·exact Z1j hn.2 k k' e
theorem BI.wlen{E:List (Int × Int)}{a:Int}{W:List (List Int)}{h i:Nat}(b:BI E a W h i){r:List Int}(hr:r∈([]::W)):r.length≤E.length:=by
 have hnd:r.Nodup:=by
  rw[List.nodup_iff_pairwise_ne,List.pairwise_iff_getElem]
  intro x y hx hy hxy e
  have h1:=b.suf r.length r rfl hr x hx
  have h2:=b.suf r.length r rfl hr y hy
  have e1:Zd a (r.drop x)=r[x]:=by rw[←List.getElem_cons_drop hx];rfl
  have e2:Zd a (r.drop y)=r[y]:=by rw[←List.getElem_cons_drop hy];rfl
  have h3:=Z1j b.nd h1 h2 (by rw[e1,e2,e])
  have:=congrArg List.length h3
  simp at this
  omega
 have h1:=Ym hnd (b.heads hr)
 have h2:=b.size
 rw[List.length_map] at h1
 omega
def Z32(l:List (Int × Int))(a:Int)(out:List Int):Prop:=out.Pairwise (·<·)∧∀y,y∈out↔Y0 l a y
def Yq(l:List (Int × Int))(c:List Int)(b:Bool):Prop :=
 (b=true↔∃v,Y0 l v v)∧(b=false→c=[])∧(b=true→∃a r,c=a::r∧Y0 l a a∧(∀v,Y0 l v v→a≤v)∧Far l a a (r.length+1)∧Greedy l a a (r.length+1) r)
theorem Zx{l m:List (Int × Int)}(h:∀x,x∈l↔x∈m){a b:Int}:Y0 l a b↔Y0 m a b:=⟨Uu fun x=>(h x).1,Uu fun x=>(h x).2⟩
theorem Z05{l m:List (Int × Int)}(h:∀x∈l,x∈m){a b:Int}{n:Nat}(w:Way l a n b):Way m a n b:=by
 induction w with
 | one k=>exact .one (h _ k)
 | step k _ ih=>exact .step (h _ k) ih
theorem V6{l m:List (Int × Int)}(h:∀x,x∈l↔x∈m){a b:Int}{n:Nat}(f:Far l a b n):Far m a b n :=
 ⟨Z05 (fun x=>(h x).1) f.1,fun k w=>f.2 k (Z05 (fun x=>(h x).2) w)⟩
theorem Uj{l m:List (Int × Int)}(h:∀x,x∈l↔x∈m){a b:Int}{n:Nat}{r:List Int}(g:Greedy l b a n r):Greedy m b a n r:=by
 induction g with
 | last k=>exact .last ((h _).1 k)
 | step k f mn _ ih=>exact .step ((h _).1 k) (V6 h f) (fun y hy fy=>mn y ((h _).2 hy) (V6 (fun x=>(h x).symm) fy)) ih
theorem Vr{l m:List (Int × Int)}(h:∀x,x∈l↔x∈m){c:List Int}{b:Bool}(p:Yq l c b):Yq m c b:=by
 obtain⟨p1,p2,p3⟩:=p
 refine⟨p1.trans ⟨fun⟨v,q⟩=>⟨v,(Zx h).1 q⟩,fun⟨v,q⟩=>⟨v,(Zx h).2 q⟩⟩,p2,fun hb=>?_⟩
 obtain⟨a,r,e,q1,q2,q3,q4⟩:=p3 hb
 exact⟨a,r,e,(Zx h).1 q1,fun v q=>q2 v ((Zx h).2 q),V6 h q3,Uj h q4⟩
theorem Z0w{l:List (Int × Int)}{c c':List Int}{b b':Bool}(p:Yq l c b)(p':Yq l c' b'):c=c'∧b=b':=by
 obtain⟨p1,p2,p3⟩:=p
 obtain⟨q1,q2,q3⟩:=p'
 have hb:b=b':=by
  have:b=true↔b'=true:=p1.trans q1.symm
  cases b<;>cases b'<;>simp_all
 subst hb
 refine⟨?_,rfl⟩
 cases b with
 | false=>rw[p2 rfl,q2 rfl]
 | true =>
  obtain⟨a,r,rfl,h1,h2,h3,h4⟩:=p3 rfl
  obtain⟨a',r',rfl,k1,k2,k3,k4⟩:=q3 rfl
  obtain rfl:=Int.le_antisymm (h2 _ k1) (k2 _ h1)
  rw[Ug k3 h3] at k4
  rw[Uk h4 k4]
theorem Z2e{l:List (Int × Int)}{a:Int}{r:List Int}(h1:Y0 l a a)(h2:∀v,Y0 l v v→a≤v)(h3:Lst l a a r):Yq l (a::r.reverse) true:=by
 refine⟨⟨fun _=>⟨a,h1⟩,fun _=>rfl⟩,(fun h=>nomatch h),fun _=>⟨a,r.reverse,rfl,h1,h2,?_,?_⟩⟩
 ·rw[List.length_reverse];exact Z0p h3
 ·rw[List.length_reverse];exact V9 r.length rfl h3
theorem Z2d{l:List (Int × Int)}(h:¬∃v,Y0 l v v):Yq l [] false:=⟨⟨(fun q=>nomatch q),fun q=>absurd q h⟩,fun _=>rfl,(fun q=>nomatch q)⟩
section
open Go.RowKit Go.Sort Go.Shelf
theorem Z37{w:World}{g:Nat}{cur F:Array Value}{e:TypeId}(hb:w.heap[g]?=some (.cells cur e (0,0)))(ht:cur.toList.take F.size=F.toList):Holds id w g 0 F:=by
 intro j hj
 refine⟨?_,by simp[World.frozen?,hb]⟩
 have h1:(cur.toList.take F.size)[j]?=F.toList[j]?:=by rw[ht]
 rw[List.getElem?_take_of_lt hj] at h1
 simp only[World.cell?,hb,Nat.zero_add]
 simp only[Option.isSome_none,Bool.false_eq_true,if_false]
 rw[←Array.getElem?_toList,h1]
 simp[hj]
theorem Z3t{w:World}{g n:Nat}{os:Array Obj}{cur:Array Value}{e:TypeId}{fr:Nat × Nat}(F:Array Value)(hb:w.heap[g]?=some (.cells cur e fr)) :
  (grow (putRow id (Sort.ahead w n) g 0 F) os).heap[g]?=some (.cells (putCells id 0 F cur) e fr):=by
 have hg:g<w.heap.size:=(Array.getElem?_eq_some_iff.1 hb).1
 rw[heap_grow_old _ _ (by simpa using hg)]
 simp[putRow,mapBlock,Sort.ahead,Array.getElem?_modify,hb,onCells]
theorem Z4e{w:World}{g n:Nat}{os:Array Obj}(F:Array Value):Zf (fun b=>b=g) w (grow (putRow id (Sort.ahead w n) g 0 F) os):=by
 refine⟨rfl,rfl,rfl,by simp,fun k hk hne=>?_⟩
 rw[heap_grow_old _ _ (by simpa using hk)]
 have:g≠k:=fun e=>hne e.symm
 simp[putRow,mapBlock,Sort.ahead,Array.getElem?_modify,this]
theorem Z3z(cur F:Array Value)(h:F.size≤cur.size):(putCells id 0 F cur).toList.take F.size=F.toList:=by
 apply List.ext_getElem?
 intro j
 by_cases hj:j<F.size
 ·rw[List.getElem?_take_of_lt hj,Array.getElem?_toList]
  simp[putCells,hj,show j<cur.size by omega]
 ·rw[List.getElem?_take_eq_none (by omega),List.getElem?_eq_none (by simp;omega)]
theorem Z2z{α:Type}[Inhabited α]{sz:Nat}{row:α→List Value}(hz:0<sz)(hl:∀a,(row a).length=sz)(ss:List α):flatK row sz ss.toArray=⟨Z6 row ss⟩:=by
 have hlen:(Z6 row ss).length=ss.length*sz:=Y6 hl ss
 apply Array.ext
 ·rw[size_flatK];simp[hlen]
 ·intro t h1 h2
  rw[size_flatK] at h1
  have h1':t<ss.length*sz:=by simpa using h1
  have hd:t/sz<ss.length:=Nat.div_lt_of_lt_mul (by rwa [Nat.mul_comm])
  have hm:t%sz<sz:=Nat.mod_lt _ hz
  have h3:=Zy hl ss (t/sz) (t%sz) hd hm
  rw[show t/sz*sz+t%sz=t by rw[Nat.mul_comm];exact Nat.div_add_mod t sz] at h3
  have e1:=get_flatK row sz ss.toArray t h1
  rw[getElem!_pos _ t (by rw[size_flatK];exact h1)] at e1
  rw[e1,getElem!_pos ss.toArray (t/sz) (by simpa using hd)]
  have e2:(⟨Z6 row ss⟩:Array Value)[t]?=(row ss[t/sz])[t%sz]?:=by
   rw[←h3];simp
  rw[Array.getElem?_eq_getElem h2] at e2
  simp only[List.getElem_toArray]
  rw[getElem!_pos _ _ (by rw[hl];exact hm)]
  rw[List.getElem?_eq_getElem (by rw[hl];exact hm)] at e2
  exact(Option.some.inj e2).symm
theorem Z3x{α:Type}[Inhabited α]{d d':Array α}(h:PermIn 0 d.size d d'):d'.toList.Perm d.toList:=by
 obtain⟨h1,_,h3⟩:=h
 have e1:d'.extract 0 d.size=d':=by rw[←h1];exact Array.extract_size
 have e2:d.extract 0 d.size=d:=Array.extract_size
 rwa [e1,e2] at h3
theorem Z2s{α:Type}[Inhabited α]{lt:α→α→Bool}{d':Array α}{n:Nat}(hn:d'.size=n)(h:SortedIn lt 0 n d'):d'.toList.Pairwise fun a b=>lt b a=false:=by
 rw[List.pairwise_iff_getElem]
 intro i j hi hj hij
 have:=h i j (Nat.zero_le _) hij (by rw[←hn];simpa using hj)
 have hi':i<d'.size:=by simpa using hi
 have hj':j<d'.size:=by simpa using hj
 rw[getElem!_pos d' i hi',getElem!_pos d' j hj'] at this
 simpa using this
theorem Z16{α:Type}[Inhabited α]{ST T:TypeId}{sz bytes:Nat}{row:α→List Value}(E:Ub prog ST T sz bytes row){ρ:Ren}(L:SlLaysF0.n6 prog ρ)(aE:∀w,(isAgg (ρ.t 24)).run prog w=.ok true w)(zE:∀w,(Go.sizeOf (ρ.t 24)).run prog w=.ok sz w)
  (cf:α→α→Int) (hO:SWO (ltOf cf)) (fn:Nat) (eg:∀args w,(callFunc fn args).run prog w=.ok (.enter fn args) w)
  (hc:∀x y W,Calls prog fn #[.agg (row x).toArray,.agg (row y).toArray] W fun e w'=>e=.returned (.int .i64 (cf x y))∧GG W w')
  (g0 g cap:Nat) (ss:List α) (w:World) (h:Yi T sz row w g0 (.slice (some ⟨g,0,none⟩) ss.length cap) ss) (hsm:ss.length≤100000) :
  Calls prog (ρ.f 6) #[.slice (some ⟨g,0,none⟩) ss.length cap,.func (.func fn) #[] #[]] w fun e w'=>e=.returned (.tuple #[])∧∃l:List α,l.Perm ss∧(l.Pairwise fun a b=>ltOf cf b a=false)∧Yi T sz row w' g0 (.slice (some ⟨g,0,none⟩) l.length cap) l∧Zf (fun b=>b=g) w w':=by
 obtain⟨hx,hr⟩:=h
 rcases hr with⟨h0,_⟩ | ⟨g',cap',cur,h1,h2,h3,h4,h5,h6,h7⟩
 ·simp at h0
 ·simp only[Value.slice.injEq,Option.some.injEq,Addr.mk.injEq,and_true,true_and] at h1
  obtain⟨rfl,rfl⟩:=h1
  have hF:(⟨Z6 row ss⟩:Array Value).size=ss.length*sz:=Y6 E.len ss
  have hH:HoldsK row sz w g 0 ss.toArray:=by
   unfold HoldsK
   rw[Z2z E.pos E.len]
   exact Z37 h3 (by rw[hF];exact h7)
  have hcl:CmpLays prog fn #[] row sz cf g 0 ss.toArray.size w:=fun _ _ _ _ x y=>hc x y _
  refine Calls.mono (AnyQ.slices_SortFunc L sz aE zE row E.len E.one cf hO fn #[] g 0 cap ss.toArray w eg hcl hH (hlt h3) (by simp;omega)) ?_
  rintro e w' ⟨rfl,d',n,os,hp,hs,rfl⟩
  have hsz:d'.size=ss.length:=by have:=hp.1;simpa using this
  have hp2:=Z3x hp
  refine⟨rfl,d'.toList,by simpa using hp2,Z2s (by simpa using hsz) hs,?_,?_⟩
  ·have hl:d'.toList.length=ss.length:=by simpa using hsz
   have hz:(⟨Z6 row d'.toList⟩:Array Value).size=ss.length*sz:=by rw[←hl];exact Y6 E.len _
   unfold sortWorldK putRowK
   have ef:flatK row sz d'=⟨Z6 row d'.toList⟩:=by
    have:=Z2z E.pos E.len d'.toList
    rwa [Array.toArray_toList] at this
   rw[ef]
   unfold Yi
   rw[hl]
   refine⟨by show(Z6 row d'.toList).length=_;exact hz,.inr ⟨g,cap,_,rfl,h2,Z3t _ h3,h4,h5,by simp[putCells,h6],?_⟩⟩
   have:=Z3z cur ⟨Z6 row d'.toList⟩ (by rw[hz,h6];exact Nat.mul_le_mul_right sz h4)
   rw[hz] at this
   exact this
  ·exact Z4e _
end
end Go.Proofs.Ytobnolgphljoeaa
namespace Go.Proofs
open _root_.Go.Proofs.Try
open Go.Shelf
def Try.sortE_ren:Go.Shelf.Ren:=⟨fun | 6=>39 | 15=>61 | 14=>60 | 28=>85 | 29=>86 | 20=>77 | 21=>78 | 22=>79 | 23=>80 | 24=>81 | 25=>82 | 26=>83 | 27=>84 | 46=>103 | 47=>104 | 48=>105 | 49=>106 | 50=>107 | 57=>112 | n=>n,fun | 22=>22 | 24=>30 | 25=>73 | 3=>3 | 39=>91 | 0=>0 | 53=>111 | 55=>113 | 4=>4 | 46=>105 | 45=>104 | 50=>51 | 5=>5 | 9=>9 | 66=>125 | 70=>129 | 76=>133 | 77=>134 | n=>n,fun | n=>n⟩
theorem Try.sortE:Go.Proofs.SlLaysF0.n6 prog Try.sortE_ren:={
 mixed:=by kernel_rfl
 f6:=⟨Try.f39.name,by decide,func39.trans (congrArg some (by kernel_rfl))⟩
 f14:=⟨Try.f60.name,by decide,func60.trans (congrArg some (by kernel_rfl))⟩
 f15:=func61.trans (congrArg some (by kernel_rfl))
 f20:=⟨Try.f77.name,by decide,func77.trans (congrArg some (by kernel_rfl))⟩
 f21:=⟨Try.f78.name,by decide,func78.trans (congrArg some (by kernel_rfl))⟩
 f22:=⟨Try.f79.name,by decide,func79.trans (congrArg some (by kernel_rfl))⟩
 f23:=⟨Try.f80.name,by decide,func80.trans (congrArg some (by kernel_rfl))⟩
 f24:=⟨Try.f81.name,by decide,func81.trans (congrArg some (by kernel_rfl))⟩
 f25:=⟨Try.f82.name,by decide,func82.trans (congrArg some (by kernel_rfl))⟩
 f26:=⟨Try.f83.name,by decide,func83.trans (congrArg some (by kernel_rfl))⟩
 f27:=⟨Try.f84.name,by decide,func84.trans (congrArg some (by kernel_rfl))⟩
 f28:=func85.trans (congrArg some (by kernel_rfl))
 f29:=func86.trans (congrArg some (by kernel_rfl))
 f46:=⟨Try.f103.name,by decide,func103.trans (congrArg some (by kernel_rfl))⟩
 f47:=func104.trans (congrArg some (by kernel_rfl))
 f48:=func105.trans (congrArg some (by kernel_rfl))
 f49:=⟨Try.f106.name,by decide,func106.trans (congrArg some (by kernel_rfl))⟩
 f50:=⟨Try.f107.name,by decide,func107.trans (congrArg some (by kernel_rfl))⟩
 f57:=⟨Try.f112.name,by decide,func112.trans (congrArg some (by kernel_rfl))⟩
 t0:=underlying0
 a0:=Try.isAgg0
 z0:=Try.sizeOf0
 v0:=Try.zeroValue0
 t3:=underlying3
 a3:=Try.isAgg3
 z3:=Try.sizeOf3
 v3:=Try.zeroValue3
 t4:=underlying4
 a4:=Try.isAgg4
 z4:=Try.sizeOf4
 v4:=Try.zeroValue4
 t5:=underlying5
 a5:=Try.isAgg5
 z5:=Try.sizeOf5
 v5:=Try.zeroValue5
 t9:=underlying9
 a9:=Try.isAgg9
 z9:=Try.sizeOf9
 v9:=Try.zeroValue9
 t22:=underlying22
 a22:=Try.isAgg22
 z22:=Try.sizeOf22
 v22:=Try.zeroValue22
 t25:=underlying73
 a25:=Try.isAgg73
 z25:=Try.sizeOf73
 v25:=Try.zeroValue73
 t39:=underlying91
 a39:=Try.isAgg91
 z39:=Try.sizeOf91
 v39:=Try.zeroValue91
 t45:=underlying104
 a45:=Try.isAgg104
 z45:=Try.sizeOf104
 v45:=Try.zeroValue104
 t46:=underlying105
 a46:=Try.isAgg105
 z46:=Try.sizeOf105
 v46:=Try.zeroValue105
 t50:=underlying51
 a50:=Try.isAgg51
 z50:=Try.sizeOf51
 v50:=Try.zeroValue51
 t53:=underlying111
 a53:=Try.isAgg111
 z53:=Try.sizeOf111
 v53:=Try.zeroValue111
 t55:=underlying113
 a55:=Try.isAgg113
 z55:=Try.sizeOf113
 v55:=Try.zeroValue113
 t66:=underlying125
 a66:=Try.isAgg125
 z66:=Try.sizeOf125
 v66:=Try.zeroValue125
 t70:=underlying129
 a70:=Try.isAgg129
 z70:=Try.sizeOf129
 v70:=Try.zeroValue129
 t76:=underlying133
 a76:=Try.isAgg133
 z76:=Try.sizeOf133
 v76:=Try.zeroValue133
 t77:=underlying134
 a77:=Try.isAgg134
 z77:=Try.sizeOf134
 v77:=Try.zeroValue134 }
end Go.Proofs
namespace Go.Proofs.Ytobnolgphljoeaa
open Go.RowKit _root_.Go.Proofs.Try
end Go.Proofs.Ytobnolgphljoeaa
