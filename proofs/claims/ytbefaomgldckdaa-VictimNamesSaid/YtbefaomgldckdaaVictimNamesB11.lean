/- Texts merged: WcL, WcN, WcO -/
import Derived.Test.YtbefaomgldckdaaVictimNamesB10
import Derived.ArgAppend
import Derived.WalkMore
set_option linter.unusedVariables false
set_option maxRecDepth 100000
set_option maxHeartbeats 16000000
namespace Go.Proofs.Ytbefaomgldckdaa
open Go.RowKit _root_.Go.Proofs.Try
structure LnW(w:World)(g0 g k cap:Nat)(L:List Int):Prop where
 blk:∃cur,w.heap[g]?=some (.cells cur 3 (0,0))∧k+cap≤cur.size
 rd:∀j u,(L.map (Value.int .i64))[j]?=some u→w.cell? ⟨g,k+j,none⟩=some u
 le:L.length≤cap
 lo:g0≤g
section
variable {w w':World} {g0 g k cap:Nat} {L:List Int}
theorem LnW.lt(h:LnW w g0 g k cap L):g<w.heap.size:=by
 obtain⟨cur,hb,_⟩:=h.blk
 exact hlt hb
theorem LnW.nw(h:LnW w g0 g k cap L)(n:Nw w w'):LnW w' g0 g k cap L:=by
 have hl:=h.lt
 obtain⟨cur,hb,hs⟩:=h.blk
 exact⟨⟨cur,n.at' hb,hs⟩,fun j u hu=>(n.cell hl).trans (h.rd j u hu),h.le,h.lo⟩
theorem LnW.tch{S:Nat→Prop}(h:LnW w g0 g k cap L)(n:Zc S w w')(hn:¬S g):LnW w' g0 g k cap L:=by
 have hl:=h.lt
 obtain⟨cur,hb,hs⟩:=h.blk
 exact⟨⟨cur,(n.block g hl hn).trans hb,hs⟩,fun j u hu=>(n.cell hl hn).trans (h.rd j u hu),h.le,h.lo⟩
theorem LnW.pop{x:Int}(h:LnW w g0 g k cap (x::L)):w.cell? ⟨g,k,none⟩=some (.int .i64 x)∧LnW w g0 g (if cap=1 then k else k+1) (cap-1) L:=by
 obtain⟨cur,hb,hs⟩:=h.blk
 have hle:=h.le
 simp only[List.length_cons] at hle
 refine⟨by have:=h.rd 0 _ rfl;rwa [Nat.add_zero] at this,⟨cur,hb,by split<;>omega⟩,fun j u hu=>?_,by omega,h.lo⟩
 have hj:=(List.getElem?_eq_some_iff.1 hu).1
 simp only[List.length_map] at hj
 rw[if_neg (by omega)]
 have:=h.rd (j+1) u (by simpa using hu)
 rwa [show k+(j+1)=k+1+j by omega] at this
theorem LnW.push(h:LnW w g0 g k cap L)(x:Int)(hsm:L.length≤100000)(hg0:g0≤w.heap.size) :
  ∃g' k' cap' w2,(Builtin.append_ #[28,28] 28 #[.slice (some ⟨g,k,none⟩) L.length cap,.slice (some ⟨w.heap.size,0,none⟩) 1 1]).run prog (w.alloc (.cells #[.int .i64 x] 3))=.ok (.slice (some ⟨g',k',none⟩) (L.length+1) cap') w2∧LnW w2 g0 g' k' cap' (L++[x])∧Zc (fun b=>b=g) w w2:=by
 obtain⟨i0,hi,hz0,hz1,hz2⟩:=info_parts Z7d
 have g1:Nw w (w.alloc (.cells #[.int .i64 x] 3)):=(Nw.refl w).alloc _
 have hal:=Z5 w (.cells #[.int .i64 x] 3)
 have h1:=h.nw g1
 have hgl:=h.lt
 obtain⟨z,hz⟩:∃z,w.alloc (.cells #[.int .i64 x] 3)=z:=⟨_,rfl⟩
 rw[hz] at hal g1 h1 ⊢
 have hnews:∀j u,([Value.int .i64 x]:List Value)[j]?=some u→z.cell? ((⟨w.heap.size,0,none⟩:Addr).add j)=some u:=by
  intro j u hu
  rw[Addr.add_lit,Nat.zero_add,Z2 hal]
  simpa using hu
 by_cases hroom:L.length+1≤cap
 ·obtain⟨cur,hb,hs⟩:=h1.blk
  have hc:∀j,j<([Value.int .i64 x]:List Value).length→(z.cell? ⟨g,k+L.length*i0.size+j,none⟩).isSome=true:=by
   intro j hj
   rw[hz1,Nat.mul_one]
   have hj0:j=0:=by simpa using hj
   subst hj0
   rw[Z2 hb,Array.getElem?_eq_getElem (by omega)];rfl
  have hr:=run_append_room_cells (P:=prog) z 28 28 3 i0 underlying28 hi g k L.length cap ⟨w.heap.size,0,none⟩ 1 1 [.int .i64 x] (by rw[hz1];rfl) hnews (by simp[Value.oneCell']) hroom hc (fun j hj=>hfz hb)
  rw[hz1,Nat.mul_one] at hr
  have hset:z.setCells g (k+L.length) [.int .i64 x]=z.setCell ⟨g,k+L.length,none⟩ (.int .i64 x):=rfl
  rw[hset] at hr
  have t:Zc (fun b=>b=g) z (z.setCell ⟨g,k+L.length,none⟩ (.int .i64 x)):=(Zc.refl (fun b=>b=g) z).set (p:=⟨g,k+L.length,none⟩) (.inl rfl) _
  refine⟨g,k,cap,_,hr,⟨⟨_,Go.Proofs.Ytbefaomgldckdaa.hset _ hb,by simpa using hs⟩,fun j u hu=>?_,by simpa using hroom,h.lo⟩,(Zc.nw g1).trans t⟩
  have hj:=(List.getElem?_eq_some_iff.1 hu).1
  rw[List.map_append] at hu hj
  by_cases q:j<L.length
  ·rw[List.getElem?_append_left (by simpa using q)] at hu
   have hold:=h1.rd j u hu
   have hne:(⟨g,k+L.length,none⟩:Addr)≠⟨g,k+j,none⟩:=fun e=>by simp at e;try omega
   rw[World.cell?_setCell_other _ _ _ _ hne]
   exact hold
  ·simp only[List.length_append,List.length_map,List.length_cons,List.length_nil] at hj
   obtain rfl:j=L.length:=by omega
   rw[List.getElem?_append_right (by simp)] at hu
   simp at hu
   subst hu
   have hsm2:=hc 0 (by simp)
   rw[hz1,Nat.mul_one,Nat.add_zero] at hsm2
   exact World.cell?_setCell_same' _ _ _ hsm2
 ·obtain⟨v',w2,hr,ho,hg⟩:=run_append_arg_grows (P:=prog) z 28 28 3 i0 _ 1 8 underlying28 hi hz0 hz1 hz2 rfl (by decide) ⟨g,k,none⟩ L.length cap (L.map (Value.int .i64)) (by simp)
   (fun j u hu=>by rw[Addr.add_lit];exact h1.rd j u hu) ⟨w.heap.size,0,none⟩ 1 1 [.int .i64 x] rfl hnews (by omega) (by unfold maxLen;omega) (by omega)
  rcases ho.2 with⟨_,q⟩ | ⟨g',cap',cur,rfl,hbg,hb,hnc,_,hcs,htake⟩
  ·simp at q
  ·refine⟨g',0,cap',w2,hr,⟨⟨cur,hb,by rw[hcs];omega⟩,fun j u hu=>?_,by simpa using hnc,Nat.le_trans hg0 (Nat.le_trans g1.sz hbg)⟩,(Zc.nw g1).trans ((Zc.refl _ z).grown hg (fun k e=>by cases e))⟩
   rw[Nat.zero_add]
   have hj:=(List.getElem?_eq_some_iff.1 hu).1
   simp only[List.length_map,List.length_append,List.length_cons,List.length_nil] at hj
   refine(World.ownsRow.cellAt ho j (by omega)).trans ?_
   rw[←hu,List.map_append];rfl
end
def Z49(w:World)(f:Value)(p:Int→Bool):Prop:=∃(g:Nat) (lb:Array Value),f=.func (.func g) #[] lb∧(∀args w,(callFunc g args).run prog w=.ok (.enter g args) w)∧∀(x:Int) (w1:World),Nw w w1→Calls prog g (#[.int .i64 x]++lb) w1 fun e w'=>e=.returned (.bool (p x))∧Nw w1 w'
def Yb(a:Int)(W:List (List Int))(x:Int):Option Int:=(W.find? fun r=>Zj a r==x).map fun r=>Zj a r.tail
theorem Y7{a:Int}{W:List (List Int)}{x:Int}:Yb a W x=none↔x∉W.map (Zj a):=by
 unfold Yb
 rw[Option.map_eq_none_iff,List.find?_eq_none]
 constructor
 ·intro h m
  obtain⟨r,hr,e⟩:=List.mem_map.1 m
  exact h r hr (by simpa using e)
 ·intro h r hr e
  exact h (List.mem_map.2 ⟨r,hr,by simpa using e⟩)
theorem Ug{a:Int}{W:List (List Int)}{y:Int}{r:List Int}(hy:y∉W.map (Zj a)):Zg (Yb a W) y (Zj a r)=Yb a (W++[y::r]):=by
 funext x
 unfold Zg
 by_cases q:x=y
 ·subst q
  rw[if_pos rfl]
  have:=Y7.2 hy
  unfold Yb at this ⊢
  rw[Option.map_eq_none_iff] at this
  rw[List.find?_append,this]
  have e:((x::r)::[]).find? (fun r=>Zj a r==x)=some (x::r):=by simp[Zj]
  rw[e];rfl
 ·rw[if_neg q]
  unfold Yb
  rw[List.find?_append]
  have:((y::r)::[]).find? (fun r=>Zj a r==x)=none:=by
   rw[List.find?_eq_none]
   intro z hz
   rw[List.mem_singleton.1 hz]
   simp[Zj];exact fun e=>q e.symm
  rw[this]
  simp
def SrP(E:List (Int × Int))(a:Int)(p:Int→Bool)(W:List (List Int)):Prop :=
 (∃h,W.length<h∧BI E a W h 0∧∀r∈W,p (Zj a r)=false) ∨
 (∃W1 y r h i,W=W1++[y::r]∧BI E a W1 h i∧([]::W1)[h]?=some r∧E[i]?=some (Zj a r,y)∧y∉W1.map (Zj a)∧p y=true∧∀r∈W1,p (Zj a r)=false)
structure SeI(W0 w:World)(mb g k cap:Nat)(a:Int)(W:List (List Int))(L:List Int):Prop where
 nw:Nw W0 w
 mp:Zb w mb (Yb a W) W.length
 ln:LnW w W0.heap.size g k cap L
 mW:W0.heap.size≤mb
section
variable {W0 w w':World} {mb g k cap:Nat} {a:Int} {W:List (List Int)} {L:List Int}
theorem SeI.mg(h:SeI W0 w mb g k cap a W L):mb≠g:=fun e=>by
 obtain⟨es,c,q⟩:=h.mp.obj
 obtain⟨cur,q2,_⟩:=h.ln.blk
 rw[e,q2] at q;cases q
def Yy(a:Int)(W:List (List Int))(h:Nat):List Int:=(([]::W).drop h).map (Zj a)
theorem V7(a:Int)(W:List (List Int))(h:Nat):(Yy a W h).length=W.length+1-h:=by simp[Yy]
theorem Z3s{a:Int}{W:List (List Int)}{h:Nat}{r:List Int}(hr:([]::W)[h]?=some r):Yy a W h=Zj a r::Yy a W (h+1):=by
 obtain⟨hl,e⟩:=List.getElem?_eq_some_iff.1 hr
 unfold Yy
 rw[←List.getElem_cons_drop hl,e];rfl
theorem Z0b{a:Int}{W:List (List Int)}{h:Nat}(x:List Int)(hh:h≤W.length+1):Yy a (W++[x]) h=Yy a W h++[Zj a x]:=by
 unfold Yy
 rw[←List.cons_append,List.drop_append_of_le_length (by simpa using hh)]
 simp
end
section
variable {W0:World} {ev:Value} {E:List (Int × Int)}
theorem Z2p(hed:Zl W0 ev E)(hs:Zh E)(hl:E.length≤1000)(hF:∀e∈E,Z6 e.1∧Z6 e.2)(a:Int)(ha:Z6 a){f:Value}{p:Int→Bool}(hf:Z49 W0 f p) :
  Calls prog 22 #[ev,.int .i64 a,f] W0 fun e w'=>∃mb W,e=.returned (.map (some mb))∧Nw W0 w'∧W0.heap.size≤mb∧Zb w' mb (Yb a W) W.length∧SrP E a p W:=by
 have HS:=hD0 (fun(v:Int) (x:World) (g:Nw W0 x)=>Z0g v ev E x (Nat.le_trans hl (by decide)) hs (hed.nw g))
 have HA:=hD0 (aI0 hs (aI0 hl hF))
 obtain⟨ea,ec,rfl,hed'⟩:=hed
 have HD:=hD0 hed'
 obtain⟨fg,lb,rfl,eg,hfc⟩:=hf
 have HFc:=hD0 hfc
 have hmm:=@run_makeMap prog
 obtain⟨n,hn⟩:∃n,E.length=n:=⟨_,rfl⟩
 have HN:=hD0 hn
 rw[hn] at hl HS ⊢
 clear hs hF hed' hfc hn ha
 go_enter func22,ntmps22
 go_wp2_with fail
 go_step3
 go_wp2_with fail
 have s1:(W0.alloc (.map #[] 0)).heap.size=W0.heap.size+1:=by simp
 have ha2:=Z5 (W0.alloc (.map #[] 0)) (.cells #[.int .i64 a] 3)
 obtain⟨w3,hw3⟩:∃x,(W0.alloc (.map #[] 0)).alloc (.cells #[.int .i64 a] 3)=x:=⟨_,rfl⟩
 rw[s1,hw3] at ha2
 have HI0:Hid (SeI W0 w3 W0.heap.size (W0.heap.size+1) 0 1 a [] [a]):=hD0 ⟨by rw[←hw3];exact((Nw.refl W0).alloc _).alloc _,by
   rw[←hw3]
   exact(Zb.made W0).nw ((Nw.refl _).alloc _),⟨⟨_,ha2,by simp⟩,fun j u hu=>by
   rw[Z2 ha2,Nat.zero_add]
   simpa using hu,Nat.le_refl _,Nat.le_succ _⟩,Nat.le_refl _⟩
 rw[hw3]
 obtain⟨mb,hmb⟩:∃b,W0.heap.size=b:=⟨_,rfl⟩
 have HMB:=hD0 (Nat.le_of_eq hmb)
 rw[hmb] at HI0 ⊢
 clear s1 ha2 hw3 hmm hmb
 go_step3
 go_wp2_with fail
 go_loopg [8] (E.length+1) (fun gk v8 wr=>∃(g k cap h:Nat) (W:List (List Int)) (L:List Int),v8=.slice (some ⟨g,k,none⟩) L.length cap∧Hid (SeI W0 wr mb g k cap a W L∧BI E a W h 0∧Yy a W h=L∧h≤W.length+1∧gk=E.length+1-h∧∀r∈W,p (Zj a r)=false))
 case atStart=>exact⟨mb+1,0,1,0,[],[a],rfl,HI0.out,BI.start,rfl,Nat.zero_le _,rfl,by simp⟩
 case round =>
  clear HI0
  obtain⟨g,k,cap,h,W,L,rfl,HI⟩:=hrel
  cases L with
  | nil =>
   have HF:=hD0 (show SrP E a p W from .inl ⟨h,by
    have:=HI.out.2.2.1
    have e:=V7 a W h
    rw[this] at e
    simp at e
    omega,HI.out.2.1,HI.out.2.2.2.2.2⟩)
   have HI1:=hD0 HI.out.1
   clear HI
   go_wp2_with fail
   rw[Exit.noGoto_ret]
   go_ret
   exact⟨mb,W,rfl,HI1.out.nw,HI1.out.mW,HI1.out.mp,HF.out⟩
  | cons t L =>
   obtain⟨r,hr⟩:∃r,([]::W)[h]?=some r:=by
    have e:=V7 a W h
    rw[HI.out.2.2.1] at e
    simp only[List.length_cons] at e
    have hl':h<([]::W).length:=by simp only[List.length_cons];omega
    exact⟨_,List.getElem?_eq_getElem hl'⟩
   have hcons:=Z3s (a:=a) hr
   rw[HI.out.2.2.1] at hcons
   injection hcons with ht hL
   obtain⟨ct,hln⟩:=HI.out.1.ln.pop
   have hgl:=HI.out.1.ln.lt
   have hcl:L.length+1≤cap:=by have:=HI.out.1.ln.le;simpa using this
   have hb:=(HI.out.2.1.to hr (Vf E t) (Nat.zero_le _) (by rw[←ht];exact Nat.le_refl _))
   have HB:=hD0 (aI0 hb (aI0 hr (aI0 ht (aI0 hL HI.out.2.2.2.2))))
   have HG:=hD0 (show ∀wz,Nw wr wz→SeI W0 wz mb g (if cap=1 then k else k+1) (cap-1) a W L from fun wz q=>⟨HI.out.1.nw.trans q,HI.out.1.mp.nw q,hln.nw q,HI.out.1.mW⟩)
   have HS2:=hD0 (HS.out t wr HI.out.1.nw)
   obtain⟨len1,hlen1⟩:∃m,L.length+1=m:=⟨_,rfl⟩
   have hl0:(0:Int)<(len1:Int):=by omega
   have hl00:0<len1:=by omega
   have hl1:(1:Int)≤(len1:Int):=by omega
   have hl11:1≤len1:=by omega
   have hl2:((len1:Int)-1).toNat=L.length:=by omega
   have hl22:len1-1=L.length:=by omega
   rw[hlen1] at hcl
   rw[List.length_cons,hlen1]
   clear hr ht hL hln hb HI hlen1 HS
   by_cases hc1:cap=1
   ·subst hc1
    simp only[if_true,Nat.sub_self] at HG
    go_wp2_with fail
    refine HS2.out.mono ?_
    rintro e w5 ⟨rfl,g5⟩
    have HI5:=hD0 (HG.out w5 g5)
    clear g5 HS2 HG ct hgl
    go_wp2_with fail
    obtain⟨i0,hi0⟩:∃m,Vf E t=m:=⟨_,rfl⟩
    have hi0n:i0≤n:=by rw[←hi0,←HN.out];exact Z11 E t
    rw[hi0] at HB
    rw[hi0]
    have HST:=hD0 hi0
    clear hi0
    go_loopw [8,10] (fun v8 v10 wr=>∃(g k cap i:Nat) (W:List (List Int)) (L:List Int),v8=.slice (some ⟨g,k,none⟩) L.length cap∧v10=.int .i64 i∧i≤n∧Hid (SeI W0 wr mb g k cap a W L∧BI E a W h i∧Yy a W (h+1)=L∧([]::W)[h]?=some r∧i0≤i∧∀r∈W,p (Zj a r)=false)) (fun _ v10 _=>n-(intOf v10).toNat)
    case atStart=>exact⟨g,k,0,i0,W,L,rfl,rfl,hi0n,hD0 ⟨HI5.out,HB.out.1,HB.out.2.2.2.1.symm,HB.out.2.1,Nat.le_refl _,HB.out.2.2.2.2.2⟩⟩
    case round =>
     clear HI5
     generalize wr=w6 at *
     obtain⟨g6,k6,c6,i,W6,L6,rfl,rfl,hin,HI⟩:=hrel
     have HT:=hD0 (aI0 HB.out.2.2.1 HB.out.2.2.2.2.1)
     by_cases hlt:i<n
     ·have hiE:i<E.length:=by rw[HN.out];exact hlt
      obtain⟨e,he⟩:∃e,E[i]=e:=⟨_,rfl⟩
      rcases HD.out with⟨q,_⟩ | ⟨eb,eo,rfl,hrc⟩
      ·rw[q] at hiE;simp at hiE
      ·obtain⟨x0,x1⟩:=(hrc.nw HI.out.1.nw).eg hiE
       have hebl:=(hrc.nw HI.out.1.nw).lt
       rw[he] at x0 x1
       have he':E[i]?=some e:=by rw[List.getElem?_eq_getElem hiE,he]
       obtain⟨ex,ey⟩:=e
       simp only at x0 x1
       obtain⟨dl1,dl2⟩:=Z69 hlt
       have Yh:=Y6 hlt
       have hw:=Ya i (i+1) (Nat.le_trans (Nat.le_of_lt hlt) (Nat.le_trans hl (by decide))) rfl
       obtain⟨i1,hi1⟩:∃m,i+1=m:=⟨_,rfl⟩
       have HI1:=hD0 hi1
       rw[hi1] at hw
       have HE:=hD0 he'
       clear he he' hiE hi1
       by_cases hx:ex=t
       ·subst hx
        have hy:=(HA.out.2.2 _ (List.mem_of_getElem? HE.out)).2
        have hr0:Zj a r=ex:=HT.out.1.symm
        cases hpy:Yb a W6 ey with
        | some z =>
         have hlk:=HI.out.1.mp.look_yes hy hpy
         have HI2:=hD0 (show SeI W0 w6 mb g6 k6 c6 a W6 L6∧BI E a W6 h i1∧Yy a W6 (h+1)=L6∧([]::W6)[h]?=some r∧i0≤i1∧∀r∈W6,p (Zj a r)=false from⟨HI.out.1,by rw[←HI1.out];exact HI.out.2.1.skip HA.out.1 HI.out.2.2.2.1 (by rw[hr0];exact HE.out) (Classical.not_not.1 (fun q=>by rw[Y7.2 q] at hpy;cases hpy)),HI.out.2.2.1,HI.out.2.2.2.1,by rw[←HI1.out];exact Nat.le_succ_of_le HI.out.2.2.2.2.1,HI.out.2.2.2.2.2⟩)
         clear hy hr0 hpy HI
         go_wp2_with fail
         go_roundw
         case rel=>exact⟨g6,k6,c6,i1,W6,L6,rfl,rfl,by rw[←HI1.out];exact hlt,HI2⟩
         case measure=>rw[←HI1.out];exact Ye hlt
        | none =>
         have hno:=Y7.1 hpy
         have hlk:=HI.out.1.mp.look_no hy hpy
         obtain⟨w7,hr7,hm7,hg7⟩:=HI.out.1.mp.put (by have:=HI.out.2.1.size;have:=HA.out.2.1;omega) hy ex
         have ht7:=Z12 hg7
         have hnw7:Nw W0 w7:=Ze HI.out.1.nw ht7 (fun b e=>by subst e;exact HI.out.1.mW)
         rw[←hr0,Ug hno] at hm7
         have hln7:=HI.out.1.ln.tch ht7 (fun e=>HI.out.1.mg e.symm)
         have HF7:=hD0 (HFc.out ey w7 hnw7)
         have HPU:=hD0 (HI.out.2.1.push HA.out.1 HI.out.2.2.2.1 (by rw[hr0];exact HE.out) hno)
         have HR7:=hD0 hr7
         have HX7:=hD0 (aI0 hnw7 (aI0 hm7 (aI0 hln7 hno)))
         have hr0H:=hD0 hr0
         clear hr7 hm7 hg7 ht7 hnw7 hln7 hno hy hr0 hpy
         cases hp:p ey with
         | true =>
          have HPY:=hD0 hp
          rw[hp] at HF7
          clear hp
          go_wp2_with (at_mapUpdate;refine Zp rfl (.tmp 55) (.tmp 56) (.tmp 57) 50 rfl _ _ _ _ rfl rfl rfl HR7.out ?_)
          go_at_fn fg
          refine HF7.out.mono ?_
          rintro e w8 ⟨rfl,g8⟩
          have HZ:=hD0 (aI0 (HX7.out.1.trans g8) (HX7.out.2.1.nw g8))
          clear g8 HF7
          go_wp2_with fail
          try rw[Exit.noGoto_ret]
          go_ret
          exact⟨mb,W6++[ey::r],rfl,HZ.out.1,HI.out.1.mW,by rw[List.length_append,List.length_singleton];exact HZ.out.2,.inr ⟨W6,ey,r,h,i,rfl,HI.out.2.1,HI.out.2.2.2.1,by rw[hr0H.out];exact HE.out,HX7.out.2.2.2,HPY.out,HI.out.2.2.2.2.2⟩⟩
         | false =>
          have HPY:=hD0 hp
          rw[hp] at HF7
          clear hp
          go_wp2_with (at_mapUpdate;refine Zp rfl (.tmp 55) (.tmp 56) (.tmp 57) 50 rfl _ _ _ _ rfl rfl rfl HR7.out ?_)
          go_at_fn fg
          refine HF7.out.mono ?_
          rintro e w8 ⟨rfl,g8⟩
          have hln8:=HX7.out.2.2.1.nw g8
          obtain⟨g9,k9,c9,w9,hr9,hln9,ht9⟩:=hln8.push ey (by
           have e:=V7 a W6 (h+1)
           rw[HI.out.2.2.1] at e
           have:=HI.out.2.1.size
           have:=HA.out.2.1
           omega) (HX7.out.1.trans g8).sz
          have hA9:SeI W0 w9 mb g9 k9 c9 a (W6++[ey::r]) (L6++[ey]):=by
           refine⟨Ze (HX7.out.1.trans g8) ht9 (fun b e=>by subst e;exact hln8.lo),?_,hln9,HI.out.1.mW⟩
           rw[List.length_append,List.length_singleton]
           exact(HX7.out.2.1.nw g8).tch ht9 (fun e=>HI.out.1.mg e)
          have hB9:Yy a (W6++[ey::r]) (h+1)=L6++[ey]:=by
           have h1:=(List.getElem?_eq_some_iff.1 HI.out.2.2.2.1).1
           simp only[List.length_cons] at h1
           rw[Z0b _ (by omega),HI.out.2.2.1];rfl
          have hC9:∀r'∈W6++[ey::r],p (Zj a r')=false:=by
           intro q hq
           rcases List.mem_append.1 hq with hq | hq
           ·exact HI.out.2.2.2.2.2 q hq
           ·rw[List.mem_singleton.1 hq];exact HPY.out
          have hD9:BI E a (W6++[ey::r]) h i1:=by rw[←HI1.out];exact HPU.out
          have hE9:i0≤i1:=by rw[←HI1.out];exact Nat.le_succ_of_le HI.out.2.2.2.2.1
          have HI9:=hD0 (aI0 hA9 (aI0 hD9 (aI0 hB9 (aI0 (Z6o (x:=ey::r) HI.out.2.2.2.1) (aI0 hE9 hC9)))))
          clear hA9 hB9 hC9 hD9 hE9
          obtain⟨l9,hl9⟩:∃m,L6.length+1=m:=⟨_,rfl⟩
          have HL9:=hD0 hl9
          rw[hl9] at hr9
          have HR9:=hD0 hr9
          clear g8 HF7 hln8 hr9 hln9 ht9 hl9 HX7 HPU
          go_wp2_with (at_builtin;refine Zr (by rfl) (.tmp 61) (.tmp 63) 28 rfl _ _ _ _ rfl rfl HR9.out ?_)
          go_roundw
          case rel=>exact⟨g9,k9,c9,i1,W6++[ey::r],L6++[ey],by rw[←HL9.out,List.length_append,List.length_singleton],rfl,by rw[←HI1.out];exact hlt,HI9⟩
          case measure=>rw[←HI1.out];exact Ye hlt
       ·have hx1:(ex==t)=false:=by simpa using hx
        have HNX:=hD0 (HI.out.2.1.next HA.out.1 HI.out.2.2.2.1 (by rw[←HT.out.1,HST.out];exact HI.out.2.2.2.2.1) (fun y q=>by
         rw[HE.out] at q
         injection q with q
         injection q with q _
         exact hx (by rw[q];exact HT.out.1.symm)) 0 (fun _ _=>Nat.zero_le _))
        go_wp2_with fail
        go_roundg (E.length+1-(h+1))
        case measure =>
         rw[HT.out.2]
         have:=(List.getElem?_eq_some_iff.1 HI.out.2.2.2.1).1
         have h2:=HI.out.2.1.size
         simp at this
         omega
        case rel=>exact⟨g6,k6,c6,h+1,W6,L6,rfl,HI.out.1,HNX.out,HI.out.2.2.1,by
         have:=(List.getElem?_eq_some_iff.1 HI.out.2.2.2.1).1
         simp at this
         omega,rfl,HI.out.2.2.2.2.2⟩
     ·obtain rfl:i=n:=Nat.le_antisymm hin (Nat.le_of_not_lt hlt)
      obtain⟨dl1,dl2⟩:=Z4o (Nat.lt_irrefl i)
      have HNX:=hD0 (HI.out.2.1.next HA.out.1 HI.out.2.2.2.1 (by rw[←HT.out.1,HST.out];exact HI.out.2.2.2.2.1) (fun y q=>by
       have:=(List.getElem?_eq_some_iff.1 q).1
       have:=HN.out
       omega) 0 (fun _ _=>Nat.zero_le _))
      go_wp2_with fail
      go_roundg (E.length+1-(h+1))
      case measure =>
       rw[HT.out.2]
       have:=(List.getElem?_eq_some_iff.1 HI.out.2.2.2.1).1
       have h2:=HI.out.2.1.size
       simp at this
       omega
      case rel=>exact⟨g6,k6,c6,h+1,W6,L6,rfl,HI.out.1,HNX.out,HI.out.2.2.1,by
       have:=(List.getElem?_eq_some_iff.1 HI.out.2.2.2.1).1
       simp at this
       omega,rfl,HI.out.2.2.2.2.2⟩
   ·obtain⟨k1,hk1⟩:∃m,k+1=m:=⟨_,rfl⟩
    obtain⟨c1,hcc⟩:∃m,cap-1=m:=⟨_,rfl⟩
    rw[if_neg hc1,hk1,hcc] at HG
    go_wp2_with fail
    refine HS2.out.mono ?_
    rintro e w5 ⟨rfl,g5⟩
    have HI5:=hD0 (HG.out w5 g5)
    clear g5 HS2 HG ct hgl
    go_wp2_with fail
    obtain⟨i0,hi0⟩:∃m,Vf E t=m:=⟨_,rfl⟩
    have hi0n:i0≤n:=by rw[←hi0,←HN.out];exact Z11 E t
    rw[hi0] at HB
    rw[hi0]
    have HST:=hD0 hi0
    clear hi0
    go_loopw [8,10] (fun v8 v10 wr=>∃(g k cap i:Nat) (W:List (List Int)) (L:List Int),v8=.slice (some ⟨g,k,none⟩) L.length cap∧v10=.int .i64 i∧i≤n∧Hid (SeI W0 wr mb g k cap a W L∧BI E a W h i∧Yy a W (h+1)=L∧([]::W)[h]?=some r∧i0≤i∧∀r∈W,p (Zj a r)=false)) (fun _ v10 _=>n-(intOf v10).toNat)
    case atStart=>exact⟨g,k1,c1,i0,W,L,rfl,rfl,hi0n,hD0 ⟨HI5.out,HB.out.1,HB.out.2.2.2.1.symm,HB.out.2.1,Nat.le_refl _,HB.out.2.2.2.2.2⟩⟩
    case round =>
     clear HI5
     generalize wr=w6 at *
     obtain⟨g6,k6,c6,i,W6,L6,rfl,rfl,hin,HI⟩:=hrel
     have HT:=hD0 (aI0 HB.out.2.2.1 HB.out.2.2.2.2.1)
     by_cases hlt:i<n
     ·have hiE:i<E.length:=by rw[HN.out];exact hlt
      obtain⟨e,he⟩:∃e,E[i]=e:=⟨_,rfl⟩
      rcases HD.out with⟨q,_⟩ | ⟨eb,eo,rfl,hrc⟩
      ·rw[q] at hiE;simp at hiE
      ·obtain⟨x0,x1⟩:=(hrc.nw HI.out.1.nw).eg hiE
       have hebl:=(hrc.nw HI.out.1.nw).lt
       rw[he] at x0 x1
       have he':E[i]?=some e:=by rw[List.getElem?_eq_getElem hiE,he]
       obtain⟨ex,ey⟩:=e
       simp only at x0 x1
       obtain⟨dl1,dl2⟩:=Z69 hlt
       have Yh:=Y6 hlt
       have hw:=Ya i (i+1) (Nat.le_trans (Nat.le_of_lt hlt) (Nat.le_trans hl (by decide))) rfl
       obtain⟨i1,hi1⟩:∃m,i+1=m:=⟨_,rfl⟩
       have HI1:=hD0 hi1
       rw[hi1] at hw
       have HE:=hD0 he'
       clear he he' hiE hi1
       by_cases hx:ex=t
       ·subst hx
        have hy:=(HA.out.2.2 _ (List.mem_of_getElem? HE.out)).2
        have hr0:Zj a r=ex:=HT.out.1.symm
        cases hpy:Yb a W6 ey with
        | some z =>
         have hlk:=HI.out.1.mp.look_yes hy hpy
         have HI2:=hD0 (show SeI W0 w6 mb g6 k6 c6 a W6 L6∧BI E a W6 h i1∧Yy a W6 (h+1)=L6∧([]::W6)[h]?=some r∧i0≤i1∧∀r∈W6,p (Zj a r)=false from⟨HI.out.1,by rw[←HI1.out];exact HI.out.2.1.skip HA.out.1 HI.out.2.2.2.1 (by rw[hr0];exact HE.out) (Classical.not_not.1 (fun q=>by rw[Y7.2 q] at hpy;cases hpy)),HI.out.2.2.1,HI.out.2.2.2.1,by rw[←HI1.out];exact Nat.le_succ_of_le HI.out.2.2.2.2.1,HI.out.2.2.2.2.2⟩)
         clear hy hr0 hpy HI
         go_wp2_with fail
         go_roundw
         case rel=>exact⟨g6,k6,c6,i1,W6,L6,rfl,rfl,by rw[←HI1.out];exact hlt,HI2⟩
         case measure=>rw[←HI1.out];exact Ye hlt
        | none =>
         have hno:=Y7.1 hpy
         have hlk:=HI.out.1.mp.look_no hy hpy
         obtain⟨w7,hr7,hm7,hg7⟩:=HI.out.1.mp.put (by have:=HI.out.2.1.size;have:=HA.out.2.1;omega) hy ex
         have ht7:=Z12 hg7
         have hnw7:Nw W0 w7:=Ze HI.out.1.nw ht7 (fun b e=>by subst e;exact HI.out.1.mW)
         rw[←hr0,Ug hno] at hm7
         have hln7:=HI.out.1.ln.tch ht7 (fun e=>HI.out.1.mg e.symm)
         have HF7:=hD0 (HFc.out ey w7 hnw7)
         have HPU:=hD0 (HI.out.2.1.push HA.out.1 HI.out.2.2.2.1 (by rw[hr0];exact HE.out) hno)
         have HR7:=hD0 hr7
         have HX7:=hD0 (aI0 hnw7 (aI0 hm7 (aI0 hln7 hno)))
         have hr0H:=hD0 hr0
         clear hr7 hm7 hg7 ht7 hnw7 hln7 hno hy hr0 hpy
         cases hp:p ey with
         | true =>
          have HPY:=hD0 hp
          rw[hp] at HF7
          clear hp
          go_wp2_with (at_mapUpdate;refine Zp rfl (.tmp 55) (.tmp 56) (.tmp 57) 50 rfl _ _ _ _ rfl rfl rfl HR7.out ?_)
          go_at_fn fg
          refine HF7.out.mono ?_
          rintro e w8 ⟨rfl,g8⟩
          have HZ:=hD0 (aI0 (HX7.out.1.trans g8) (HX7.out.2.1.nw g8))
          clear g8 HF7
          go_wp2_with fail
          try rw[Exit.noGoto_ret]
          go_ret
          exact⟨mb,W6++[ey::r],rfl,HZ.out.1,HI.out.1.mW,by rw[List.length_append,List.length_singleton];exact HZ.out.2,.inr ⟨W6,ey,r,h,i,rfl,HI.out.2.1,HI.out.2.2.2.1,by rw[hr0H.out];exact HE.out,HX7.out.2.2.2,HPY.out,HI.out.2.2.2.2.2⟩⟩
         | false =>
          have HPY:=hD0 hp
          rw[hp] at HF7
          clear hp
          go_wp2_with (at_mapUpdate;refine Zp rfl (.tmp 55) (.tmp 56) (.tmp 57) 50 rfl _ _ _ _ rfl rfl rfl HR7.out ?_)
          go_at_fn fg
          refine HF7.out.mono ?_
          rintro e w8 ⟨rfl,g8⟩
          have hln8:=HX7.out.2.2.1.nw g8
          obtain⟨g9,k9,c9,w9,hr9,hln9,ht9⟩:=hln8.push ey (by
           have e:=V7 a W6 (h+1)
           rw[HI.out.2.2.1] at e
           have:=HI.out.2.1.size
           have:=HA.out.2.1
           omega) (HX7.out.1.trans g8).sz
          have hA9:SeI W0 w9 mb g9 k9 c9 a (W6++[ey::r]) (L6++[ey]):=by
           refine⟨Ze (HX7.out.1.trans g8) ht9 (fun b e=>by subst e;exact hln8.lo),?_,hln9,HI.out.1.mW⟩
           rw[List.length_append,List.length_singleton]
           exact(HX7.out.2.1.nw g8).tch ht9 (fun e=>HI.out.1.mg e)
          have hB9:Yy a (W6++[ey::r]) (h+1)=L6++[ey]:=by
           have h1:=(List.getElem?_eq_some_iff.1 HI.out.2.2.2.1).1
           simp only[List.length_cons] at h1
           rw[Z0b _ (by omega),HI.out.2.2.1];rfl
          have hC9:∀r'∈W6++[ey::r],p (Zj a r')=false:=by
           intro q hq
           rcases List.mem_append.1 hq with hq | hq
           ·exact HI.out.2.2.2.2.2 q hq
           ·rw[List.mem_singleton.1 hq];exact HPY.out
          have hD9:BI E a (W6++[ey::r]) h i1:=by rw[←HI1.out];exact HPU.out
          have hE9:i0≤i1:=by rw[←HI1.out];exact Nat.le_succ_of_le HI.out.2.2.2.2.1
          have HI9:=hD0 (aI0 hA9 (aI0 hD9 (aI0 hB9 (aI0 (Z6o (x:=ey::r) HI.out.2.2.2.1) (aI0 hE9 hC9)))))
          clear hA9 hB9 hC9 hD9 hE9
          obtain⟨l9,hl9⟩:∃m,L6.length+1=m:=⟨_,rfl⟩
          have HL9:=hD0 hl9
          rw[hl9] at hr9
          have HR9:=hD0 hr9
          clear g8 HF7 hln8 hr9 hln9 ht9 hl9 HX7 HPU
          go_wp2_with (at_builtin;refine Zr (by rfl) (.tmp 61) (.tmp 63) 28 rfl _ _ _ _ rfl rfl HR9.out ?_)
          go_roundw
          case rel=>exact⟨g9,k9,c9,i1,W6++[ey::r],L6++[ey],by rw[←HL9.out,List.length_append,List.length_singleton],rfl,by rw[←HI1.out];exact hlt,HI9⟩
          case measure=>rw[←HI1.out];exact Ye hlt
       ·have hx1:(ex==t)=false:=by simpa using hx
        have HNX:=hD0 (HI.out.2.1.next HA.out.1 HI.out.2.2.2.1 (by rw[←HT.out.1,HST.out];exact HI.out.2.2.2.2.1) (fun y q=>by
         rw[HE.out] at q
         injection q with q
         injection q with q _
         exact hx (by rw[q];exact HT.out.1.symm)) 0 (fun _ _=>Nat.zero_le _))
        go_wp2_with fail
        go_roundg (E.length+1-(h+1))
        case measure =>
         rw[HT.out.2]
         have:=(List.getElem?_eq_some_iff.1 HI.out.2.2.2.1).1
         have h2:=HI.out.2.1.size
         simp at this
         omega
        case rel=>exact⟨g6,k6,c6,h+1,W6,L6,rfl,HI.out.1,HNX.out,HI.out.2.2.1,by
         have:=(List.getElem?_eq_some_iff.1 HI.out.2.2.2.1).1
         simp at this
         omega,rfl,HI.out.2.2.2.2.2⟩
     ·obtain rfl:i=n:=Nat.le_antisymm hin (Nat.le_of_not_lt hlt)
      obtain⟨dl1,dl2⟩:=Z4o (Nat.lt_irrefl i)
      have HNX:=hD0 (HI.out.2.1.next HA.out.1 HI.out.2.2.2.1 (by rw[←HT.out.1,HST.out];exact HI.out.2.2.2.2.1) (fun y q=>by
       have:=(List.getElem?_eq_some_iff.1 q).1
       have:=HN.out
       omega) 0 (fun _ _=>Nat.zero_le _))
      go_wp2_with fail
      go_roundg (E.length+1-(h+1))
      case measure =>
       rw[HT.out.2]
       have:=(List.getElem?_eq_some_iff.1 HI.out.2.2.2.1).1
       have h2:=HI.out.2.1.size
       simp at this
       omega
      case rel=>exact⟨g6,k6,c6,h+1,W6,L6,rfl,HI.out.1,HNX.out,HI.out.2.2.1,by
       have:=(List.getElem?_eq_some_iff.1 HI.out.2.2.2.1).1
       simp at this
       omega,rfl,HI.out.2.2.2.2.2⟩
end
section
open Go.RowKit Go.Sort
theorem Z6p{w:World}{g n cap:Nat}{x:Int}{r:List Int}(h:IS w (.slice (some ⟨g,0,none⟩) n cap) (x::r))(hl:r.length≤1000) :
  Calls prog 37 #[.slice (if cap=1 then some ⟨g,0,none⟩else some ⟨g,1,none⟩) r.length (cap-1)] w fun e w'=>e=.returned (.tuple #[])∧IS w' (.slice (some ⟨g,0,none⟩) n cap) (x::r.reverse)∧Zc (fun k=>k=g) w w':=by
 have hn:=h.nlen
 subst hn
 cases r with
 | nil =>
  refine(Try.slices_Reverse_int_empty (if cap=1 then some ⟨g,0,none⟩else some ⟨g,1,none⟩) (cap-1) w).mono ?_
  rintro e w' ⟨rfl,rfl⟩
  exact⟨rfl,h,Zc.refl _ _⟩
 | cons y r =>
  have hcap:(x::y::r).length≤cap:=by
   rcases h.2 with⟨q,_⟩ | ⟨g',cap',cur,q,_,_,q4,_⟩
   ·simp at q
   ·simp only[Value.slice.injEq] at q
    omega
  have hc1:¬cap=1:=by simp at hcap;omega
  rw[if_neg hc1]
  have hH:Holds (Value.int .i64) w g 1 (y::r).toArray:=by
   intro j hj
   have hj':j<(y::r).length:=by simpa using hj
   have hc:=h.cell (j+1) (by simp at hj' ⊢;omega)
   refine⟨?_,h.frozen (1+j)⟩
   rw[show 1+j=j+1 by omega,hc]
   have e1:(x::y::r).getD (j+1) 0=(y::r)[j]:=by
    rw[List.getD_eq_getElem?_getD,List.getElem?_cons_succ,List.getElem?_eq_getElem hj'];rfl
   have e2:(y::r).toArray[j]! = (y::r)[j]:=by
    rw[getElem!_pos (y::r).toArray j hj];simp
   rw[e1,e2]
  refine(Try.slices_Reverse_int g 1 (cap-1) (y::r) w hH (by omega)).mono ?_
  rintro e w' ⟨rfl,m,rfl⟩
  rcases h.2 with⟨q,_⟩ | ⟨g',cap',cur,q,q0,hb,q4,q5,q6,q7⟩
  ·simp at q
  ·simp only[Value.slice.injEq,Option.some.injEq,Addr.mk.injEq,and_true,true_and] at q
   obtain⟨rfl,rfl⟩:=q
   have hb':(putRow (Value.int .i64) (Sort.ahead w m) g 1 (y::r).reverse.toArray).heap[g]?=some (.cells (putCells (Value.int .i64) 1 (y::r).reverse.toArray cur) 3 (0,0)):=by
    simp[putRow,mapBlock,Sort.ahead,Array.getElem?_modify,hb,onCells]
   have hlen:(x::(y::r).reverse).length=(x::y::r).length:=by simp
   refine⟨rfl,?_,⟨rfl,rfl,rfl,by simp[putRow,mapBlock,Sort.ahead],fun k hk hne=>?_⟩⟩
   ·unfold IS
    rw[hlen]
    refine⟨by simp,.inr ⟨g,cap,_,rfl,q0,hb',q4,q5,by simp[putCells,q6],?_⟩⟩
    apply List.ext_getElem?
    intro j
    by_cases hj:j<(x::y::r).length
    ·have hj1:j<(x::y::r).length*1:=by omega
     rw[List.getElem?_take_of_lt hj1,Array.getElem?_toList]
     have hjc:j<cur.size:=by omega
     rw[show(putCells (Value.int .i64) 1 (y::r).reverse.toArray cur)[j]?=some (if 1≤j∧j<1+(y::r).reverse.toArray.size then Value.int .i64 ((y::r).reverse.toArray[j-1]!)else cur[j]) by
      rw[Array.getElem?_eq_getElem (by simpa [putCells] using hjc)]
      simp[putCells]]
     cases j with
     | zero =>
      rw[if_neg (by omega)]
      have:=congrArg (fun l=>l[0]?) q7
      rw[List.getElem?_take_of_lt (by simp),Array.getElem?_toList,Array.getElem?_eq_getElem hjc] at this
      simpa using this
     | succ j =>
      have hj2:j<(y::r).reverse.length:=by simpa using hj
      rw[if_pos ⟨by omega,by simp at hj2 ⊢;omega⟩]
      simp only[List.map_cons,List.getElem?_cons_succ,Nat.add_sub_cancel]
      rw[List.getElem?_map,List.getElem?_eq_getElem hj2]
      have e2:(y::r).reverse.toArray[j]! = (y::r).reverse[j]:=by
       rw[getElem!_pos (y::r).reverse.toArray j (by simpa using hj2)];simp
      rw[e2];rfl
    ·rw[List.getElem?_take_eq_none (by omega),List.getElem?_eq_none (by simp at hj ⊢;omega)]
   ·have:g≠k:=fun e=>hne e.symm
    simp[putRow,mapBlock,Sort.ahead,Array.getElem?_modify,this]
theorem Z1x{a:Int}{W:List (List Int)}(hn:(W.map (Zj a)).Nodup){r:List Int}(hr:r∈W):Yb a W (Zj a r)=some (Zj a r.tail):=by
 unfold Yb
 have:W.find? (fun q=>Zj a q==Zj a r)=some r:=by
  induction W with
  | nil=>cases hr
  | cons q W ih =>
   rw[List.map_cons,List.nodup_cons] at hn
   rw[List.find?_cons]
   by_cases e:Zj a q=Zj a r
   ·have:(Zj a q==Zj a r)=true:=by simpa using e
    rw[this]
    rcases List.mem_cons.1 hr with k | k
    ·rw[k]
    ·exact absurd (e▸List.mem_map.2 ⟨r,k,rfl⟩) hn.1
   ·have:(Zj a q==Zj a r)=false:=by simpa using e
    rw[this]
    rcases List.mem_cons.1 hr with k | k
    ·exact absurd (by rw[k]) e
    ·exact ih hn.2 k
 rw[this];rfl
def Z8o:Value→Nat
 | .slice _ n _=>n
 | _=>0
structure RoI(W0:World)(mb:Nat)(f:Int→Option Int)(N:Nat)(a:Int)(r:List Int)(g cap j:Nat)(w:World):Prop where
 is:IS w (.slice (some ⟨g,0,none⟩) (j+1) cap) (a::r.take j)
 nw:Nw W0 w
 mp:Zb w mb f N
 lo:W0.heap.size≤g
theorem Z42{W0:World}{mb N:Nat}{f:Int→Option Int}(hm:Zb W0 mb f N)(a:Int)(ha:Z6 a)(r:List Int)(hl:r.length≤1000)(h0:f a=some (Zj a r))(hf:∀j,(hj:j<r.length)→Z6 r[j]∧r[j]≠a∧f r[j]=some (Zj a (r.drop (j+1)))) :
  Calls prog 24 #[.map (some mb),.int .i64 a] W0 fun e w'=>∃v',e=.returned v'∧IS w' v' (a::r.reverse)∧Nw W0 w':=by
 have HF:=hD0 hf
 have HM:=hD0 hm
 have g1:Nw W0 (W0.alloc (.cells #[.int .i64 a] 3)):=(Nw.refl W0).alloc _
 have hlk:=(hm.nw g1).look_val ha h0
 have HI0:Hid (RoI W0 mb f N a r W0.heap.size 1 0 (W0.alloc (.cells #[.int .i64 a] 3))):=hD0 ⟨by
  have:=World.ownsRow_lit (base:=0) (size:=1) (e:=3) W0 #[.int .i64 a] 1 (Nat.zero_le _) (by decide) (by simp)
  simpa [IS] using this,g1,hm.nw g1,Nat.le_refl _⟩
 obtain⟨w1,hw1⟩:∃x,W0.alloc (.cells #[.int .i64 a] 3)=x:=⟨_,rfl⟩
 rw[hw1] at hlk HI0
 have HW1:=hD0 hw1
 obtain⟨x0,hx0⟩:∃x,Zj a r=x:=⟨_,rfl⟩
 have HX0:=hD0 hx0
 rw[hx0] at hlk
 clear hf hm g1 hw1 hx0 h0 ha
 go_enter func24,ntmps24
 go_upto_region 2 with fail
 rw[HW1.out]
 go_wp2_with fail
 go_loopw [5,6] (fun v5 v6 wr=>∃(j g cap:Nat) (x:Int),v5=.slice (some ⟨g,0,none⟩) (j+1) cap∧v6=.int .i64 x∧j≤r.length∧Hid (Zj a (r.drop j)=x)∧Hid (RoI W0 mb f N a r g cap j wr)) (fun v5 _ _=>r.length+1-Z8o v5)
 case atStart=>exact⟨0,_,_,x0,rfl,rfl,Nat.zero_le _,hD0 HX0.out,HI0⟩
 case round =>
  clear HI0
  obtain⟨j,g,cap,x,rfl,rfl,hj,HX,HI⟩:=hrel
  by_cases hlt:j<r.length
  ·have hx:x=r[j]:=by
    rw[←HX.out,←List.getElem_cons_drop hlt];rfl
   obtain⟨hxf,hxa,hpx⟩:=HF.out j hlt
   rw[←hx] at hxf hxa hpx
   have hne1:(x==a)=false:=by simpa using hxa
   have hne2:(x != a)=true:=by simpa using hxa
   obtain⟨v',w2,hr2,hI2,ht2,hk2,g2,cap2,rfl⟩:=IS.push wr _ (a::r.take j) x HI.out.is (by simp[List.length_take];omega)
   have hlen:(a::r.take j).length+1=j+1+1:=by simp[List.length_take];omega
   have hlk:=(HI.out.mp.tch ht2 (fun e=>by
    have e':g=mb:=Option.some.inj e
    obtain⟨es,c,q⟩:=HI.out.mp.obj
    obtain⟨c',q'⟩:=Zx HI.out.is (g:=g) rfl
    rw[e',q] at q';cases q')).look_val hxf hpx
   have HI2:=hD0 (show RoI W0 mb f N a r g2 cap2 (j+1) w2 from⟨by
    have e:a::r.take (j+1)=(a::r.take j)++[x]:=by rw[List.take_succ_eq_append_getElem hlt,hx];rfl
    rw[e,←hlen];exact hI2,Ze HI.out.nw ht2 (fun i e=>by rw[←Option.some.inj e];exact HI.out.lo),HI.out.mp.tch ht2 (fun e=>by
    have e':g=mb:=Option.some.inj e
    obtain⟨es,c,q⟩:=HI.out.mp.obj
    obtain⟨c',q'⟩:=Zx HI.out.is (g:=g) rfl
    rw[e',q] at q';cases q'),by
    rcases hk2 g2 rfl with e | e
    ·rw[←Option.some.inj e];exact HI.out.lo
    ·exact Nat.le_trans HI.out.nw.sz e⟩)
   have HR2:=hD0 hr2
   obtain⟨y,hy⟩:∃y,Zj a (r.drop (j+1))=y:=⟨_,rfl⟩
   have HY:=hD0 hy
   rw[hy] at hlk
   rw[hlen] at HR2
   clear hr2 hI2 ht2 hk2 hxf hpx hx hlen hy HI
   go_wp2_with (at_builtin;refine Zr (by rfl) (.tmp 18) (.tmp 20) 28 rfl _ _ _ _ rfl rfl HR2.out ?_)
   go_roundw
   case rel=>exact⟨j+1,g2,cap2,y,rfl,rfl,hlt,hD0 HY.out,HI2⟩
   case measure=>show r.length+1-(j+1+1)<r.length+1-(j+1);omega
  ·obtain rfl:j=r.length:=by omega
   have hx:x=a:=by rw[←HX.out,List.drop_length];rfl
   subst hx
   have his:=HI.out.is
   rw[List.take_length] at his
   have hcap:r.length+1≤cap:=by
    rcases his.2 with⟨q,_⟩ | ⟨g',cap',cur,q,_,_,q4,_⟩
    ·simp at q
    ·simp only[Value.slice.injEq] at q
     simp at q4
     omega
   have HRv:=hD0 (Z6p his hl)
   have hc1:1≤r.length+1:=by omega
   have hc2:(1:Int)≤(r.length:Int)+1:=by omega
   have HZ:=hD0 (aI0 HI.out.nw HI.out.lo)
   clear his HI hlt
   by_cases hc:cap=1
   ·subst hc
    obtain rfl:r=[]:=List.length_eq_zero_iff.1 (by omega)
    simp only[if_true,Nat.sub_self,List.length_nil,Nat.zero_add] at HRv hcap hc1 hc2
    clear hj hcap hc1 hc2
    go_wp2_with fail
    refine HRv.out.mono ?_
    rintro e w3 ⟨rfl,hI3,ht3⟩
    have HE:=hD0 (aI0 hI3 (Ze HZ.out.1 ht3 (fun i e=>by rw[e];exact HZ.out.2)))
    clear hI3 ht3 HRv
    go_wp2
    go_ret
    exact⟨_,rfl,HE.out.1,HE.out.2⟩
   ·rw[if_neg hc] at HRv
    obtain⟨nr,hnr⟩:∃n,r.length=n:=⟨_,rfl⟩
    rw[hnr] at HRv hcap hc1 hc2 hl ⊢
    clear hj hnr HF
    go_wp2_with fail
    refine HRv.out.mono ?_
    rintro e w3 ⟨rfl,hI3,ht3⟩
    have HE:=hD0 (aI0 hI3 (Ze HZ.out.1 ht3 (fun i e=>by rw[e];exact HZ.out.2)))
    clear hI3 ht3 HRv
    go_wp2
    go_ret
    exact⟨_,rfl,HE.out.1,HE.out.2⟩
theorem Z5m{w:World}{B:Nat}{a:Int}(h:w.cell? ⟨B,0,none⟩=some (.int .i64 a)):Z49 w (.func (.func 23) #[] #[.pointer (some ⟨B,0,none⟩)]) (fun x=>x==a):=by
 refine⟨23,_,rfl,enters_of func23 (by kernel_rfl) rfl,fun x w1 g=>?_⟩
 have hc:=g.kp h
 simp only[List.append_toArray,List.cons_append,List.nil_append]
 go_enter func23,ntmps23
 go_wp2
 go_ret
 exact⟨rfl,Nw.refl _⟩
theorem Z84{l:List (Int × Int)}(hF:∀e∈l,Z6 e.1∧Z6 e.2):∀e∈sortE l,Z6 e.1∧Z6 e.2:=fun e he=>hF e (Yq.1 he)
end
section
open Go.RowKit Go.Sort
theorem Z5j{E:List (Int × Int)}{a:Int}{W:List (List Int)}(hs:Zh E)(hr:Yf E a a)(h:SrP E a (fun x=>x==a) W) :
  ∃r,Lst E a a r∧r.length≤E.length∧Yb a W a=some (Zj a r)∧∀j,(hj:j<r.length)→(∃e∈E,e.2=r[j])∧r[j]≠a∧Yb a W r[j]=some (Zj a (r.drop (j+1))):=by
 rcases h with⟨h,h1,b,h2⟩ | ⟨W1,y,r,h,i,rfl,b,h1,h2,h3,h4,h5⟩
 ·exfalso
  obtain⟨q,hq,e⟩:=List.mem_map.1 ((b.reach h1 a).2 hr)
  have:=h2 q hq
  rw[e] at this
  simp at this
 ·have hy:y=a:=by simpa using h4
  subst hy
  have hrm:r∈([]::W1):=List.mem_of_getElem? h1
  have hnd:((W1++[y::r]).map (Zj y)).Nodup:=by
   rw[List.map_append,List.map_singleton]
   exact List.nodup_append.2 ⟨b.nd,by simp,fun x hx z hz e=>by
    rw[List.mem_singleton.1 hz] at e
    exact h3 ((show x=y from e)▸hx)⟩
  refine⟨r,b.first hs h1 h2 h3,b.wlen hrm,Z1x (r:=y::r) hnd (by simp),fun j hj=>?_⟩
  have hs1:=b.suf r.length r rfl hrm j hj
  have hd:Zj y (r.drop j)=r[j]:=by rw[←List.getElem_cons_drop hj];rfl
  have hm:r[j]∈W1.map (Zj y):=List.mem_map.2 ⟨_,hs1,hd⟩
  refine⟨b.inE _ hm,fun e=>h3 (e▸hm),?_⟩
  have:=Z1x hnd (List.mem_append_left [y::r] hs1)
  rw[hd,List.tail_drop] at this
  exact this
theorem Z3f{w:World}{v:Value}{l:List (Int × Int)}(h:Zl w v l)(hl:l.length≤1000)(hF:∀e∈l,Z6 e.1∧Z6 e.2) :
  Calls prog 12 #[v] w fun e w'=>∃v' c b,e=.returned (.tuple #[v',.bool b])∧IS w' v' c∧Ym l c b∧Nw w w':=by
 have HS:=hD0 (Z2r h hl)
 have hls:=Nat.le_trans (Z0e l) hl
 have HA:=hD0 (aI0 hF hls)
 obtain⟨a,c,rfl⟩:=h.form
 clear h hF hls
 go_enter func12,ntmps12
 go_wp2_with fail
 refine HS.out.mono ?_
 rintro e w1 ⟨v1,rfl,hO,g1⟩
 obtain⟨E,hE⟩:∃E,sortE l=E:=⟨_,rfl⟩
 have HE:=hD0 (aI0 (show Zh E from hE▸Z0f l) (aI0 (show E.length≤1000 from hE▸HA.out.2) (aI0 (show ∀e∈E,Z6 e.1∧Z6 e.2 from hE▸Z84 HA.out.1) (show ∀x,x∈E↔x∈l from fun x=>hE▸Yq))))
 rw[hE] at hO
 have HO:=hD0 (Za.at_ hO)
 have HL:=hD0 (Z1r HO.out HE.out.1 HE.out.2.1 HE.out.2.2.1)
 have HG:=hD0 g1
 clear hO g1 HS hE
 go_wp2_with fail
 refine HL.out.mono ?_
 rintro e w2 ⟨fd,ls,rfl,hR,g2⟩
 have HR:=hD0 (aI0 hR (HG.out.trans g2))
 have HO2:=hD0 (HO.out.nw g2)
 clear hR g2 HL HO HG
 cases fd with
 | false =>
  have HZ:=hD0 (Z07 HE.out.2.2.2 (Z0p (fun q=>by have:=HR.out.1.1.2 q;cases this)))
  go_wp2_with fail
  go_ret2
  exact⟨_,[],false,rfl,IS.nil _,HZ.out,HR.out.2.alloc _⟩
 | true =>
  obtain⟨hr1,hr2⟩:=HR.out.1.2 rfl
  have HLs:=hD0 (aI0 hr1 hr2)
  have hfit:Z6 ls:=by
   obtain⟨y,hy⟩:=Y8 hr1
   exact(HE.out.2.2.1 _ hy).1
  have hal:=Z5 w2 (.cells #[.int .i64 ls] 3)
  have g3:Nw w2 (w2.alloc (.cells #[.int .i64 ls] 3)):=(Nw.refl w2).alloc _
  obtain⟨w3,hw3⟩:∃x,w2.alloc (.cells #[.int .i64 ls] 3)=x:=⟨_,rfl⟩
  have HW3:=hD0 hw3
  rw[hw3] at hal g3
  obtain⟨B,hB⟩:∃B,w2.heap.size=B:=⟨_,rfl⟩
  have HB:=hD0 hB
  rw[hB] at hal
  have HAL:=hD0 hal
  have HT:=hD0 (Z5m (a:=ls) (Z2 (j:=0) hal))
  have HSe:=hD0 (Z2p (HO2.out.nw g3) HE.out.1 HE.out.2.1 HE.out.2.2.1 ls hfit HT.out)
  have HG3:=hD0 (aI0 (HR.out.2.trans g3) hfit)
  have hb0:=Z2 (j:=0) hal
  have hBl:=hlt hal
  clear hr1 hr2 hal g3 hw3 HO2 HT hfit hB
  go_upto_region 5 with fail
  rw[HW3.out,HB.out]
  go_wp2_with fail
  refine HSe.out.mono ?_
  rintro e w4 ⟨mb,W,rfl,g4,hmb,hm,hsr⟩
  obtain⟨r,q1,q2,q3,q4⟩:=Z5j HE.out.1 HLs.out.1 hsr
  have HRo:=hD0 (Z42 hm ls HG3.out.2 r (Nat.le_trans q2 HE.out.2.1) q3 (fun j hj=>by
   obtain⟨⟨e,he,e1⟩,e2,e3⟩:=q4 j hj
   exact⟨e1▸(HE.out.2.2.1 e he).2,e2,e3⟩))
  have HQ:=hD0 (aI0 (Z07 HE.out.2.2.2 (Z64 HLs.out.1 HLs.out.2 q1)) (HG3.out.1.trans g4))
  have hb4:=g4.kp hb0
  have hBl4:=lL0 hBl g4.sz
  clear g4 hmb hm hsr q1 q2 q3 q4 HSe hb0 hBl
  go_wp2_with fail
  refine HRo.out.mono ?_
  rintro e w5 ⟨v5,rfl,h5,g5⟩
  have HZ:=hD0 (aI0 h5 (HQ.out.2.trans g5))
  clear h5 g5 HRo
  go_wp2
  go_ret2
  exact⟨_,_,true,rfl,HZ.out.1,HQ.out.1,HZ.out.2⟩
end
end Go.Proofs.Ytbefaomgldckdaa
