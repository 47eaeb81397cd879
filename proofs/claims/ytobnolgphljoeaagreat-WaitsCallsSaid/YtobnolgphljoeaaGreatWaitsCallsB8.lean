/- Texts merged: WeB, QuW -/
import Derived.Test.YtobnolgphljoeaaGreatWaitsCallsB7
set_option linter.unusedVariables false
set_option maxRecDepth 100000
set_option maxHeartbeats 16000000
namespace Go.Proofs.YtobnolgphljoeaaGreat
open Go.RowKit _root_.Go.Proofs.Tryz
structure OwI(W0:World)(out:List (Int × Int))(v:Value)(w:World):Prop where
 own:Z6 w W0.heap.size v out
 nw:Nw W0 w
theorem Z98{W0 wr:World}{v:Value}{out:List (Int × Int)}(h:OwI W0 out v wr)(hl:out.length≤90000)(ex ey:Int) :
  ∃ga cc w6,(Builtin.append_ #[23,23] 23 #[v,.slice (some ⟨wr.heap.size,0,none⟩) 1 1]).run prog (wr.alloc (.cells #[.int .i64 ex,.int .i64 ey] 30))=.ok (.slice (some ⟨ga,0,none⟩) (out.length+1) cc) w6∧OwI W0 (out++[(ex,ey)]) (.slice (some ⟨ga,0,none⟩) (out.length+1) cc) w6:=by
 have hal6:=Z4 wr (.cells #[.int .i64 ex,.int .i64 ey] 30)
 have g6:Nw wr (wr.alloc (.cells #[.int .i64 ex,.int .i64 ey] 30)):=(Nw.refl wr).alloc _
 obtain⟨v',w6,hr6,hO6,hg6,_,ga6,cc6,rfl⟩:=Zt.push Y0 (Yq h.own g6) (ex,ey) wr.heap.size 1 (fun j u hu=>by
  rw[Z2 hal6]
  simpa [Zb] using hu) (by omega) (h.nw.trans g6).sz
 exact⟨ga6,cc6,w6,hr6,hO6,(h.nw.trans g6).gro hg6 (fun b e=>Vg h.own e)⟩
theorem Z1k{w0:World}{v:Value}{l:List (Int × Int)}(h:Zw w0 v l)(hl:l.length≤1000)(t:Int) :
  Calls prog 17 #[v,.int .i64 t] w0 fun e w'=>∃v',e=.returned v'∧Z6 w' w0.heap.size v' (Ym l t)∧Nw w0 w':=by
 obtain⟨a,c,rfl,hd⟩:=h
 have HD:=hD0 hd
 obtain⟨n,hn⟩:∃n,l.length=n:=⟨_,rfl⟩
 have HN:=hD0 hn
 rw[hn] at hl ⊢
 clear hd hn
 go_enter func17,ntmps17
 go_wp2_with fail
 go_loopw [5,6] (fun v5 v6 wr=>∃(k:Nat) (a:Option Addr) (b c:Nat),v5=.slice a b c∧v6=.int .i64 k∧k≤n∧Hid (OwI w0 (Ym (l.take k) t) (.slice a b c) wr)) (fun _ v6 _=>n-(intOf v6).toNat)
 case atStart=>exact⟨0,none,0,0,rfl,rfl,Nat.zero_le _,hD0 ⟨World.ownsRow_nil _ _ _ _,Nw.refl _⟩⟩
 case round =>
  obtain⟨k,sa,sb,sc,rfl,rfl,hkn,HI⟩:=hrel
  by_cases hlt:k<n
  ·have hkl:k<l.length:=by rw[HN.out];exact hlt
   rcases HD.out with⟨q,_⟩ | ⟨eb,eo,rfl,hrc⟩
   ·rw[q] at hkl;simp at hkl
   have hrw:=hrc.nw HI.out.nw
   obtain⟨x0,x1⟩:=hrw.eg hkl
   have hebl:=hrw.lt
   have HDr:=hD0 (Z3b (t:=t) hkl)
   have hdl:(Ym (l.take k) t).length≤90000:=Nat.le_trans (List.length_filter_le _ _) (Nat.le_trans (List.length_take_le _ _) (by omega))
   obtain⟨s,hs⟩:∃s,l[k]=s:=⟨_,rfl⟩
   simp only[hs] at x0 x1 HDr
   obtain⟨ex,ey⟩:=s
   simp only at x0 x1 HDr
   have HDl:=hD0 hdl
   have Zr:=Zo hlt
   have hw:=Zn k (k+1) (by omega) rfl
   obtain⟨k1,hk1⟩:∃m,k+1=m:=⟨_,rfl⟩
   have HK1:=hD0 (aI0 hk1 hlt)
   rw[hk1] at hw HDr
   clear hk1 hkl hrc hrw hlt hs hdl
   by_cases e1:ex=t
   ·have d1:(ex != t)=false:=by simp[e1]
    have d2:(ex==t)=true:=by simp[e1]
    have HS:=hD0 (show OwI w0 (Ym (l.take k1) t) (.slice sa sb sc) wr from by
     rw[HDr.out,if_neg (fun q=>q.1 e1),List.append_nil];exact HI.out)
    clear e1 HI
    go_wp2_with fail
    exact⟨⟨k1,sa,sb,sc,rfl,rfl,by rw[←HK1.out.1];exact HK1.out.2,HS⟩,by rw[←HK1.out.1];exact Zk HK1.out.2⟩
   ·have d1:(ex != t)=true:=by simp[e1]
    have d2:(ex==t)=false:=by simp[e1]
    by_cases e2:ey=t
    ·have d3:(ey != t)=false:=by simp[e2]
     have d4:(ey==t)=true:=by simp[e2]
     have HS:=hD0 (show OwI w0 (Ym (l.take k1) t) (.slice sa sb sc) wr from by
      rw[HDr.out,if_neg (fun q=>q.2 e2),List.append_nil];exact HI.out)
     clear e1 e2 HI
     go_wp2_with fail
     exact⟨⟨k1,sa,sb,sc,rfl,rfl,by rw[←HK1.out.1];exact HK1.out.2,HS⟩,by rw[←HK1.out.1];exact Zk HK1.out.2⟩
    ·have d3:(ey != t)=true:=by simp[e2]
     have d4:(ey==t)=false:=by simp[e2]
     obtain⟨ga,cc,w6,hr6,hO6⟩:=Z98 HI.out HDl.out ex ey
     have HS:=hD0 (show OwI w0 (Ym (l.take k1) t) (.slice (some ⟨ga,0,none⟩) ((Ym (l.take k) t).length+1) cc) w6 from by
      rw[HDr.out,if_pos ⟨e1,e2⟩];exact hO6)
     have HR6:=hD0 hr6
     clear e1 e2 hr6 hO6 HI
     go_wp2_with (at_builtin;refine Z7 (by rfl) (.tmp 29) (.tmp 34) 23 rfl _ _ _ _ rfl rfl HR6.out ?_)
     exact⟨⟨k1,some ⟨ga,0,none⟩,_,cc,rfl,rfl,by rw[←HK1.out.1];exact HK1.out.2,HS⟩,by rw[←HK1.out.1];exact Zk HK1.out.2⟩
  ·obtain rfl:k=n:=Nat.le_antisymm hkn (Nat.le_of_not_lt hlt)
   have Zr:¬k<k:=Nat.lt_irrefl k
   have HO:=hD0 (show OwI w0 (Ym l t) (.slice sa sb sc) wr from by
    have:=HI.out
    rwa [List.take_of_length_le (by rw[HN.out];exact Nat.le_refl k)] at this)
   clear hlt HI
   go_wp2
   go_ret
   exact⟨_,rfl,HO.out.own,HO.out.nw⟩
theorem Z16{w:World}{g k c:Nat}{l:List (Int × Int)}(h:RdC 2 Zb w g 0 l)(hk:k≤l.length):Rd 2 Zb w (.slice (some ⟨g,0,none⟩) k c) (l.take k):=by
 refine⟨_,c,by rw[List.length_take,Nat.min_eq_left hk],.inr ⟨g,0,rfl,?_⟩⟩
 have:=h.part 0 k
 simpa using this
theorem Z3c{w:World}{g k c:Nat}{l:List (Int × Int)}(h:RdC 2 Zb w g 0 l)(hk:k≤l.length):Rd 2 Zb w (.slice (some ⟨g,k*2,none⟩) (l.length-k) c) (l.drop k):=by
 refine⟨_,c,by rw[List.length_drop],.inr ⟨g,k*2,rfl,?_⟩⟩
 have:=h.part k (l.length-k)
 rw[List.take_of_length_le (by rw[List.length_drop];omega)] at this
 simpa using this
theorem Za5{z:World}{g o c k:Nat}{l:List (Int × Int)}(hk:l.length≤k):Rd 2 Zb z (.slice (some ⟨g,o,none⟩) (l.length-k) c) (l.drop k) :=
 ⟨_,c,by rw[List.length_drop],.inl ⟨List.drop_eq_nil_of_le hk,fun q=>by cases q⟩⟩
theorem Z6.rdc{w:World}{g0 g n c:Nat}{l:List (Int × Int)}(h:Z6 w g0 (.slice (some ⟨g,0,none⟩) n c) l):RdC 2 Zb w g 0 l:=by
 obtain⟨a,c',e,⟨e2,_⟩ | ⟨b,o,e2,hc⟩⟩:=Z6.at_ h
 ·subst e2
  exact⟨Uo h rfl,fun i hi=>by simp at hi⟩
 ·subst e2
  simp only[Value.slice.injEq,Option.some.injEq,Addr.mk.injEq] at e
  obtain⟨⟨rfl,rfl,_⟩,_,_⟩:=e
  exact hc
theorem Z1z{W W0:World}{v:Value}{out:List (Int × Int)}(h:OwI W0 out v W)(hl:out.length≤50000){k:Nat}(ex ey:Int){v1 v2:Value}(h1:Rd 2 Zb W v1 (out.take k))(h2:Rd 2 Zb W v2 (out.drop k)) :
  ∃v4 w4 a5 n5 c5 w5 a6 n6 c6 w6,(Builtin.append_ #[23,23] 23 #[.slice (some ⟨W.heap.size,0,none⟩) 0 0,v1]).run prog (W.alloc (.cells #[] 30))=.ok v4 w4∧Nw W w4 ∧
   (Builtin.append_ #[23,23] 23 #[v4,.slice (some ⟨w4.heap.size,0,none⟩) 1 1]).run prog (w4.alloc (.cells #[.int .i64 ex,.int .i64 ey] 30))=.ok (.slice a5 n5 c5) w5∧Nw W w5 ∧
   (Builtin.append_ #[23,23] 23 #[.slice a5 n5 c5,v2]).run prog w5=.ok (.slice a6 n6 c6) w6 ∧
   OwI W0 (out.take k++(ex,ey)::out.drop k) (.slice a6 n6 c6) w6:=by
 have htk:(out.take k).length≤out.length:=by rw[List.length_take];omega
 have hdl:(out.take k).length+(out.drop k).length=out.length:=by rw[←List.length_append,List.take_append_drop]
 obtain⟨v4,w4,hr4,hO4,hN4⟩:=Yu Y0 h1 (by omega)
 obtain⟨y,hy⟩:∃y,w4.alloc (.cells #[.int .i64 ex,.int .i64 ey] 30)=y:=⟨_,rfl⟩
 have hal:=Z4 w4 (.cells #[.int .i64 ex,.int .i64 ey] 30)
 have gy:Nw w4 y:=by rw[←hy];exact(Nw.refl w4).alloc _
 rw[hy] at hal
 have hs4:=hN4.sz
 have hsy:=gy.sz
 obtain⟨v5,w5,hr5,hO5,hg5,_,g5,c5,hv5⟩:=Zt.push Y0 (Yq hO4 gy) (ex,ey) w4.heap.size 1 (fun j u hu=>by
  rw[Z2 hal]
  simpa [Zb] using hu) (by omega) (by omega)
 subst hv5
 have hN5:Nw W w5:=(hN4.trans gy).gro hg5 (fun b hb=>Vg hO4 hb)
 obtain⟨v6,w6,hr6,hO6,hg6,_⟩:=Z2k Y0 hO5 (h2.nw hN5) (by rw[List.length_append,List.length_singleton];omega) hN5.sz
 have hN6:Nw W w6:=hN5.gro hg6 (fun b hb=>Vg hO5 hb)
 have he:out.take k++[(ex,ey)]++out.drop k=out.take k++(ex,ey)::out.drop k:=by simp
 rw[he] at hO6
 obtain⟨a6,c6,hv6,_⟩:=Zt.rd Y0.len hO6
 subst hv6
 exact⟨v4,w4,_,_,c5,w5,a6,_,c6,w6,hr4,hN4,by rw[hy];exact hr5,hN5,hr6,Z0k hO6 (fun b hb=>Nat.le_trans h.nw.sz (Vg hO6 hb)),h.nw.trans hN6⟩
theorem Zah{m n c:Nat}(h:m≤n)(hc:n≤c):m≤c∧(m:Int)≤(c:Int)∧(n:Int)≤(c:Int)∧(m:Int)≤(n:Int)∧((n:Int)-(m:Int)).toNat=n-m:=by omega
structure SrK(out:List (Int × Int))(x:Int × Int)(k:Nat):Prop where
 lo:∀j,(h:j<out.length)→j<k→Yy out[j] x
theorem SrK.succ{out:List (Int × Int)}{x:Int × Int}{k:Nat}(h:SrK out x k)(hk:k<out.length)(e:Yy out[k] x):SrK out x (k+1) :=
 ⟨fun j hj q=>(Nat.lt_or_ge j k).elim (fun q=>h.lo j hj q) (fun q=>by
  obtain rfl:j=k:=by omega
  exact e)⟩
theorem Vd{w0:World}{v:Value}{l:List (Int × Int)}(h:Zw w0 v l)(hl:l.length≤2000) :
  Calls prog 13 #[v] w0 fun e w'=>∃v',e=.returned v'∧Z6 w' w0.heap.size v' (sortE l)∧Nw w0 w':=by
 obtain⟨a,c,rfl,hd⟩:=h
 have HD:=hD0 hd
 obtain⟨n,hn⟩:∃n,l.length=n:=⟨_,rfl⟩
 have HN:=hD0 hn
 have HSn:=hD0 (fun k=>Nat.le_trans (Y6 (l.take k)) (show(l.take k).length≤l.length by rw[List.length_take];omega))
 rw[hn] at hl ⊢
 clear hd hn
 go_enter func13,ntmps13
 go_wp2_with fail
 go_loopw [3,4] (fun v3 v4 wr=>∃(k:Nat) (a:Option Addr) (b c:Nat),v3=.slice a b c∧v4=.int .i64 k∧k≤n∧Hid (OwI w0 (sortE (l.take k)) (.slice a b c) wr)) (fun _ v4 _=>n-(intOf v4).toNat)
 case atStart=>exact⟨0,none,0,0,rfl,rfl,Nat.zero_le _,hD0 ⟨World.ownsRow_nil _ _ _ _,Nw.refl _⟩⟩
 case round =>
  obtain⟨i,sa,sb,sc,rfl,rfl,hin,HI⟩:=hrel
  by_cases hlt:i<n
  ·have hil:i<l.length:=by rw[HN.out];exact hlt
   rcases HD.out with⟨q,_⟩ | ⟨eb,eo,rfl,hrc⟩
   ·rw[q] at hil;simp at hil
   have hrw:=hrc.nw HI.out.nw
   obtain⟨x0,x1⟩:=hrw.eg hil
   have hebl:=hrw.lt
   have HSt:=hD0 (Z3o hil)
   obtain⟨s,hs⟩:∃s,l[i]=s:=⟨_,rfl⟩
   simp only[hs] at x0 x1 HSt
   obtain⟨ex,ey⟩:=s
   simp only at x0 x1 HSt
   obtain⟨out,hout⟩:∃out,sortE (l.take i)=out:=⟨_,rfl⟩
   have holen:out.length≤2000:=by
    have:=HSn.out i
    rw[hout,HN.out] at this
    omega
   rw[hout] at HI HSt
   have Zr:=Zo hlt
   have hw:=Zn i (i+1) (by omega) rfl
   obtain⟨i1,hi1⟩:∃m,i+1=m:=⟨_,rfl⟩
   have HI1:=hD0 (aI0 hi1 hlt)
   rw[hi1] at hw HSt
   have HO:=hD0 HI.out
   have HOL:=hD0 holen
   have hrcE:=hD0 hrw
   clear hi1 hil hrc hrw hlt hs hout holen
   have HX:=hD0 (show ∀z,Nw wr z→z.cell? ⟨eb,eo+i*2,none⟩=some (.int .i64 ex)∧z.cell? ⟨eb,eo+i*2+1,none⟩=some (.int .i64 ey)∧eb<z.heap.size from fun z g=>⟨g.kp x0,g.kp x1,lL0 hebl g.sz⟩)
   clear x0 x1 hebl
   rcases V8 HI.out.own with⟨e,hz⟩ | ⟨g,cap,e⟩
   ·obtain rfl:out=[]:=List.length_eq_zero_iff.1 hz
    simp only[Value.slice.injEq] at e
    obtain⟨rfl,rfl,rfl⟩:=e
    generalize wr=w4 at *
    clear HI hz
    go_wp2_with fail
    go_loopw [5] (fun nv y=>nv=.int .i64 0∧Hid (Nw w4 y)) (fun _ _=>0)
    case atStart=>exact⟨rfl,Nw.refl _⟩
    case round =>
     obtain⟨rfl,HM⟩:=hrel
     go_wp2_with fail
     refine Zq (fun y=>Nw wr y) (by kernel_rfl) (by kernel_rfl) (Nw.refl _).dr ?_
     have hne:Nonempty (Wd (fun y=>Nw wr y)):=⟨⟨_,Nw.refl wr⟩⟩
     repeat (first | go_big_quiet_step (fail) | quiet_step (fail))
     refine wpQuiet_nil ?_
     intro d
     have HZn:=hD0 (HM.out.trans d.h)
     clear hne
     revert HZn
     generalize d.w=z3
     intro HZ
     clear d
     go_wp2_with fail
     refine Zq (fun y=>Nw z3 y) (by kernel_rfl) (by kernel_rfl) (Nw.refl _).dr ?_
     have hne:Nonempty (Wd (fun y=>Nw z3 y)):=⟨⟨_,Nw.refl z3⟩⟩
     repeat (first | go_big_quiet_step (fail) | quiet_step (fail))
     refine wpQuiet_nil ?_
     intro d
     have HZn:=hD0 (HZ.out.trans d.h)
     clear hne
     revert HZn
     generalize d.w=z4
     intro HZ
     clear d
     have HK3:=hD0 (aI0 (show(0:Nat)≤([]:List (Int × Int)).length from Nat.le_refl _) (aI0 (show SrK [] (ex,ey) 0 from⟨fun j hj=>by simp at hj⟩) (show ¬∃h:0<([]:List (Int × Int)).length,([]:List (Int × Int))[0]=(ex,ey) from fun⟨h,_⟩=>by simp at h)))
     have HRd:=hD0 (show Rd 2 Zb z4 (.slice none 0 0) (([]:List (Int × Int)).take 0)∧Rd 2 Zb z4 (.slice none 0 0) (([]:List (Int × Int)).drop 0) from⟨by rw[List.take_nil];exact Rd.nil z4,by rw[List.drop_nil];exact Rd.nil z4⟩)
     have HNt:=hD0 (show ∀h:0<([]:List (Int × Int)).length,¬Yy ([]:List (Int × Int))[0] (ex,ey) from fun h=>by simp at h)
     obtain⟨v4,y4,a5,n5,c5,y5,a6,n6,c6,y6,hr4,hN4,hr5,hN5,hr6,hO6⟩:=Z1z (W:=z4) (W0:=w0) (k:=0) ⟨Yq HO.out.own HZ.out,HO.out.nw.trans HZ.out⟩ (Nat.le_trans HOL.out (by decide)) ex ey HRd.out.1 HRd.out.2
     have HS:=hD0 (show OwI w0 (sortE (l.take i1)) (.slice a6 n6 c6) y6 from by
      rw[HSt.out,(V0 HK3.out.1 HK3.out.2.1.lo HNt.out).2 HK3.out.2.2]
      exact hO6)
     have HR4:=hD0 hr4
     have HR5:=hD0 hr5
     have HR6:=hD0 hr6
     obtain⟨x0,x1,x2⟩:=HX.out y4 (HZ.out.trans hN4)
     clear hr4 hr5 hr6 hO6 hN4 hN5
     go_wp2_with (at_builtin;first | (refine Z7 (by rfl) (.tmp 45) (.tmp 48) 23 rfl _ _ _ _ (by first | rfl | simp[Act.eval, *]) (by first | rfl | simp[Act.eval, *]) HR4.out ?_) | (refine Z7 (by rfl) (.tmp 50) (.tmp 55) 23 rfl _ _ _ _ (by first | rfl | simp[Act.eval, *]) (by first | rfl | simp[Act.eval, *]) HR5.out ?_) | (refine Z7 (by rfl) (.tmp 57) (.tmp 60) 23 rfl _ _ _ _ (by first | rfl | simp[Act.eval, *]) (by first | rfl | simp[Act.eval, *]) HR6.out ?_))
     exact⟨⟨i1,_,_,_,rfl,rfl,by rw[←HI1.out.1];exact HI1.out.2,HS⟩,by rw[←HI1.out.1];exact Zk HI1.out.2⟩
   ·simp only[Value.slice.injEq] at e
    obtain⟨rfl,rfl,rfl⟩:=e
    have hcap:out.length≤sc:=Vq HI.out.own
    have HRO:=hD0 (Z6.rdc HI.out.own)
    have hgl:g<wr.heap.size:=Uo HI.out.own rfl
    generalize wr=w4 at *
    clear HI
    go_wp2_with fail
    go_loopw [5] (fun nv y=>∃m:Nat,nv=.int .i64 m∧m≤out.length∧Hid (SrK out (ex,ey) m∧Nw w4 y)) (fun nv _=>out.length-(intOf nv).toNat)
    case atStart=>exact⟨0,rfl,Nat.zero_le _,⟨⟨fun j _ q=>absurd q (Nat.not_lt_zero _)⟩,Nw.refl _⟩⟩
    case round =>
     obtain⟨m,rfl,hmm,HM⟩:=hrel
     have hg3:=lL0 hgl HM.out.2.sz
     obtain⟨hm1,hm2,hm3,hm4,hm5⟩:=Zah hmm hcap
     by_cases hml:m<out.length
     ·obtain⟨p0,p1⟩:=(HRO.out.nw HM.out.2).eg hml
      rw[Nat.zero_add] at p0 p1
      have hml':=Zo hml
      have hwm:=Zn m (m+1) (by have:=HOL.out;omega) rfl
      obtain⟨m1,hm1'⟩:∃x,m+1=x:=⟨_,rfl⟩
      have HM1:=hD0 (aI0 hm1' hml)
      rw[hm1'] at hwm
      have HLs:=hD0 (fun w=>Z5d (w0:=w) out[m] (ex,ey))
      have HEq:=hD0 (show ∀y,out[m]=y→∃h:m<out.length,out[m]=y from fun y e=>⟨hml,e⟩)
      obtain⟨s,hs⟩:∃s,out[m]=s:=⟨_,rfl⟩
      have HSm:=hD0 (show ∃h:m<out.length,out[m]=s from⟨hml,hs⟩)
      simp only[hs] at p0 p1 HLs
      obtain⟨s0,s1⟩:=s
      simp only at p0 p1
      clear hs hm1' HEq hml
      by_cases he:Yy (s0,s1) (ex,ey)
      ·rw[decide_eq_true he] at HLs
       go_wp2_with fail
       obtain⟨x0,x1,x2⟩:=HX.out wr HM.out.2
       refine Zq (fun y=>Nw wr y) (by kernel_rfl) (by kernel_rfl) (Nw.refl _).dr ?_
       have d0:∀d:Wd (fun y=>Nw wr y),d.w.cell? _=_:=fun d=>d.h.kp p0
       have d1:∀d:Wd (fun y=>Nw wr y),d.w.cell? _=_:=fun d=>d.h.kp p1
       have d2:∀d:Wd (fun y=>Nw wr y),d.w.cell? _=_:=fun d=>d.h.kp x0
       have d3:∀d:Wd (fun y=>Nw wr y),d.w.cell? _=_:=fun d=>d.h.kp x1
       have hne:Nonempty (Wd (fun y=>Nw wr y)):=⟨⟨_,Nw.refl wr⟩⟩
       repeat (first | go_big_quiet_step ((exact Vb (fun a b h g=>h.trans g) (HLs.out _))) | quiet_step ((exact Vb (fun a b h g=>h.trans g) (HLs.out _))))
       refine wpQuiet_nil ?_
       intro d
       have HZn:=hD0 (HM.out.2.trans d.h)
       clear hne d0 d1 d2 d3
       revert HZn
       generalize d.w=z3
       intro HZ
       clear d
       clear x0 x1 x2
       have HE:=hD0 (show SrK out (ex,ey) m1∧Nw w4 z3 from⟨by
        obtain⟨h1,h2⟩:=HSm.out
        rw[←HM1.out.1]
        exact HM.out.1.succ h1 (by rw[h2];exact he),HZ.out⟩)
       clear HM HZ he
       go_wp2_with fail
       exact⟨⟨m1,rfl,by rw[←HM1.out.1];exact HM1.out.2,HE.out⟩,by rw[←HM1.out.1];exact Zk HM1.out.2⟩
      ·rw[decide_eq_false he] at HLs
       have HNt:=hD0 (show ∀h:m<out.length,¬Yy out[m] (ex,ey) from fun h=>by
        obtain⟨h1,h2⟩:=HSm.out
        rw[h2];exact he)
       clear he
       go_wp2_with fail
       obtain⟨x0,x1,x2⟩:=HX.out wr HM.out.2
       refine Zq (fun y=>Nw wr y) (by kernel_rfl) (by kernel_rfl) (Nw.refl _).dr ?_
       have d0:∀d:Wd (fun y=>Nw wr y),d.w.cell? _=_:=fun d=>d.h.kp p0
       have d1:∀d:Wd (fun y=>Nw wr y),d.w.cell? _=_:=fun d=>d.h.kp p1
       have d2:∀d:Wd (fun y=>Nw wr y),d.w.cell? _=_:=fun d=>d.h.kp x0
       have d3:∀d:Wd (fun y=>Nw wr y),d.w.cell? _=_:=fun d=>d.h.kp x1
       have hne:Nonempty (Wd (fun y=>Nw wr y)):=⟨⟨_,Nw.refl wr⟩⟩
       repeat (first | go_big_quiet_step ((exact Vb (fun a b h g=>h.trans g) (HLs.out _))) | quiet_step ((exact Vb (fun a b h g=>h.trans g) (HLs.out _))))
       refine wpQuiet_nil ?_
       intro d
       have HZn:=hD0 (HM.out.2.trans d.h)
       clear hne d0 d1 d2 d3
       revert HZn
       generalize d.w=z3
       intro HZ
       clear d
       clear x0 x1 x2
       by_cases hq0:s0=ex
       ·subst hq0
        by_cases hq1:s1=ey
        ·subst hq1
         go_wp2_with fail
         obtain⟨q0,q1⟩:=(HRO.out.nw HZ.out).eg HSm.out.1
         rw[HSm.out.2,Nat.zero_add] at q0 q1
         simp only at q0 q1
         obtain⟨x0,x1,x2⟩:=HX.out z3 HZ.out
         refine Zq (fun y=>Nw z3 y) (by kernel_rfl) (by kernel_rfl) (Nw.refl _).dr ?_
         have d0:∀d:Wd (fun y=>Nw z3 y),d.w.cell? _=_:=fun d=>d.h.kp q0
         have d1:∀d:Wd (fun y=>Nw z3 y),d.w.cell? _=_:=fun d=>d.h.kp q1
         have d2:∀d:Wd (fun y=>Nw z3 y),d.w.cell? _=_:=fun d=>d.h.kp x0
         have d3:∀d:Wd (fun y=>Nw z3 y),d.w.cell? _=_:=fun d=>d.h.kp x1
         have hne:Nonempty (Wd (fun y=>Nw z3 y)):=⟨⟨_,Nw.refl z3⟩⟩
         repeat (first | go_big_quiet_step (fail) | quiet_step (fail))
         refine wpQuiet_nil ?_
         intro d
         have HZn:=hD0 (HZ.out.trans d.h)
         clear hne d0 d1 d2 d3
         revert HZn
         generalize d.w=z4
         intro HZ
         clear d
         clear x0 x1 x2 q0 q1
         have HS:=hD0 (show OwI w0 (sortE (l.take i1)) (.slice (some ⟨g,0,none⟩) out.length sc) z4 from by
          rw[HSt.out,(V0 hmm HM.out.1.lo HNt.out).1 HSm.out]
          exact⟨Yq HO.out.own HZ.out,HO.out.nw.trans HZ.out⟩)
         clear HM HZ
         go_wp2_with fail
         exact⟨⟨i1,_,_,_,rfl,rfl,by rw[←HI1.out.1];exact HI1.out.2,HS⟩,by rw[←HI1.out.1];exact Zk HI1.out.2⟩
        ·have HNq:=hD0 (show ¬∃h:m<out.length,out[m]=(s0,ey) from fun⟨h1,h2⟩=>by
          obtain⟨_,h3⟩:=HSm.out
          exact hq1 (congrArg Prod.snd (h3.symm.trans h2)))
         go_wp2_with fail
         obtain⟨q0,q1⟩:=(HRO.out.nw HZ.out).eg HSm.out.1
         rw[HSm.out.2,Nat.zero_add] at q0 q1
         simp only at q0 q1
         obtain⟨x0,x1,x2⟩:=HX.out z3 HZ.out
         refine Zq (fun y=>Nw z3 y) (by kernel_rfl) (by kernel_rfl) (Nw.refl _).dr ?_
         have d0:∀d:Wd (fun y=>Nw z3 y),d.w.cell? _=_:=fun d=>d.h.kp q0
         have d1:∀d:Wd (fun y=>Nw z3 y),d.w.cell? _=_:=fun d=>d.h.kp q1
         have d2:∀d:Wd (fun y=>Nw z3 y),d.w.cell? _=_:=fun d=>d.h.kp x0
         have d3:∀d:Wd (fun y=>Nw z3 y),d.w.cell? _=_:=fun d=>d.h.kp x1
         have hne:Nonempty (Wd (fun y=>Nw z3 y)):=⟨⟨_,Nw.refl z3⟩⟩
         repeat (first | go_big_quiet_step (fail) | quiet_step (fail))
         refine wpQuiet_nil ?_
         intro d
         have HZn:=hD0 (HZ.out.trans d.h)
         clear hne d0 d1 d2 d3
         revert HZn
         generalize d.w=z4
         intro HZ
         clear d
         clear x0 x1 x2 q0 q1
         clear hq1
         have HK3:=hD0 (aI0 hmm (aI0 HM.out.1 HNq.out))
         have HRd:=hD0 (show Rd 2 Zb z4 (.slice (some ⟨g,0,none⟩) m sc) (out.take m)∧Rd 2 Zb z4 (.slice (some ⟨g,m*2,none⟩) (out.length-m) (sc-m)) (out.drop m) from⟨Z16 (HRO.out.nw HZ.out) hmm,Z3c (HRO.out.nw HZ.out) hmm⟩)
         obtain⟨v4,y4,a5,n5,c5,y5,a6,n6,c6,y6,hr4,hN4,hr5,hN5,hr6,hO6⟩:=Z1z (W:=z4) (W0:=w0) (k:=m) ⟨Yq HO.out.own HZ.out,HO.out.nw.trans HZ.out⟩ (Nat.le_trans HOL.out (by decide)) s0 ey HRd.out.1 HRd.out.2
         have HS:=hD0 (show OwI w0 (sortE (l.take i1)) (.slice a6 n6 c6) y6 from by
          rw[HSt.out,(V0 HK3.out.1 HK3.out.2.1.lo HNt.out).2 HK3.out.2.2]
          exact hO6)
         have HR4:=hD0 hr4
         have HR5:=hD0 hr5
         have HR6:=hD0 hr6
         obtain⟨x0,x1,x2⟩:=HX.out y4 (HZ.out.trans hN4)
         clear hr4 hr5 hr6 hO6 hN4 hN5
         go_wp2_with (at_builtin;first | (refine Z7 (by rfl) (.tmp 45) (.tmp 48) 23 rfl _ _ _ _ (by first | rfl | simp[Act.eval, *]) (by first | rfl | simp[Act.eval, *]) HR4.out ?_) | (refine Z7 (by rfl) (.tmp 50) (.tmp 55) 23 rfl _ _ _ _ (by first | rfl | simp[Act.eval, *]) (by first | rfl | simp[Act.eval, *]) HR5.out ?_) | (refine Z7 (by rfl) (.tmp 57) (.tmp 60) 23 rfl _ _ _ _ (by first | rfl | simp[Act.eval, *]) (by first | rfl | simp[Act.eval, *]) HR6.out ?_))
         exact⟨⟨i1,_,_,_,rfl,rfl,by rw[←HI1.out.1];exact HI1.out.2,HS⟩,by rw[←HI1.out.1];exact Zk HI1.out.2⟩
       ·have HNq:=hD0 (show ¬∃h:m<out.length,out[m]=(ex,ey) from fun⟨h1,h2⟩=>by
         obtain⟨_,h3⟩:=HSm.out
         exact hq0 (congrArg Prod.fst (h3.symm.trans h2)))
        go_wp2_with fail
        obtain⟨q0,q1⟩:=(HRO.out.nw HZ.out).eg HSm.out.1
        rw[HSm.out.2,Nat.zero_add] at q0 q1
        simp only at q0 q1
        obtain⟨x0,x1,x2⟩:=HX.out z3 HZ.out
        refine Zq (fun y=>Nw z3 y) (by kernel_rfl) (by kernel_rfl) (Nw.refl _).dr ?_
        have d0:∀d:Wd (fun y=>Nw z3 y),d.w.cell? _=_:=fun d=>d.h.kp q0
        have d1:∀d:Wd (fun y=>Nw z3 y),d.w.cell? _=_:=fun d=>d.h.kp q1
        have d2:∀d:Wd (fun y=>Nw z3 y),d.w.cell? _=_:=fun d=>d.h.kp x0
        have d3:∀d:Wd (fun y=>Nw z3 y),d.w.cell? _=_:=fun d=>d.h.kp x1
        have hne:Nonempty (Wd (fun y=>Nw z3 y)):=⟨⟨_,Nw.refl z3⟩⟩
        repeat (first | go_big_quiet_step (fail) | quiet_step (fail))
        refine wpQuiet_nil ?_
        intro d
        have HZn:=hD0 (HZ.out.trans d.h)
        clear hne d0 d1 d2 d3
        revert HZn
        generalize d.w=z4
        intro HZ
        clear d
        clear x0 x1 x2 q0 q1
        clear hq0
        have HK3:=hD0 (aI0 hmm (aI0 HM.out.1 HNq.out))
        have HRd:=hD0 (show Rd 2 Zb z4 (.slice (some ⟨g,0,none⟩) m sc) (out.take m)∧Rd 2 Zb z4 (.slice (some ⟨g,m*2,none⟩) (out.length-m) (sc-m)) (out.drop m) from⟨Z16 (HRO.out.nw HZ.out) hmm,Z3c (HRO.out.nw HZ.out) hmm⟩)
        obtain⟨v4,y4,a5,n5,c5,y5,a6,n6,c6,y6,hr4,hN4,hr5,hN5,hr6,hO6⟩:=Z1z (W:=z4) (W0:=w0) (k:=m) ⟨Yq HO.out.own HZ.out,HO.out.nw.trans HZ.out⟩ (Nat.le_trans HOL.out (by decide)) ex ey HRd.out.1 HRd.out.2
        have HS:=hD0 (show OwI w0 (sortE (l.take i1)) (.slice a6 n6 c6) y6 from by
         rw[HSt.out,(V0 HK3.out.1 HK3.out.2.1.lo HNt.out).2 HK3.out.2.2]
         exact hO6)
        have HR4:=hD0 hr4
        have HR5:=hD0 hr5
        have HR6:=hD0 hr6
        obtain⟨x0,x1,x2⟩:=HX.out y4 (HZ.out.trans hN4)
        clear hr4 hr5 hr6 hO6 hN4 hN5
        go_wp2_with (at_builtin;first | (refine Z7 (by rfl) (.tmp 45) (.tmp 48) 23 rfl _ _ _ _ (by first | rfl | simp[Act.eval, *]) (by first | rfl | simp[Act.eval, *]) HR4.out ?_) | (refine Z7 (by rfl) (.tmp 50) (.tmp 55) 23 rfl _ _ _ _ (by first | rfl | simp[Act.eval, *]) (by first | rfl | simp[Act.eval, *]) HR5.out ?_) | (refine Z7 (by rfl) (.tmp 57) (.tmp 60) 23 rfl _ _ _ _ (by first | rfl | simp[Act.eval, *]) (by first | rfl | simp[Act.eval, *]) HR6.out ?_))
        exact⟨⟨i1,_,_,_,rfl,rfl,by rw[←HI1.out.1];exact HI1.out.2,HS⟩,by rw[←HI1.out.1];exact Zk HI1.out.2⟩
     ·obtain rfl:m=out.length:=Nat.le_antisymm hmm (Nat.le_of_not_lt hml)
      have hml':¬out.length<out.length:=Nat.lt_irrefl _
      clear hml
      go_wp2_with fail
      refine Zq (fun y=>Nw wr y) (by kernel_rfl) (by kernel_rfl) (Nw.refl _).dr ?_
      have hne:Nonempty (Wd (fun y=>Nw wr y)):=⟨⟨_,Nw.refl wr⟩⟩
      repeat (first | go_big_quiet_step (fail) | quiet_step (fail))
      refine wpQuiet_nil ?_
      intro d
      have HZn:=hD0 (HM.out.2.trans d.h)
      clear hne
      revert HZn
      generalize d.w=z3
      intro HZ
      clear d
      go_wp2_with fail
      refine Zq (fun y=>Nw z3 y) (by kernel_rfl) (by kernel_rfl) (Nw.refl _).dr ?_
      have hne:Nonempty (Wd (fun y=>Nw z3 y)):=⟨⟨_,Nw.refl z3⟩⟩
      repeat (first | go_big_quiet_step (fail) | quiet_step (fail))
      refine wpQuiet_nil ?_
      intro d
      have HZn:=hD0 (HZ.out.trans d.h)
      clear hne
      revert HZn
      generalize d.w=z4
      intro HZ
      clear d
      have HK3:=hD0 (aI0 (Nat.le_refl out.length) (aI0 HM.out.1 (show ¬∃h:out.length<out.length,out[out.length]=(ex,ey) from fun⟨h,_⟩=>Nat.lt_irrefl _ h)))
      have HNt:=hD0 (show ∀h:out.length<out.length,¬Yy out[out.length] (ex,ey) from fun h=>absurd h (Nat.lt_irrefl _))
      clear HM
      by_cases hc:sc=out.length
      ·have HRd:=hD0 (show Rd 2 Zb z4 (.slice (some ⟨g,0,none⟩) out.length sc) (out.take out.length)∧Rd 2 Zb z4 (.slice (some ⟨g,0,none⟩) (out.length-out.length) (sc-out.length)) (out.drop out.length) from⟨Z16 (HRO.out.nw HZ.out) (Nat.le_refl _),Za5 (Nat.le_refl _)⟩)
       obtain⟨v4,y4,a5,n5,c5,y5,a6,n6,c6,y6,hr4,hN4,hr5,hN5,hr6,hO6⟩:=Z1z (W:=z4) (W0:=w0) (k:=out.length) ⟨Yq HO.out.own HZ.out,HO.out.nw.trans HZ.out⟩ (Nat.le_trans HOL.out (by decide)) ex ey HRd.out.1 HRd.out.2
       have HS:=hD0 (show OwI w0 (sortE (l.take i1)) (.slice a6 n6 c6) y6 from by
        rw[HSt.out,(V0 HK3.out.1 HK3.out.2.1.lo HNt.out).2 HK3.out.2.2]
        exact hO6)
       have HR4:=hD0 hr4
       have HR5:=hD0 hr5
       have HR6:=hD0 hr6
       obtain⟨x0,x1,x2⟩:=HX.out y4 (HZ.out.trans hN4)
       clear hr4 hr5 hr6 hO6 hN4 hN5
       go_wp2_with (at_builtin;first | (refine Z7 (by rfl) (.tmp 45) (.tmp 48) 23 rfl _ _ _ _ (by first | rfl | simp[Act.eval, *]) (by first | rfl | simp[Act.eval, *]) HR4.out ?_) | (refine Z7 (by rfl) (.tmp 50) (.tmp 55) 23 rfl _ _ _ _ (by first | rfl | simp[Act.eval, *]) (by first | rfl | simp[Act.eval, *]) HR5.out ?_) | (refine Z7 (by rfl) (.tmp 57) (.tmp 60) 23 rfl _ _ _ _ (by first | rfl | simp[Act.eval, *]) (by first | rfl | simp[Act.eval, *]) HR6.out ?_))
       exact⟨⟨i1,_,_,_,rfl,rfl,by rw[←HI1.out.1];exact HI1.out.2,HS⟩,by rw[←HI1.out.1];exact Zk HI1.out.2⟩
      ·have HRd:=hD0 (show Rd 2 Zb z4 (.slice (some ⟨g,0,none⟩) out.length sc) (out.take out.length)∧Rd 2 Zb z4 (.slice (some ⟨g,out.length*2,none⟩) (out.length-out.length) (sc-out.length)) (out.drop out.length) from⟨Z16 (HRO.out.nw HZ.out) (Nat.le_refl _),Z3c (HRO.out.nw HZ.out) (Nat.le_refl _)⟩)
       obtain⟨v4,y4,a5,n5,c5,y5,a6,n6,c6,y6,hr4,hN4,hr5,hN5,hr6,hO6⟩:=Z1z (W:=z4) (W0:=w0) (k:=out.length) ⟨Yq HO.out.own HZ.out,HO.out.nw.trans HZ.out⟩ (Nat.le_trans HOL.out (by decide)) ex ey HRd.out.1 HRd.out.2
       have HS:=hD0 (show OwI w0 (sortE (l.take i1)) (.slice a6 n6 c6) y6 from by
        rw[HSt.out,(V0 HK3.out.1 HK3.out.2.1.lo HNt.out).2 HK3.out.2.2]
        exact hO6)
       have HR4:=hD0 hr4
       have HR5:=hD0 hr5
       have HR6:=hD0 hr6
       obtain⟨x0,x1,x2⟩:=HX.out y4 (HZ.out.trans hN4)
       clear hr4 hr5 hr6 hO6 hN4 hN5
       go_wp2_with (at_builtin;first | (refine Z7 (by rfl) (.tmp 45) (.tmp 48) 23 rfl _ _ _ _ (by first | rfl | simp[Act.eval, *]) (by first | rfl | simp[Act.eval, *]) HR4.out ?_) | (refine Z7 (by rfl) (.tmp 50) (.tmp 55) 23 rfl _ _ _ _ (by first | rfl | simp[Act.eval, *]) (by first | rfl | simp[Act.eval, *]) HR5.out ?_) | (refine Z7 (by rfl) (.tmp 57) (.tmp 60) 23 rfl _ _ _ _ (by first | rfl | simp[Act.eval, *]) (by first | rfl | simp[Act.eval, *]) HR6.out ?_))
       exact⟨⟨i1,_,_,_,rfl,rfl,by rw[←HI1.out.1];exact HI1.out.2,HS⟩,by rw[←HI1.out.1];exact Zk HI1.out.2⟩
  ·obtain rfl:i=n:=Nat.le_antisymm hin (Nat.le_of_not_lt hlt)
   have Zr:¬i<i:=Nat.lt_irrefl i
   have HO:=hD0 (show OwI w0 (sortE l) (.slice sa sb sc) wr from by
    have:=HI.out
    rwa [List.take_of_length_le (by rw[HN.out];exact Nat.le_refl i)] at this)
   clear hlt HI
   go_wp2
   go_ret
   exact⟨_,rfl,HO.out.own,HO.out.nw⟩
theorem Z4c(n:Int):∀(l:List Int) (k:Nat) (h:k<l.length),(∀x∈l.take k,x<n)→l[k]=n→Zs n l=l
 | a::r,0,_,_,e=>by
  simp only[List.getElem_cons_zero] at e
  unfold Zs
  rw[if_neg (by omega),if_pos e]
 | a::r,k+1,h,hlt,e=>by
  have h0:=hlt a (by simp)
  unfold Zs
  rw[if_pos h0,Z4c n r k (by simpa using h) (fun x hx=>hlt x (by simp[hx])) (by simpa using e)]
theorem Z04(n:Int):∀(l:List Int) (k:Nat),k≤l.length→(∀x∈l.take k,x<n)→(∀h:k<l.length,n<l[k])→Zs n l=l.take k++n::l.drop k
 | [],0,_,_,_=>rfl
 | a::r,0,_,_,h=>by
  have h0:=h (by simp)
  simp only[List.getElem_cons_zero] at h0
  unfold Zs
  rw[if_neg (by omega),if_neg (by omega)]
  rfl
 | a::r,k+1,hk,hlt,h=>by
  have h0:=hlt a (by simp)
  unfold Zs
  rw[if_pos h0,Z04 n r k (by simpa using hk) (fun x hx=>hlt x (by simp[hx])) (fun h'=>by have:=h (by simpa using h');simpa using this)]
  rfl
def Yg(x:Int):List Value:=[.int .i64 x]
theorem Yk:Ud prog 25 3 1 8 Yg where
 und:=underlying25
 inf:=by
  have h:(prog.info? 3).map (fun i=>(i.zero,i.size,i.bytes))=some (some (.int .i64 0),1,8):=by kernel_rfl
  cases e:prog.info? 3 with
  | none=>rw[e] at h;cases h
  | some i =>
   rw[e] at h
   simp only[Option.map_some,Option.some.injEq,Prod.mk.injEq] at h
   exact⟨i,_,rfl,h.1,h.2.1,h.2.2,rfl⟩
 pos:=by decide
 byt:=by decide
 len:=fun _=>rfl
 one:=fun a u hu=>by
  simp only[Yg,List.mem_cons,List.not_mem_nil,or_false] at hu
  subst hu;rfl
theorem Z1j:∀l:List Int,Z8 Yg l=l.map (Value.int .i64)
 | []=>rfl
 | a::r=>by
  show Yg a++Z8 Yg r=_
  rw[Z1j r];rfl
theorem IS.own{w:World}{v:Value}{l:List Int}(h:IS w v l):Zt 3 1 Yg w 0 v l:=by
 unfold Zt
 rw[Z1j];exact h
theorem Zt.is{w:World}{g0:Nat}{v:Value}{l:List Int}(h:Zt 3 1 Yg w g0 v l):IS w v l:=by
 unfold Zt at h
 rw[Z1j] at h
 exact Z0k h (fun _ _=>Nat.zero_le _)
abbrev InO(w:World)(g0:Nat)(v:Value)(l:List Int):Prop:=Zt 3 1 Yg w g0 v l
theorem Z80{w:World}{b c k:Nat}{l:List Int}(h:RdC 1 Yg w b 0 l)(hk:k≤l.length)(hc:l.length≤c) :
  ∀j u,(Z8 Yg (l.drop k))[j]?=some u→w.cell? ((if c=k then(⟨b,0,none⟩:Addr) else⟨b,0+k*1,none⟩).add j)=some u:=by
 by_cases e:c=k
 ·intro j u hu
  have:l.drop k=[]:=List.drop_eq_nil_of_le (by omega)
  rw[this] at hu
  simp[Z8] at hu
 ·rw[if_neg e]
  have hp:=h.part k (l.length-k)
  rw[List.take_of_length_le (by simp)] at hp
  exact hp.flat (fun _=>rfl) (by decide)
theorem Zt.none{α:Type}{P:Program}{ST T:TypeId}{sz bytes:Nat}{row:α→List Value}(E:Ud P ST T sz bytes row){w:World}{g0:Nat}{v:Value}{l:List α}(h:Zt T sz row w g0 v l):(Builtin.append_ #[ST,ST] ST #[v,.slice none 0 0]).run P w=.ok v w:=by
 obtain⟨i0,z,hi,_⟩:=E.inf
 exact run_append_owned_none (P:=P) w g0 ST ST T i0 sz E.und hi _ _ _ h
theorem IS.rdc{w:World}{g c:Nat}{l:List Int}(h:IS w (.slice (some ⟨g,0,none⟩) l.length c) l):RdC 1 Yg w g 0 l :=
 ⟨h.glt,fun i hi j u hu=>by
  have hj:j<1:=(List.getElem?_eq_some_iff.1 hu).1
  obtain rfl:j=0:=by omega
  have e:=h.cell i hi
  rw[List.getD_eq_getElem?_getD,List.getElem?_eq_getElem hi] at e
  simp only[Nat.zero_add,Nat.mul_one,Nat.add_zero]
  exact e.trans hu⟩
theorem Z4d{w:World}{g c k:Nat}{l:List Int}(n:Int)(h:IS w (.slice (some ⟨g,0,none⟩) l.length c) l)(hl:l.length≤1000)(hk:k≤l.length) :
  ∃v1 w1 v2 w2 v3 w3,(Builtin.append_ #[25,25] 25 #[.slice (some ⟨w.heap.size,0,none⟩) 0 0,.slice (some ⟨g,0,none⟩) k c]).run prog (w.alloc (.cells #[] 3))=.ok v1 w1 ∧
   (Builtin.append_ #[25,25] 25 #[v1,.slice (some ⟨w1.heap.size,0,none⟩) 1 1]).run prog (w1.alloc (.cells #[.int .i64 n] 3))=.ok v2 w2 ∧
   (Builtin.append_ #[25,25] 25 #[v2,.slice (some (if c=k then⟨g,0,none⟩ else⟨g,0+k*1,none⟩)) (l.length-k) (c-k)]).run prog w2=.ok v3 w3∧InO w3 w.heap.size v3 (l.take k++n::l.drop k)∧Nw w w3:=by
 have hc:=IS.rdc h
 have hcap:=Vq h
 obtain⟨v1,w1,r1,O1,N1⟩:=Yu Yk (w:=w) (v:=.slice (some ⟨g,0,none⟩) k c) (l:=l.take k) ⟨_,c,by rw[List.length_take,Nat.min_eq_left hk],.inr ⟨g,0,rfl,by simpa using hc.part 0 k⟩⟩ (by rw[List.length_take];omega)
 have hNa:Nw w1 (w1.alloc (.cells #[.int .i64 n] 3)):=(Nw.refl w1).alloc _
 have hal:=Z4 w1 (.cells #[.int .i64 n] 3)
 obtain⟨v2,w2,r2,O2,G2,b2,_⟩:=Zt.push Yk (Yq O1 hNa) n w1.heap.size 1 (fun j u hu=>by
  rw[Z2 hal]
  simpa [Yg] using hu) (by rw[List.length_take];omega) (Nat.le_trans N1.sz hNa.sz)
 have N2:Nw w w2:=(N1.trans hNa).gro G2 (fun k hk=>Vg O1 hk)
 obtain⟨v3,w3,r3,O3,G3,b3⟩:=Zt.many Yk O2 (l.drop k) _ (c-k) (Z80 (hc.nw N2) hk hcap) (by simp;omega) N2.sz
 have N3:=N2.gro G3 (fun k hk=>Vg O2 hk)
 rw[List.length_drop] at r3
 exact⟨v1,w1,v2,w2,v3,w3,r1,r2,r3,(show l.take k++[n]++l.drop k=l.take k++n::l.drop k by simp)▸O3,N3⟩
theorem Z88(w:World)(n:Int) :
  ∃v1 w1 v2 w2,(Builtin.append_ #[25,25] 25 #[.slice (some ⟨w.heap.size,0,none⟩) 0 0,.slice none 0 0]).run prog (w.alloc (.cells #[] 3))=.ok v1 w1 ∧
   (Builtin.append_ #[25,25] 25 #[v1,.slice (some ⟨w1.heap.size,0,none⟩) 1 1]).run prog (w1.alloc (.cells #[.int .i64 n] 3))=.ok v2 w2 ∧
   (Builtin.append_ #[25,25] 25 #[v2,.slice none 0 0]).run prog w2=.ok v2 w2∧InO w2 w.heap.size v2 [n]∧Nw w w2:=by
 obtain⟨v1,w1,r1,O1,N1⟩:=Yu Yk (w:=w) (Rd.nil (sz:=1) (row:=Yg) w) (by simp)
 have hNa:Nw w1 (w1.alloc (.cells #[.int .i64 n] 3)):=(Nw.refl w1).alloc _
 have hal:=Z4 w1 (.cells #[.int .i64 n] 3)
 obtain⟨v2,w2,r2,O2,G2,b2,_⟩:=Zt.push Yk (Yq O1 hNa) n w1.heap.size 1 (fun j u hu=>by
  rw[Z2 hal]
  simpa [Yg] using hu) (by simp) (Nat.le_trans N1.sz hNa.sz)
 exact⟨v1,w1,v2,w2,r1,r2,Zt.none Yk O2,O2,(N1.trans hNa).gro G2 (fun k hk=>Vg O1 hk)⟩
theorem Z6t(n:Int)(v:Value)(l:List Int)(w:World)(hl:l.length≤1000){g0:Nat}(hO:InO w g0 v l)(hg0:g0≤w.heap.size) :
  Calls prog 37 #[v,.int .i64 n] w fun e w'=>∃v',e=.returned v'∧Nw w w'∧InO w' g0 v' (Zs n l):=by
 have h:=Zt.is hO
 have HOw:=hD0 (aI0 hO hg0)
 clear hO hg0
 rcases h.form with⟨rfl,rfl⟩ | ⟨g,c,rfl⟩
 ·obtain⟨v1,w1,v2,w2,r1,r2,r3,hI,hN⟩:=Z88 w n
  have HR1:=hD0 r1
  have HR2:=hD0 r2
  have HR3:=hD0 r3
  have HX:=hD0 (aI0 hN (show InO w2 g0 v2 [n] from Z0k hI (fun b e=>Nat.le_trans HOw.out.2 (Vg hI e))))
  clear r1 r2 r3 hI hN
  go_enter func37,ntmps37
  go_wp2
  refine wp_loop_rounds 1 ?_
  repeat (rw[rounds_succ];go_wp2_with (at_builtin;(first | (refine Z7 (by rfl) (.tmp 34) (.tmp 37) 25 rfl _ _ _ _ rfl rfl HR1.out ?_) | (refine Z7 (by rfl) (.tmp 39) (.tmp 41) 25 rfl _ _ _ _ rfl rfl HR2.out ?_) | (refine Z7 (by rfl) (.tmp 43) (.tmp 46) 25 rfl _ _ _ _ rfl rfl HR3.out ?_))))
  go_ret
  exact⟨_,rfl,HX.out.1,HX.out.2⟩
 ·have HC:=hD0 h.rdc
  have HI:=hD0 h
  clear h
  go_enter func37,ntmps37
  go_wp2
  go_loopw [5] (fun i wr=>∃k:Nat,k≤l.length∧i=.int .i64 k∧(∀x∈l.take k,x<n)∧Nw w wr) (fun i _=>l.length-(intOf i).toNat)
  case atStart=>exact⟨0,Nat.zero_le _,rfl,by simp,Nw.refl _⟩
  case round =>
   obtain⟨k,hk,rfl,hf,hG⟩:=hrel
   have HG:=hD0 hG
   clear hG
   by_cases hlt:k<l.length
   ·have hce:=(HC.out.nw HG.out).cell k hlt 0 _ rfl
    simp only[Nat.zero_add,Nat.mul_one,Nat.add_zero] at hce
    have HS:=hD0 (show l[k]<n→∀x∈l.take (k+1),x<n from fun e x hx=>by
     rcases Z78 hlt hx with h | rfl
     ·exact hf x h
     ·exact e)
    have HEq:=hD0 (show l[k]=n→Zs n l=l from fun e=>Z4c n l k hlt hf e)
    have HIn:=hD0 (show n<l[k]→Zs n l=l.take k++n::l.drop k from fun e=>Z04 n l k hk hf (fun _=>e))
    clear hf
    generalize l[k]=x at *
    by_cases hx:x<n
    ·have d:decide (x<n)=true:=decide_eq_true hx
     have HS2:=hD0 (HS.out hx)
     clear HS HEq HIn hx
     go_wp2
     go_roundw
     case rel=>exact⟨k+1,by omega,by go_num,HS2.out,HG.out⟩
     case measure=>simp[intOf];omega
    ·have d:decide (x<n)=false:=decide_eq_false hx
     by_cases he:x=n
     ·have d2:(x==n)=true:=by simpa using he
      have HPut:=hD0 (HEq.out he)
      clear HS HEq HIn hx he
      go_wp2
      go_ret
      exact⟨_,rfl,HG.out,by rw[HPut.out];exact Yq HOw.out.1 HG.out⟩
     ·have d2:(x==n)=false:=by simpa using he
      have HPut:=hD0 (HIn.out (by omega))
      clear HS HEq HIn hx he
      obtain⟨v1,w1,v2,w2,v3,w3,r1,r2,r3,hI3,hN3⟩:=Z4d n (HI.out.nw HG.out) hl hk
      rw[if_neg (by have:=Vq HI.out;omega)] at r3
      simp only[Nat.zero_add,Nat.mul_one] at r3
      have HR1:=hD0 r1
      have HR2:=hD0 r2
      have HR3:=hD0 r3
      have hcap:=Vq HI.out
      have HX:=hD0 (aI0 (HG.out.trans hN3) (show InO w3 g0 v3 _ from Z0k hI3 (fun b e=>Nat.le_trans HOw.out.2 (Nat.le_trans HG.out.sz (Vg hI3 e)))))
      have k1:k≤c:=by omega
      have k2:(k:Int)≤(c:Int):=by omega
      have k3:(k:Int)≤(l.length:Int):=by omega
      have k4:((l.length:Int)-(k:Int)).toNat=l.length-k:=by omega
      have k5:((c:Int)-(k:Int)).toNat=c-k:=by omega
      have k6:(l.length:Int)≤(c:Int):=by omega
      clear r1 r2 r3 hI3 hN3
      go_wp2_with (at_builtin;(first | (refine Z7 (by rfl) (.tmp 34) (.tmp 37) 25 rfl _ _ _ _ rfl rfl HR1.out ?_) | (refine Z7 (by rfl) (.tmp 39) (.tmp 41) 25 rfl _ _ _ _ rfl rfl HR2.out ?_) | (refine Z7 (by rfl) (.tmp 43) (.tmp 46) 25 rfl _ _ _ _ rfl rfl HR3.out ?_)))
      go_ret
      exact⟨_,rfl,HX.out.1,by rw[HPut.out];exact HX.out.2⟩
   ·obtain rfl:k=l.length:=by omega
    have HPut:=hD0 (Z04 n l l.length hk hf (fun h=>absurd h (Nat.lt_irrefl _)))
    clear hf
    obtain⟨v1,w1,v2,w2,v3,w3,r1,r2,r3,hI3,hN3⟩:=Z4d n (HI.out.nw HG.out) hl hk
    rw[show(some (if c=l.length then(⟨g,0,none⟩:Addr) else⟨g,0+l.length*1,none⟩))=(if c=l.length then some (⟨g,0,none⟩:Addr)else some ⟨g,l.length,none⟩) from by rw[Nat.zero_add,Nat.mul_one];split<;>rfl,Nat.sub_self] at r3
    have HR1:=hD0 r1
    have HR2:=hD0 r2
    have HR3:=hD0 r3
    have hcap:=Vq HI.out
    have HX:=hD0 (aI0 (HG.out.trans hN3) (show InO w3 g0 v3 _ from Z0k hI3 (fun b e=>Nat.le_trans HOw.out.2 (Nat.le_trans HG.out.sz (Vg hI3 e)))))
    have k1:l.length≤c:=by omega
    have k2:(l.length:Int)≤(c:Int):=by omega
    have k3:(l.length:Int)≤(l.length:Int):=by omega
    have k4:((l.length:Int)-(l.length:Int)).toNat=l.length -l.length:=by omega
    have k5:((c:Int)-(l.length:Int)).toNat=c -l.length:=by omega
    have k6:(l.length:Int)≤(c:Int):=by omega
    clear r1 r2 r3 hI3 hN3
    go_wp2_with (at_builtin;(first | (refine Z7 (by rfl) (.tmp 34) (.tmp 37) 25 rfl _ _ _ _ rfl rfl HR1.out ?_) | (refine Z7 (by rfl) (.tmp 39) (.tmp 41) 25 rfl _ _ _ _ rfl rfl HR2.out ?_) | (refine Z7 (by rfl) (.tmp 43) (.tmp 46) 25 rfl _ _ _ _ rfl rfl HR3.out ?_)))
    all_goals (go_ret;exact⟨_,rfl,HX.out.1,by rw[HPut.out];exact HX.out.2⟩)
theorem Zag(n:Int)(v:Value)(l:List Int)(w:World)(hl:l.length≤1000)(h:IS w v l) :
  Calls prog 37 #[v,.int .i64 n] w fun e w'=>∃v',e=.returned v'∧Nw w w'∧IS w' v' (Zs n l) :=
 (Z6t n v l w hl h.own (Nat.zero_le _)).mono fun e w' hx=>by
  obtain⟨v',h1,h2,h3⟩:=hx
  exact⟨v',h1,h2,Zt.is h3⟩
end Go.Proofs.YtobnolgphljoeaaGreat
