/- Texts merged: WeB, WeG, VaP, WcD, WcE, WcH -/
import Derived.Test.YtbnpnccpobkodaaGreatVictimCallsB8
set_option linter.unusedVariables false
set_option maxRecDepth 100000
set_option maxHeartbeats 16000000
namespace Go.Proofs.YtbnpnccpobkodaaGreat
open Go.RowKit _root_.Go.Proofs.Tryz
structure OwI(W0:World)(out:List (Int × Int))(v:Value)(w:World):Prop where
 own:Z9 w W0.heap.size v out
 nw:Nw W0 w
theorem Zac{W0 wr:World}{v:Value}{out:List (Int × Int)}(h:OwI W0 out v wr)(hl:out.length≤90000)(ex ey:Int) :
  ∃ga cc w6,(Builtin.append_ #[22,22] 22 #[v,.slice (some ⟨wr.heap.size,0,none⟩) 1 1]).run prog (wr.alloc (.cells #[.int .i64 ex,.int .i64 ey] 36))=.ok (.slice (some ⟨ga,0,none⟩) (out.length+1) cc) w6∧OwI W0 (out++[(ex,ey)]) (.slice (some ⟨ga,0,none⟩) (out.length+1) cc) w6:=by
 have hal6:=Z4 wr (.cells #[.int .i64 ex,.int .i64 ey] 36)
 have g6:Nw wr (wr.alloc (.cells #[.int .i64 ex,.int .i64 ey] 36)):=(Nw.refl wr).alloc _
 obtain⟨v',w6,hr6,hO6,hg6,_,ga6,cc6,rfl⟩:=Zu.push Y6 (Yo h.own g6) (ex,ey) wr.heap.size 1 (fun j u hu=>by
  rw[Z2 hal6]
  simpa [Zc] using hu) (by omega) (h.nw.trans g6).sz
 exact⟨ga6,cc6,w6,hr6,hO6,(h.nw.trans g6).gro hg6 (fun b e=>Va h.own e)⟩
theorem Z27{w0:World}{v:Value}{l:List (Int × Int)}(h:Zk w0 v l)(hl:l.length≤1000)(t:Int) :
  Calls prog 23 #[v,.int .i64 t] w0 fun e w'=>∃v',e=.returned v'∧Z9 w' w0.heap.size v' (Zj l t)∧Nw w0 w':=by
 obtain⟨a,c,rfl,hd⟩:=h
 have HD:=hD0 hd
 obtain⟨n,hn⟩:∃n,l.length=n:=⟨_,rfl⟩
 have HN:=hD0 hn
 rw[hn] at hl ⊢
 clear hd hn
 go_enter func23,ntmps23
 go_wp2_with fail
 go_loopw [5,6] (fun v5 v6 wr=>∃(k:Nat) (a:Option Addr) (b c:Nat),v5=.slice a b c∧v6=.int .i64 k∧k≤n∧Hid (OwI w0 (Zj (l.take k) t) (.slice a b c) wr)) (fun _ v6 _=>n-(intOf v6).toNat)
 case atStart=>exact⟨0,none,0,0,rfl,rfl,Nat.zero_le _,hD0 ⟨World.ownsRow_nil _ _ _ _,Nw.refl _⟩⟩
 case round =>
  obtain⟨k,sa,sb,sc,rfl,rfl,hkn,HI⟩:=hrel
  by_cases hlt:k<n
  ·have hkl:k<l.length:=by rw[HN.out];exact hlt
   rcases HD.out with⟨q,_⟩ | ⟨eb,eo,rfl,hrc⟩
   ·rw[q] at hkl;simp at hkl
   have hrw:=hrc.nw HI.out.nw
   obtain⟨x0,x1⟩:=hrw.eg hkl
   have hebl:=hrw.lt
   have HDr:=hD0 (Z40 (t:=t) hkl)
   have hdl:(Zj (l.take k) t).length≤90000:=Nat.le_trans (List.length_filter_le _ _) (Nat.le_trans (List.length_take_le _ _) (by omega))
   obtain⟨s,hs⟩:∃s,l[k]=s:=⟨_,rfl⟩
   simp only[hs] at x0 x1 HDr
   obtain⟨ex,ey⟩:=s
   simp only at x0 x1 HDr
   have HDl:=hD0 hdl
   have Zr:=Zp hlt
   have hw:=Zo k (k+1) (by omega) rfl
   obtain⟨k1,hk1⟩:∃m,k+1=m:=⟨_,rfl⟩
   have HK1:=hD0 (aI0 hk1 hlt)
   rw[hk1] at hw HDr
   clear hk1 hkl hrc hrw hlt hs hdl
   by_cases e1:ex=t
   ·have d1:(ex != t)=false:=by simp[e1]
    have d2:(ex==t)=true:=by simp[e1]
    have HS:=hD0 (show OwI w0 (Zj (l.take k1) t) (.slice sa sb sc) wr from by
     rw[HDr.out,if_neg (fun q=>q.1 e1),List.append_nil];exact HI.out)
    clear e1 HI
    go_wp2_with fail
    exact⟨⟨k1,sa,sb,sc,rfl,rfl,by rw[←HK1.out.1];exact HK1.out.2,HS⟩,by rw[←HK1.out.1];exact Zh HK1.out.2⟩
   ·have d1:(ex != t)=true:=by simp[e1]
    have d2:(ex==t)=false:=by simp[e1]
    by_cases e2:ey=t
    ·have d3:(ey != t)=false:=by simp[e2]
     have d4:(ey==t)=true:=by simp[e2]
     have HS:=hD0 (show OwI w0 (Zj (l.take k1) t) (.slice sa sb sc) wr from by
      rw[HDr.out,if_neg (fun q=>q.2 e2),List.append_nil];exact HI.out)
     clear e1 e2 HI
     go_wp2_with fail
     exact⟨⟨k1,sa,sb,sc,rfl,rfl,by rw[←HK1.out.1];exact HK1.out.2,HS⟩,by rw[←HK1.out.1];exact Zh HK1.out.2⟩
    ·have d3:(ey != t)=true:=by simp[e2]
     have d4:(ey==t)=false:=by simp[e2]
     obtain⟨ga,cc,w6,hr6,hO6⟩:=Zac HI.out HDl.out ex ey
     have HS:=hD0 (show OwI w0 (Zj (l.take k1) t) (.slice (some ⟨ga,0,none⟩) ((Zj (l.take k) t).length+1) cc) w6 from by
      rw[HDr.out,if_pos ⟨e1,e2⟩];exact hO6)
     have HR6:=hD0 hr6
     clear e1 e2 hr6 hO6 HI
     go_wp2_with (at_builtin;refine Z6 (by rfl) (.tmp 29) (.tmp 34) 22 rfl _ _ _ _ rfl rfl HR6.out ?_)
     exact⟨⟨k1,some ⟨ga,0,none⟩,_,cc,rfl,rfl,by rw[←HK1.out.1];exact HK1.out.2,HS⟩,by rw[←HK1.out.1];exact Zh HK1.out.2⟩
  ·obtain rfl:k=n:=Nat.le_antisymm hkn (Nat.le_of_not_lt hlt)
   have Zr:¬k<k:=Nat.lt_irrefl k
   have HO:=hD0 (show OwI w0 (Zj l t) (.slice sa sb sc) wr from by
    have:=HI.out
    rwa [List.take_of_length_le (by rw[HN.out];exact Nat.le_refl k)] at this)
   clear hlt HI
   go_wp2
   go_ret
   exact⟨_,rfl,HO.out.own,HO.out.nw⟩
theorem Z1u{w:World}{g k c:Nat}{l:List (Int × Int)}(h:RdC 2 Zc w g 0 l)(hk:k≤l.length):Rd 2 Zc w (.slice (some ⟨g,0,none⟩) k c) (l.take k):=by
 refine⟨_,c,by rw[List.length_take,Nat.min_eq_left hk],.inr ⟨g,0,rfl,?_⟩⟩
 have:=h.part 0 k
 simpa using this
theorem Z41{w:World}{g k c:Nat}{l:List (Int × Int)}(h:RdC 2 Zc w g 0 l)(hk:k≤l.length):Rd 2 Zc w (.slice (some ⟨g,k*2,none⟩) (l.length-k) c) (l.drop k):=by
 refine⟨_,c,by rw[List.length_drop],.inr ⟨g,k*2,rfl,?_⟩⟩
 have:=h.part k (l.length-k)
 rw[List.take_of_length_le (by rw[List.length_drop];omega)] at this
 simpa using this
theorem Zb9{z:World}{g o c k:Nat}{l:List (Int × Int)}(hk:l.length≤k):Rd 2 Zc z (.slice (some ⟨g,o,none⟩) (l.length-k) c) (l.drop k) :=
 ⟨_,c,by rw[List.length_drop],.inl ⟨List.drop_eq_nil_of_le hk,fun q=>by cases q⟩⟩
theorem Z9.rdc{w:World}{g0 g n c:Nat}{l:List (Int × Int)}(h:Z9 w g0 (.slice (some ⟨g,0,none⟩) n c) l):RdC 2 Zc w g 0 l:=by
 obtain⟨a,c',e,⟨e2,_⟩ | ⟨b,o,e2,hc⟩⟩:=Z9.at_ h
 ·subst e2
  exact⟨Ut h rfl,fun i hi=>by simp at hi⟩
 ·subst e2
  simp only[Value.slice.injEq,Option.some.injEq,Addr.mk.injEq] at e
  obtain⟨⟨rfl,rfl,_⟩,_,_⟩:=e
  exact hc
theorem Z2n{W W0:World}{v:Value}{out:List (Int × Int)}(h:OwI W0 out v W)(hl:out.length≤50000){k:Nat}(ex ey:Int){v1 v2:Value}(h1:Rd 2 Zc W v1 (out.take k))(h2:Rd 2 Zc W v2 (out.drop k)) :
  ∃v4 w4 a5 n5 c5 w5 a6 n6 c6 w6,(Builtin.append_ #[22,22] 22 #[.slice (some ⟨W.heap.size,0,none⟩) 0 0,v1]).run prog (W.alloc (.cells #[] 36))=.ok v4 w4∧Nw W w4 ∧
   (Builtin.append_ #[22,22] 22 #[v4,.slice (some ⟨w4.heap.size,0,none⟩) 1 1]).run prog (w4.alloc (.cells #[.int .i64 ex,.int .i64 ey] 36))=.ok (.slice a5 n5 c5) w5∧Nw W w5 ∧
   (Builtin.append_ #[22,22] 22 #[.slice a5 n5 c5,v2]).run prog w5=.ok (.slice a6 n6 c6) w6 ∧
   OwI W0 (out.take k++(ex,ey)::out.drop k) (.slice a6 n6 c6) w6:=by
 have htk:(out.take k).length≤out.length:=by rw[List.length_take];omega
 have hdl:(out.take k).length+(out.drop k).length=out.length:=by rw[←List.length_append,List.take_append_drop]
 obtain⟨v4,w4,hr4,hO4,hN4⟩:=Yp Y6 h1 (by omega)
 obtain⟨y,hy⟩:∃y,w4.alloc (.cells #[.int .i64 ex,.int .i64 ey] 36)=y:=⟨_,rfl⟩
 have hal:=Z4 w4 (.cells #[.int .i64 ex,.int .i64 ey] 36)
 have gy:Nw w4 y:=by rw[←hy];exact(Nw.refl w4).alloc _
 rw[hy] at hal
 have hs4:=hN4.sz
 have hsy:=gy.sz
 obtain⟨v5,w5,hr5,hO5,hg5,_,g5,c5,hv5⟩:=Zu.push Y6 (Yo hO4 gy) (ex,ey) w4.heap.size 1 (fun j u hu=>by
  rw[Z2 hal]
  simpa [Zc] using hu) (by omega) (by omega)
 subst hv5
 have hN5:Nw W w5:=(hN4.trans gy).gro hg5 (fun b hb=>Va hO4 hb)
 obtain⟨v6,w6,hr6,hO6,hg6,_⟩:=Z39 Y6 hO5 (h2.nw hN5) (by rw[List.length_append,List.length_singleton];omega) hN5.sz
 have hN6:Nw W w6:=hN5.gro hg6 (fun b hb=>Va hO5 hb)
 have he:out.take k++[(ex,ey)]++out.drop k=out.take k++(ex,ey)::out.drop k:=by simp
 rw[he] at hO6
 obtain⟨a6,c6,hv6,_⟩:=Zu.rd Y6.len hO6
 subst hv6
 exact⟨v4,w4,_,_,c5,w5,a6,_,c6,w6,hr4,hN4,by rw[hy];exact hr5,hN5,hr6,Us hO6 (fun b hb=>Nat.le_trans h.nw.sz (Va hO6 hb)),h.nw.trans hN6⟩
theorem Zbo{m n c:Nat}(h:m≤n)(hc:n≤c):m≤c∧(m:Int)≤(c:Int)∧(n:Int)≤(c:Int)∧(m:Int)≤(n:Int)∧((n:Int)-(m:Int)).toNat=n-m:=by omega
structure SrK(out:List (Int × Int))(x:Int × Int)(k:Nat):Prop where
 lo:∀j,(h:j<out.length)→j<k→V3 out[j] x
theorem SrK.succ{out:List (Int × Int)}{x:Int × Int}{k:Nat}(h:SrK out x k)(hk:k<out.length)(e:V3 out[k] x):SrK out x (k+1) :=
 ⟨fun j hj q=>(Nat.lt_or_ge j k).elim (fun q=>h.lo j hj q) (fun q=>by
  obtain rfl:j=k:=by omega
  exact e)⟩
theorem Up{w0:World}{v:Value}{l:List (Int × Int)}(h:Zk w0 v l)(hl:l.length≤2000) :
  Calls prog 43 #[v] w0 fun e w'=>∃v',e=.returned v'∧Z9 w' w0.heap.size v' (sortE l)∧Nw w0 w':=by
 obtain⟨a,c,rfl,hd⟩:=h
 have HD:=hD0 hd
 obtain⟨n,hn⟩:∃n,l.length=n:=⟨_,rfl⟩
 have HN:=hD0 hn
 have HSn:=hD0 (fun k=>Nat.le_trans (V1 (l.take k)) (show(l.take k).length≤l.length by rw[List.length_take];omega))
 rw[hn] at hl ⊢
 clear hd hn
 go_enter func43,ntmps43
 go_wp2_with fail
 go_loopw [3,4] (fun v3 v4 wr=>∃(k:Nat) (a:Option Addr) (b c:Nat),v3=.slice a b c∧v4=.int .i64 k∧k≤n∧Hid (OwI w0 (sortE (l.take k)) (.slice a b c) wr)) (fun _ v4 _=>n-(intOf v4).toNat)
 case atStart=>exact⟨0,none,0,0,rfl,rfl,Nat.zero_le _,hD0 ⟨World.ownsRow_nil _ _ _ _,Nw.refl _⟩⟩
 case round =>
  obtain⟨i,sa,sb,sc,rfl,rfl,hin,HI⟩:=hrel
  by_cases hlt:i<n
  ·have hil:i<l.length:=by rw[HN.out];exact hlt
   rcases HD.out with⟨q,_⟩ | ⟨eb,eo,rfl,hrc⟩
   ·rw[q] at hil;simp at hil
   have hrw:=hrc.nw HI.out.nw
   obtain⟨x0,x1⟩:=hrw.eg hil
   have hebl:=hrw.lt
   have HSt:=hD0 (Z4f hil)
   obtain⟨s,hs⟩:∃s,l[i]=s:=⟨_,rfl⟩
   simp only[hs] at x0 x1 HSt
   obtain⟨ex,ey⟩:=s
   simp only at x0 x1 HSt
   obtain⟨out,hout⟩:∃out,sortE (l.take i)=out:=⟨_,rfl⟩
   have holen:out.length≤2000:=by
    have:=HSn.out i
    rw[hout,HN.out] at this
    omega
   rw[hout] at HI HSt
   have Zr:=Zp hlt
   have hw:=Zo i (i+1) (by omega) rfl
   obtain⟨i1,hi1⟩:∃m,i+1=m:=⟨_,rfl⟩
   have HI1:=hD0 (aI0 hi1 hlt)
   rw[hi1] at hw HSt
   have HO:=hD0 HI.out
   have HOL:=hD0 holen
   have hrcE:=hD0 hrw
   clear hi1 hil hrc hrw hlt hs hout holen
   have HX:=hD0 (show ∀z,Nw wr z→z.cell? ⟨eb,eo+i*2,none⟩=some (.int .i64 ex)∧z.cell? ⟨eb,eo+i*2+1,none⟩=some (.int .i64 ey)∧eb<z.heap.size from fun z g=>⟨g.kp x0,g.kp x1,lL0 hebl g.sz⟩)
   clear x0 x1 hebl
   rcases Ve HI.out.own with⟨e,hz⟩ | ⟨g,cap,e⟩
   ·obtain rfl:out=[]:=List.length_eq_zero_iff.1 hz
    simp only[Value.slice.injEq] at e
    obtain⟨rfl,rfl,rfl⟩:=e
    generalize wr=w4 at *
    clear HI hz
    go_wp2_with fail
    go_loopw [5] (fun nv y=>nv=.int .i64 0∧Hid (Nw w4 y)) (fun _ _=>0)
    case atStart=>exact⟨rfl,Nw.refl _⟩
    case round =>
     obtain⟨rfl,HM⟩:=hrel
     go_wp2_with fail
     refine Zv (fun y=>Nw wr y) (by kernel_rfl) (by kernel_rfl) (Nw.refl _).dr ?_
     have hne:Nonempty (Wd (fun y=>Nw wr y)):=⟨⟨_,Nw.refl wr⟩⟩
     repeat (first | go_big_quiet_step (fail) | quiet_step (fail))
     refine wpQuiet_nil ?_
     intro d
     have HZn:=hD0 (HM.out.trans d.h)
     clear hne
     revert HZn
     generalize d.w=z3
     intro HZ
     clear d
     go_wp2_with fail
     refine Zv (fun y=>Nw z3 y) (by kernel_rfl) (by kernel_rfl) (Nw.refl _).dr ?_
     have hne:Nonempty (Wd (fun y=>Nw z3 y)):=⟨⟨_,Nw.refl z3⟩⟩
     repeat (first | go_big_quiet_step (fail) | quiet_step (fail))
     refine wpQuiet_nil ?_
     intro d
     have HZn:=hD0 (HZ.out.trans d.h)
     clear hne
     revert HZn
     generalize d.w=z4
     intro HZ
     clear d
     have HK3:=hD0 (aI0 (show(0:Nat)≤([]:List (Int × Int)).length from Nat.le_refl _) (aI0 (show SrK [] (ex,ey) 0 from⟨fun j hj=>by simp at hj⟩) (show ¬∃h:0<([]:List (Int × Int)).length,([]:List (Int × Int))[0]=(ex,ey) from fun⟨h,_⟩=>by simp at h)))
     have HRd:=hD0 (show Rd 2 Zc z4 (.slice none 0 0) (([]:List (Int × Int)).take 0)∧Rd 2 Zc z4 (.slice none 0 0) (([]:List (Int × Int)).drop 0) from⟨by rw[List.take_nil];exact Rd.nil z4,by rw[List.drop_nil];exact Rd.nil z4⟩)
     have HNt:=hD0 (show ∀h:0<([]:List (Int × Int)).length,¬V3 ([]:List (Int × Int))[0] (ex,ey) from fun h=>by simp at h)
     obtain⟨v4,y4,a5,n5,c5,y5,a6,n6,c6,y6,hr4,hN4,hr5,hN5,hr6,hO6⟩:=Z2n (W:=z4) (W0:=w0) (k:=0) ⟨Yo HO.out.own HZ.out,HO.out.nw.trans HZ.out⟩ (Nat.le_trans HOL.out (by decide)) ex ey HRd.out.1 HRd.out.2
     have HS:=hD0 (show OwI w0 (sortE (l.take i1)) (.slice a6 n6 c6) y6 from by
      rw[HSt.out,(V6 HK3.out.1 HK3.out.2.1.lo HNt.out).2 HK3.out.2.2]
      exact hO6)
     have HR4:=hD0 hr4
     have HR5:=hD0 hr5
     have HR6:=hD0 hr6
     obtain⟨x0,x1,x2⟩:=HX.out y4 (HZ.out.trans hN4)
     clear hr4 hr5 hr6 hO6 hN4 hN5
     go_wp2_with (at_builtin;first | (refine Z6 (by rfl) (.tmp 45) (.tmp 48) 22 rfl _ _ _ _ (by first | rfl | simp[Act.eval, *]) (by first | rfl | simp[Act.eval, *]) HR4.out ?_) | (refine Z6 (by rfl) (.tmp 50) (.tmp 55) 22 rfl _ _ _ _ (by first | rfl | simp[Act.eval, *]) (by first | rfl | simp[Act.eval, *]) HR5.out ?_) | (refine Z6 (by rfl) (.tmp 57) (.tmp 60) 22 rfl _ _ _ _ (by first | rfl | simp[Act.eval, *]) (by first | rfl | simp[Act.eval, *]) HR6.out ?_))
     exact⟨⟨i1,_,_,_,rfl,rfl,by rw[←HI1.out.1];exact HI1.out.2,HS⟩,by rw[←HI1.out.1];exact Zh HI1.out.2⟩
   ·simp only[Value.slice.injEq] at e
    obtain⟨rfl,rfl,rfl⟩:=e
    have hcap:out.length≤sc:=Vw HI.out.own
    have HRO:=hD0 (Z9.rdc HI.out.own)
    have hgl:g<wr.heap.size:=Ut HI.out.own rfl
    generalize wr=w4 at *
    clear HI
    go_wp2_with fail
    go_loopw [5] (fun nv y=>∃m:Nat,nv=.int .i64 m∧m≤out.length∧Hid (SrK out (ex,ey) m∧Nw w4 y)) (fun nv _=>out.length-(intOf nv).toNat)
    case atStart=>exact⟨0,rfl,Nat.zero_le _,⟨⟨fun j _ q=>absurd q (Nat.not_lt_zero _)⟩,Nw.refl _⟩⟩
    case round =>
     obtain⟨m,rfl,hmm,HM⟩:=hrel
     have hg3:=lL0 hgl HM.out.2.sz
     obtain⟨hm1,hm2,hm3,hm4,hm5⟩:=Zbo hmm hcap
     by_cases hml:m<out.length
     ·obtain⟨p0,p1⟩:=(HRO.out.nw HM.out.2).eg hml
      rw[Nat.zero_add] at p0 p1
      have hml':=Zp hml
      have hwm:=Zo m (m+1) (by have:=HOL.out;omega) rfl
      obtain⟨m1,hm1'⟩:∃x,m+1=x:=⟨_,rfl⟩
      have HM1:=hD0 (aI0 hm1' hml)
      rw[hm1'] at hwm
      have HLs:=hD0 (fun w=>Z66 (w0:=w) out[m] (ex,ey))
      have HEq:=hD0 (show ∀y,out[m]=y→∃h:m<out.length,out[m]=y from fun y e=>⟨hml,e⟩)
      obtain⟨s,hs⟩:∃s,out[m]=s:=⟨_,rfl⟩
      have HSm:=hD0 (show ∃h:m<out.length,out[m]=s from⟨hml,hs⟩)
      simp only[hs] at p0 p1 HLs
      obtain⟨s0,s1⟩:=s
      simp only at p0 p1
      clear hs hm1' HEq hml
      by_cases he:V3 (s0,s1) (ex,ey)
      ·rw[decide_eq_true he] at HLs
       go_wp2_with fail
       obtain⟨x0,x1,x2⟩:=HX.out wr HM.out.2
       refine Zv (fun y=>Nw wr y) (by kernel_rfl) (by kernel_rfl) (Nw.refl _).dr ?_
       have d0:∀d:Wd (fun y=>Nw wr y),d.w.cell? _=_:=fun d=>d.h.kp p0
       have d1:∀d:Wd (fun y=>Nw wr y),d.w.cell? _=_:=fun d=>d.h.kp p1
       have d2:∀d:Wd (fun y=>Nw wr y),d.w.cell? _=_:=fun d=>d.h.kp x0
       have d3:∀d:Wd (fun y=>Nw wr y),d.w.cell? _=_:=fun d=>d.h.kp x1
       have hne:Nonempty (Wd (fun y=>Nw wr y)):=⟨⟨_,Nw.refl wr⟩⟩
       repeat (first | go_big_quiet_step ((exact Vf (fun a b h g=>h.trans g) (HLs.out _))) | quiet_step ((exact Vf (fun a b h g=>h.trans g) (HLs.out _))))
       refine wpQuiet_nil ?_
       intro d
       have HZn:=hD0 (HM.out.2.trans d.h)
       clear hne d0 d1 d2 d3
       revert HZn
       generalize d.w=z3
       intro HZ
       clear d
       clear x0 x1 x2
       have HE:=hD0 (show SrK out (ex,ey) m1∧Nw w4 z3 from⟨by
        obtain⟨h1,h2⟩:=HSm.out
        rw[←HM1.out.1]
        exact HM.out.1.succ h1 (by rw[h2];exact he),HZ.out⟩)
       clear HM HZ he
       go_wp2_with fail
       exact⟨⟨m1,rfl,by rw[←HM1.out.1];exact HM1.out.2,HE.out⟩,by rw[←HM1.out.1];exact Zh HM1.out.2⟩
      ·rw[decide_eq_false he] at HLs
       have HNt:=hD0 (show ∀h:m<out.length,¬V3 out[m] (ex,ey) from fun h=>by
        obtain⟨h1,h2⟩:=HSm.out
        rw[h2];exact he)
       clear he
       go_wp2_with fail
       obtain⟨x0,x1,x2⟩:=HX.out wr HM.out.2
       refine Zv (fun y=>Nw wr y) (by kernel_rfl) (by kernel_rfl) (Nw.refl _).dr ?_
       have d0:∀d:Wd (fun y=>Nw wr y),d.w.cell? _=_:=fun d=>d.h.kp p0
       have d1:∀d:Wd (fun y=>Nw wr y),d.w.cell? _=_:=fun d=>d.h.kp p1
       have d2:∀d:Wd (fun y=>Nw wr y),d.w.cell? _=_:=fun d=>d.h.kp x0
       have d3:∀d:Wd (fun y=>Nw wr y),d.w.cell? _=_:=fun d=>d.h.kp x1
       have hne:Nonempty (Wd (fun y=>Nw wr y)):=⟨⟨_,Nw.refl wr⟩⟩
       repeat (first | go_big_quiet_step ((exact Vf (fun a b h g=>h.trans g) (HLs.out _))) | quiet_step ((exact Vf (fun a b h g=>h.trans g) (HLs.out _))))
       refine wpQuiet_nil ?_
       intro d
       have HZn:=hD0 (HM.out.2.trans d.h)
       clear hne d0 d1 d2 d3
       revert HZn
       generalize d.w=z3
       intro HZ
       clear d
       clear x0 x1 x2
       by_cases hq0:s0=ex
       ·subst hq0
        by_cases hq1:s1=ey
        ·subst hq1
         go_wp2_with fail
         obtain⟨q0,q1⟩:=(HRO.out.nw HZ.out).eg HSm.out.1
         rw[HSm.out.2,Nat.zero_add] at q0 q1
         simp only at q0 q1
         obtain⟨x0,x1,x2⟩:=HX.out z3 HZ.out
         refine Zv (fun y=>Nw z3 y) (by kernel_rfl) (by kernel_rfl) (Nw.refl _).dr ?_
         have d0:∀d:Wd (fun y=>Nw z3 y),d.w.cell? _=_:=fun d=>d.h.kp q0
         have d1:∀d:Wd (fun y=>Nw z3 y),d.w.cell? _=_:=fun d=>d.h.kp q1
         have d2:∀d:Wd (fun y=>Nw z3 y),d.w.cell? _=_:=fun d=>d.h.kp x0
         have d3:∀d:Wd (fun y=>Nw z3 y),d.w.cell? _=_:=fun d=>d.h.kp x1
         have hne:Nonempty (Wd (fun y=>Nw z3 y)):=⟨⟨_,Nw.refl z3⟩⟩
         repeat (first | go_big_quiet_step (fail) | quiet_step (fail))
         refine wpQuiet_nil ?_
         intro d
         have HZn:=hD0 (HZ.out.trans d.h)
         clear hne d0 d1 d2 d3
         revert HZn
         generalize d.w=z4
         intro HZ
         clear d
         clear x0 x1 x2 q0 q1
         have HS:=hD0 (show OwI w0 (sortE (l.take i1)) (.slice (some ⟨g,0,none⟩) out.length sc) z4 from by
          rw[HSt.out,(V6 hmm HM.out.1.lo HNt.out).1 HSm.out]
          exact⟨Yo HO.out.own HZ.out,HO.out.nw.trans HZ.out⟩)
         clear HM HZ
         go_wp2_with fail
         exact⟨⟨i1,_,_,_,rfl,rfl,by rw[←HI1.out.1];exact HI1.out.2,HS⟩,by rw[←HI1.out.1];exact Zh HI1.out.2⟩
        ·have HNq:=hD0 (show ¬∃h:m<out.length,out[m]=(s0,ey) from fun⟨h1,h2⟩=>by
          obtain⟨_,h3⟩:=HSm.out
          exact hq1 (congrArg Prod.snd (h3.symm.trans h2)))
         go_wp2_with fail
         obtain⟨q0,q1⟩:=(HRO.out.nw HZ.out).eg HSm.out.1
         rw[HSm.out.2,Nat.zero_add] at q0 q1
         simp only at q0 q1
         obtain⟨x0,x1,x2⟩:=HX.out z3 HZ.out
         refine Zv (fun y=>Nw z3 y) (by kernel_rfl) (by kernel_rfl) (Nw.refl _).dr ?_
         have d0:∀d:Wd (fun y=>Nw z3 y),d.w.cell? _=_:=fun d=>d.h.kp q0
         have d1:∀d:Wd (fun y=>Nw z3 y),d.w.cell? _=_:=fun d=>d.h.kp q1
         have d2:∀d:Wd (fun y=>Nw z3 y),d.w.cell? _=_:=fun d=>d.h.kp x0
         have d3:∀d:Wd (fun y=>Nw z3 y),d.w.cell? _=_:=fun d=>d.h.kp x1
         have hne:Nonempty (Wd (fun y=>Nw z3 y)):=⟨⟨_,Nw.refl z3⟩⟩
         repeat (first | go_big_quiet_step (fail) | quiet_step (fail))
         refine wpQuiet_nil ?_
         intro d
         have HZn:=hD0 (HZ.out.trans d.h)
         clear hne d0 d1 d2 d3
         revert HZn
         generalize d.w=z4
         intro HZ
         clear d
         clear x0 x1 x2 q0 q1
         clear hq1
         have HK3:=hD0 (aI0 hmm (aI0 HM.out.1 HNq.out))
         have HRd:=hD0 (show Rd 2 Zc z4 (.slice (some ⟨g,0,none⟩) m sc) (out.take m)∧Rd 2 Zc z4 (.slice (some ⟨g,m*2,none⟩) (out.length-m) (sc-m)) (out.drop m) from⟨Z1u (HRO.out.nw HZ.out) hmm,Z41 (HRO.out.nw HZ.out) hmm⟩)
         obtain⟨v4,y4,a5,n5,c5,y5,a6,n6,c6,y6,hr4,hN4,hr5,hN5,hr6,hO6⟩:=Z2n (W:=z4) (W0:=w0) (k:=m) ⟨Yo HO.out.own HZ.out,HO.out.nw.trans HZ.out⟩ (Nat.le_trans HOL.out (by decide)) s0 ey HRd.out.1 HRd.out.2
         have HS:=hD0 (show OwI w0 (sortE (l.take i1)) (.slice a6 n6 c6) y6 from by
          rw[HSt.out,(V6 HK3.out.1 HK3.out.2.1.lo HNt.out).2 HK3.out.2.2]
          exact hO6)
         have HR4:=hD0 hr4
         have HR5:=hD0 hr5
         have HR6:=hD0 hr6
         obtain⟨x0,x1,x2⟩:=HX.out y4 (HZ.out.trans hN4)
         clear hr4 hr5 hr6 hO6 hN4 hN5
         go_wp2_with (at_builtin;first | (refine Z6 (by rfl) (.tmp 45) (.tmp 48) 22 rfl _ _ _ _ (by first | rfl | simp[Act.eval, *]) (by first | rfl | simp[Act.eval, *]) HR4.out ?_) | (refine Z6 (by rfl) (.tmp 50) (.tmp 55) 22 rfl _ _ _ _ (by first | rfl | simp[Act.eval, *]) (by first | rfl | simp[Act.eval, *]) HR5.out ?_) | (refine Z6 (by rfl) (.tmp 57) (.tmp 60) 22 rfl _ _ _ _ (by first | rfl | simp[Act.eval, *]) (by first | rfl | simp[Act.eval, *]) HR6.out ?_))
         exact⟨⟨i1,_,_,_,rfl,rfl,by rw[←HI1.out.1];exact HI1.out.2,HS⟩,by rw[←HI1.out.1];exact Zh HI1.out.2⟩
       ·have HNq:=hD0 (show ¬∃h:m<out.length,out[m]=(ex,ey) from fun⟨h1,h2⟩=>by
         obtain⟨_,h3⟩:=HSm.out
         exact hq0 (congrArg Prod.fst (h3.symm.trans h2)))
        go_wp2_with fail
        obtain⟨q0,q1⟩:=(HRO.out.nw HZ.out).eg HSm.out.1
        rw[HSm.out.2,Nat.zero_add] at q0 q1
        simp only at q0 q1
        obtain⟨x0,x1,x2⟩:=HX.out z3 HZ.out
        refine Zv (fun y=>Nw z3 y) (by kernel_rfl) (by kernel_rfl) (Nw.refl _).dr ?_
        have d0:∀d:Wd (fun y=>Nw z3 y),d.w.cell? _=_:=fun d=>d.h.kp q0
        have d1:∀d:Wd (fun y=>Nw z3 y),d.w.cell? _=_:=fun d=>d.h.kp q1
        have d2:∀d:Wd (fun y=>Nw z3 y),d.w.cell? _=_:=fun d=>d.h.kp x0
        have d3:∀d:Wd (fun y=>Nw z3 y),d.w.cell? _=_:=fun d=>d.h.kp x1
        have hne:Nonempty (Wd (fun y=>Nw z3 y)):=⟨⟨_,Nw.refl z3⟩⟩
        repeat (first | go_big_quiet_step (fail) | quiet_step (fail))
        refine wpQuiet_nil ?_
        intro d
        have HZn:=hD0 (HZ.out.trans d.h)
        clear hne d0 d1 d2 d3
        revert HZn
        generalize d.w=z4
        intro HZ
        clear d
        clear x0 x1 x2 q0 q1
        clear hq0
        have HK3:=hD0 (aI0 hmm (aI0 HM.out.1 HNq.out))
        have HRd:=hD0 (show Rd 2 Zc z4 (.slice (some ⟨g,0,none⟩) m sc) (out.take m)∧Rd 2 Zc z4 (.slice (some ⟨g,m*2,none⟩) (out.length-m) (sc-m)) (out.drop m) from⟨Z1u (HRO.out.nw HZ.out) hmm,Z41 (HRO.out.nw HZ.out) hmm⟩)
        obtain⟨v4,y4,a5,n5,c5,y5,a6,n6,c6,y6,hr4,hN4,hr5,hN5,hr6,hO6⟩:=Z2n (W:=z4) (W0:=w0) (k:=m) ⟨Yo HO.out.own HZ.out,HO.out.nw.trans HZ.out⟩ (Nat.le_trans HOL.out (by decide)) ex ey HRd.out.1 HRd.out.2
        have HS:=hD0 (show OwI w0 (sortE (l.take i1)) (.slice a6 n6 c6) y6 from by
         rw[HSt.out,(V6 HK3.out.1 HK3.out.2.1.lo HNt.out).2 HK3.out.2.2]
         exact hO6)
        have HR4:=hD0 hr4
        have HR5:=hD0 hr5
        have HR6:=hD0 hr6
        obtain⟨x0,x1,x2⟩:=HX.out y4 (HZ.out.trans hN4)
        clear hr4 hr5 hr6 hO6 hN4 hN5
        go_wp2_with (at_builtin;first | (refine Z6 (by rfl) (.tmp 45) (.tmp 48) 22 rfl _ _ _ _ (by first | rfl | simp[Act.eval, *]) (by first | rfl | simp[Act.eval, *]) HR4.out ?_) | (refine Z6 (by rfl) (.tmp 50) (.tmp 55) 22 rfl _ _ _ _ (by first | rfl | simp[Act.eval, *]) (by first | rfl | simp[Act.eval, *]) HR5.out ?_) | (refine Z6 (by rfl) (.tmp 57) (.tmp 60) 22 rfl _ _ _ _ (by first | rfl | simp[Act.eval, *]) (by first | rfl | simp[Act.eval, *]) HR6.out ?_))
        exact⟨⟨i1,_,_,_,rfl,rfl,by rw[←HI1.out.1];exact HI1.out.2,HS⟩,by rw[←HI1.out.1];exact Zh HI1.out.2⟩
     ·obtain rfl:m=out.length:=Nat.le_antisymm hmm (Nat.le_of_not_lt hml)
      have hml':¬out.length<out.length:=Nat.lt_irrefl _
      clear hml
      go_wp2_with fail
      refine Zv (fun y=>Nw wr y) (by kernel_rfl) (by kernel_rfl) (Nw.refl _).dr ?_
      have hne:Nonempty (Wd (fun y=>Nw wr y)):=⟨⟨_,Nw.refl wr⟩⟩
      repeat (first | go_big_quiet_step (fail) | quiet_step (fail))
      refine wpQuiet_nil ?_
      intro d
      have HZn:=hD0 (HM.out.2.trans d.h)
      clear hne
      revert HZn
      generalize d.w=z3
      intro HZ
      clear d
      go_wp2_with fail
      refine Zv (fun y=>Nw z3 y) (by kernel_rfl) (by kernel_rfl) (Nw.refl _).dr ?_
      have hne:Nonempty (Wd (fun y=>Nw z3 y)):=⟨⟨_,Nw.refl z3⟩⟩
      repeat (first | go_big_quiet_step (fail) | quiet_step (fail))
      refine wpQuiet_nil ?_
      intro d
      have HZn:=hD0 (HZ.out.trans d.h)
      clear hne
      revert HZn
      generalize d.w=z4
      intro HZ
      clear d
      have HK3:=hD0 (aI0 (Nat.le_refl out.length) (aI0 HM.out.1 (show ¬∃h:out.length<out.length,out[out.length]=(ex,ey) from fun⟨h,_⟩=>Nat.lt_irrefl _ h)))
      have HNt:=hD0 (show ∀h:out.length<out.length,¬V3 out[out.length] (ex,ey) from fun h=>absurd h (Nat.lt_irrefl _))
      clear HM
      by_cases hc:sc=out.length
      ·have HRd:=hD0 (show Rd 2 Zc z4 (.slice (some ⟨g,0,none⟩) out.length sc) (out.take out.length)∧Rd 2 Zc z4 (.slice (some ⟨g,0,none⟩) (out.length-out.length) (sc-out.length)) (out.drop out.length) from⟨Z1u (HRO.out.nw HZ.out) (Nat.le_refl _),Zb9 (Nat.le_refl _)⟩)
       obtain⟨v4,y4,a5,n5,c5,y5,a6,n6,c6,y6,hr4,hN4,hr5,hN5,hr6,hO6⟩:=Z2n (W:=z4) (W0:=w0) (k:=out.length) ⟨Yo HO.out.own HZ.out,HO.out.nw.trans HZ.out⟩ (Nat.le_trans HOL.out (by decide)) ex ey HRd.out.1 HRd.out.2
       have HS:=hD0 (show OwI w0 (sortE (l.take i1)) (.slice a6 n6 c6) y6 from by
        rw[HSt.out,(V6 HK3.out.1 HK3.out.2.1.lo HNt.out).2 HK3.out.2.2]
        exact hO6)
       have HR4:=hD0 hr4
       have HR5:=hD0 hr5
       have HR6:=hD0 hr6
       obtain⟨x0,x1,x2⟩:=HX.out y4 (HZ.out.trans hN4)
       clear hr4 hr5 hr6 hO6 hN4 hN5
       go_wp2_with (at_builtin;first | (refine Z6 (by rfl) (.tmp 45) (.tmp 48) 22 rfl _ _ _ _ (by first | rfl | simp[Act.eval, *]) (by first | rfl | simp[Act.eval, *]) HR4.out ?_) | (refine Z6 (by rfl) (.tmp 50) (.tmp 55) 22 rfl _ _ _ _ (by first | rfl | simp[Act.eval, *]) (by first | rfl | simp[Act.eval, *]) HR5.out ?_) | (refine Z6 (by rfl) (.tmp 57) (.tmp 60) 22 rfl _ _ _ _ (by first | rfl | simp[Act.eval, *]) (by first | rfl | simp[Act.eval, *]) HR6.out ?_))
       exact⟨⟨i1,_,_,_,rfl,rfl,by rw[←HI1.out.1];exact HI1.out.2,HS⟩,by rw[←HI1.out.1];exact Zh HI1.out.2⟩
      ·have HRd:=hD0 (show Rd 2 Zc z4 (.slice (some ⟨g,0,none⟩) out.length sc) (out.take out.length)∧Rd 2 Zc z4 (.slice (some ⟨g,out.length*2,none⟩) (out.length-out.length) (sc-out.length)) (out.drop out.length) from⟨Z1u (HRO.out.nw HZ.out) (Nat.le_refl _),Z41 (HRO.out.nw HZ.out) (Nat.le_refl _)⟩)
       obtain⟨v4,y4,a5,n5,c5,y5,a6,n6,c6,y6,hr4,hN4,hr5,hN5,hr6,hO6⟩:=Z2n (W:=z4) (W0:=w0) (k:=out.length) ⟨Yo HO.out.own HZ.out,HO.out.nw.trans HZ.out⟩ (Nat.le_trans HOL.out (by decide)) ex ey HRd.out.1 HRd.out.2
       have HS:=hD0 (show OwI w0 (sortE (l.take i1)) (.slice a6 n6 c6) y6 from by
        rw[HSt.out,(V6 HK3.out.1 HK3.out.2.1.lo HNt.out).2 HK3.out.2.2]
        exact hO6)
       have HR4:=hD0 hr4
       have HR5:=hD0 hr5
       have HR6:=hD0 hr6
       obtain⟨x0,x1,x2⟩:=HX.out y4 (HZ.out.trans hN4)
       clear hr4 hr5 hr6 hO6 hN4 hN5
       go_wp2_with (at_builtin;first | (refine Z6 (by rfl) (.tmp 45) (.tmp 48) 22 rfl _ _ _ _ (by first | rfl | simp[Act.eval, *]) (by first | rfl | simp[Act.eval, *]) HR4.out ?_) | (refine Z6 (by rfl) (.tmp 50) (.tmp 55) 22 rfl _ _ _ _ (by first | rfl | simp[Act.eval, *]) (by first | rfl | simp[Act.eval, *]) HR5.out ?_) | (refine Z6 (by rfl) (.tmp 57) (.tmp 60) 22 rfl _ _ _ _ (by first | rfl | simp[Act.eval, *]) (by first | rfl | simp[Act.eval, *]) HR6.out ?_))
       exact⟨⟨i1,_,_,_,rfl,rfl,by rw[←HI1.out.1];exact HI1.out.2,HS⟩,by rw[←HI1.out.1];exact Zh HI1.out.2⟩
  ·obtain rfl:i=n:=Nat.le_antisymm hin (Nat.le_of_not_lt hlt)
   have Zr:¬i<i:=Nat.lt_irrefl i
   have HO:=hD0 (show OwI w0 (sortE l) (.slice sa sb sc) wr from by
    have:=HI.out
    rwa [List.take_of_length_le (by rw[HN.out];exact Nat.le_refl i)] at this)
   clear hlt HI
   go_wp2
   go_ret
   exact⟨_,rfl,HO.out.own,HO.out.nw⟩
structure GrW(W0 w1:World)(s:List (Int × Int))(a:Int)(N:Nat)(r:List Int)(last:Int)(n:Nat)(v:Value)(w:World):Prop where
 inv:GrI s a N r last n
 own:U5 w W0.heap.size v (a::r)
 nw:Nw w1 w
theorem GrI.lastAt{s:List (Int × Int)}{a:Int}{N:Nat}{r:List Int}{last:Int}{n:Nat}(h:GrI s a N r last n):∃h:r.length<(a::r).length,(a::r)[r.length]=last:=by
 refine⟨by simp,?_⟩
 have:=h.la
 rw[List.getLast?_eq_getElem?] at this
 simp only[List.length_cons,Nat.add_sub_cancel] at this
 obtain⟨h1,h2⟩:=List.getElem?_eq_some_iff.1 this
 exact h2
def NoK(s:List (Int × Int))(last a:Int)(m k:Nat):Prop:=∀j,(hj:j<s.length)→j<k→¬(s[j].1=last∧Vj s s[j].2 a m)
theorem NoK.zero(s:List (Int × Int))(last a:Int)(m:Nat):NoK s last a m 0:=fun j _ h=>absurd h (Nat.not_lt_zero j)
theorem NoK.succ{s:List (Int × Int)}{last a:Int}{m k:Nat}(h:NoK s last a m k)(hk:k<s.length)(n:¬(s[k].1=last∧Vj s s[k].2 a m)):NoK s last a m (k+1):=fun j hj hjk=>by
 rcases Nat.lt_or_ge j k with c | c
 ·exact h j hj c
 ·obtain rfl:j=k:=by omega
  exact n
theorem GrW.push{W0 w1 w z:World}{s:List (Int × Int)}{a:Int}{N:Nat}{r:List Int}{last:Int}{n:Nat}{v:Value}(h:GrW W0 w1 s a N r last (n+2) v w)(hW:W0.heap.size≤w1.heap.size)(hl:r.length<90000)(hs:Zn s){k:Nat}(hk:k<s.length){q:Int}(h1:s[k].1=last)(hq:s[k].2=q)(h2:Vj s s[k].2 a (n+1))(h3:NoK s last a (n+1) k)(g:Nw w z)(hz:w1.heap.size≤W0.heap.size) :
  ∃ga cc w6,(Builtin.append_ #[24,24] 24 #[v,.slice (some ⟨z.heap.size,0,none⟩) 1 1]).run prog (z.alloc (.cells #[.int .i64 q] 3))=.ok (.slice (some ⟨ga,0,none⟩) ((a::r).length+1) cc) w6∧GrW W0 w1 s a N (r++[q]) q (n+1) (.slice (some ⟨ga,0,none⟩) ((a::r).length+1) cc) w6:=by
 have hal:=Z4 z (.cells #[.int .i64 q] 3)
 have g6:Nw w (z.alloc (.cells #[.int .i64 q] 3)):=g.trans ((Nw.refl z).alloc _)
 obtain⟨v',w6,hr,hO,hg,_,ga,cc,rfl⟩:=Zu.push Yc (Yo h.own g6) q z.heap.size 1 (fun j u hu=>by
  rw[Z2 hal]
  simpa [Y7] using hu) (by simp;omega) (Nat.le_trans hW (h.nw.trans g6).sz)
 refine⟨ga,cc,w6,hr,?_,hO,(h.nw.trans g6).gro hg (fun b e=>Nat.le_trans hz (Va h.own e))⟩
 have:=h.inv.step hs hk h1 h2 (fun j hj q=>h3 j hj q)
 rwa [hq] at this
theorem Z4b{w0:World}{v:Value}{l:List (Int × Int)}(h:Zk w0 v l)(hl:l.length≤900) :
  Calls prog 22 #[v] w0 fun e w'=>∃v' c b,e=.returned (.tuple #[v',.bool b])∧IS w' v' c∧Yl l c b∧Nw w0 w':=by
 have HS:=hD0 (Up h (Nat.le_trans hl (by decide)))
 have hsl:=Nat.le_trans (V1 l) hl
 have HSS:=hD0 (Ue l)
 have HUn:=hD0 (fun(c:List Int) (b:Bool) (q:Yl (sortE l) c b)=>q.unsort)
 obtain⟨la,lc,rfl,hd⟩:=h
 clear hd
 obtain⟨s,hs⟩:∃s,sortE l=s:=⟨_,rfl⟩
 rw[hs] at HS hsl HSS HUn
 clear hs
 go_enter func22,ntmps22
 go_wp2_with fail
 refine HS.out.mono ?_
 rintro e w1 ⟨v1,rfl,hO1,g1⟩
 obtain⟨sa,sc,rfl,hd1⟩:=Z9.at_ hO1
 obtain⟨M,hM⟩:∃M,s.length=M:=⟨_,rfl⟩
 have HM:=hD0 hM
 have HD:=hD0 hd1
 have HG1:=hD0 g1
 have HFar:=hD0 (fun(z:World) (g:Nw w1 z) (x y:Int)=>Z7o ((Z9.at_ hO1).nw g) hsl x y)
 rw[hM] at hsl HFar ⊢
 clear hO1 hd1 hM g1 HS
 go_wp2_with fail
 go_loopw [4] (fun v wr=>∃i:Nat,v=.int .i64 i∧i≤M∧Hid (CyI s i∧Nw w1 wr)) (fun v _=>M-(intOf v).toNat)
 case atStart=>exact⟨0,rfl,Nat.zero_le _,hD0 ⟨CyI.zero s,Nw.refl _⟩⟩
 case round =>
  obtain⟨i,rfl,hi,HI⟩:=hrel
  by_cases hlt:i<M
  ·have hil:i<s.length:=by rw[HM.out];exact hlt
   rcases HD.out with⟨q,_⟩ | ⟨eb,eo,rfl,hrc⟩
   ·rw[q] at hil;simp at hil
   obtain⟨x0,xx⟩:=(hrc.nw HI.out.2).eg hil
   clear xx
   have hebl:=(hrc.nw HI.out.2).lt
   obtain⟨x,hx⟩:∃x,s[i].1=x:=⟨_,rfl⟩
   rw[hx] at x0
   have HXi:=hD0 (show ∃h:i<s.length,s[i].1=x from⟨hil,hx⟩)
   have HRc:=hD0 hrc
   have HF0:=hD0 (HFar.out wr HI.out.2 x x)
   have Zr:=Zp hlt
   have hw:=Zo i (i+1) (by omega) rfl
   obtain⟨i1,hi1⟩:∃m,i+1=m:=⟨_,rfl⟩
   have HI1:=hD0 (aI0 hi1 hlt)
   rw[hi1] at hw
   clear hi1 hil hrc hlt hx
   go_wp2_with fail
   clear x0 hebl
   refine HF0.out.mono ?_
   rintro e w4 ⟨f,rfl,hF,hf9,g4⟩
   have HG4:=hD0 (HI.out.2.trans g4)
   rcases hF with⟨n,rfl,hn0,hF⟩ | ⟨rfl,hR⟩
   rotate_left
   ·have HR:=hD0 (show CyI s i1∧Nw w1 w4 from⟨by
     obtain⟨h1,h2⟩:=HXi.out
     rw[←HI1.out.1]
     exact HI.out.1.succ h1 (by rw[h2];exact hR),HG4.out⟩)
    clear hR g4 HF0 hf9
    go_wp2_with fail
    exact⟨⟨i1,rfl,by rw[←HI1.out.1];exact HI1.out.2,HR⟩,by rw[←HI1.out.1];exact Zh HI1.out.2⟩
   ·have dn:decide ((n:Int)<0)=false:=by rw[decide_eq_false_iff_not];omega
    have HFF:=hD0 hF
    have HMin:=hD0 (show ∀v,Yk s v v→x≤v from fun v r=>by
     obtain⟨h1,h2⟩:=HXi.out
     rw[←h2]
     exact HI.out.1.least HSS.out h1 r)
    have hnM:n≤1000:=by omega
    clear hF g4 HF0 HI hf9
    go_upto_region 9 with fail
    have hal:=Z4 w4 (.cells #[.int .i64 x] 3)
    have g5:Nw w4 (w4.alloc (.cells #[.int .i64 x] 3)):=(Nw.refl _).alloc _
    have hw5:=Z51 Yc w4 [x] (by simp)
    obtain⟨w5,hw5'⟩:∃z,w4.alloc (.cells #[.int .i64 x] 3)=z:=⟨_,rfl⟩
    have hw5'':w4.alloc (.cells ⟨Z7 Y7 [x]⟩ 3)=w5:=hw5'
    rw[hw5''] at hw5
    rw[hw5'] at g5 ⊢
    have HW0:=hD0 (show GrW w1 w1 s x n [] x n (.slice (some ⟨w4.heap.size,0,none⟩) 1 1) w5 from⟨GrI.start HFF.out,Us hw5 (fun b e=>Nat.le_trans HG4.out.sz (Va hw5 e)),HG4.out.trans g5⟩)
    clear hal g5 hw5 hw5' hw5''
    go_wp2_with fail
    go_loopw [6,7] (fun v6 v7 wr=>∃(n' j b:Nat) (r:List Int) (last:Int) (a7:Option Addr) (c7:Nat),v6=.int .i64 n'∧v7=.slice a7 b c7∧n'≤1000∧b=j+1∧Hid (GrW w1 w1 s x n r last n' (.slice a7 b c7) wr∧j=r.length)) (fun v6 _ _=>(intOf v6).toNat)
    case atStart=>exact⟨n,0,1,[],x,_,_,rfl,rfl,hnM,rfl,hD0 ⟨HW0.out,rfl⟩⟩
    case round =>
     clear HW0
     obtain⟨n',j,b,r,last,a7,c7,rfl,rfl,hn',hbj,HJ⟩:=hrel
     by_cases h1:1<n'
     rotate_left
     ·have d1:decide ((1:Int)<(n':Int))=false:=by rw[decide_eq_false_iff_not];omega
      have d2:decide (1<n')=false:=decide_eq_false h1
      have HR:=hD0 (show IS wr (.slice a7 b c7) (x::r)∧Yl l (x::r) true∧Nw w0 wr from⟨Zu.is HJ.out.1.own,HUn.out _ _ (by
       have hp:=HJ.out.1.inv.pos
       obtain rfl:n'=1:=by omega
       exact HJ.out.1.inv.done HMin.out HFF.out),HG1.out.trans HJ.out.1.nw⟩)
      clear h1 HJ hbj
      go_wp2_with fail
      refine bodyPost_ret (v:=.tuple #[.slice a7 b c7,.bool true]) (by simp[results,results22,go_sem, *]) rfl ?_
      exact⟨_,x::r,true,rfl,HR.out.1,HR.out.2.1,HR.out.2.2⟩
     ·obtain⟨m,hm⟩:∃m,n'=m+2:=⟨n'-2,by omega⟩
      have d1:decide ((1:Int)<(n':Int))=true:=by rw[decide_eq_true_iff];omega
      have d2:decide (1<n')=true:=decide_eq_true h1
      obtain⟨m1,hm1⟩:∃x,m+1=x:=⟨_,rfl⟩
      have hdn:=V8 n' m1 (by omega) (by omega)
      have hdb:=V8 b j (by
       have hh:=HJ.out.1.inv.len
       have hj:=HJ.out.2
       omega) hbj
      have HH:=hD0 (show GrW w1 w1 s x n r last (m+2) (.slice a7 b c7) wr from hm▸HJ.out.1)
      have HMm:=hD0 (show n'=m+2∧m+1=m1 from⟨hm,hm1⟩)
      have HB:=hD0 (show b=j+1∧j=r.length∧r.length≤1000 from⟨hbj,HJ.out.2,by have:=HJ.out.1.inv.len;omega⟩)
      have hbl:(x::r).length=b:=by rw[List.length_cons,hbj,HJ.out.2]
      obtain⟨ga0,ca0,e7,hb7⟩:=(Zu.is HJ.out.1.own).box
      simp only[Value.slice.injEq] at e7
      obtain⟨rfl,hbx,rfl⟩:=e7
      clear hbx
      obtain⟨bg,rfl,_⟩:=hb7 (by simp)
      obtain⟨hj1,hj2⟩:=HJ.out.1.inv.lastAt
      have cl:=Z1y (Zu.is HJ.out.1.own) hj1
      rw[hj2,←HJ.out.2] at cl
      have hjb:j<b:=by omega
      have hjb':(j:Int)<(b:Int):=Int.ofNat_lt.2 hjb
      have hbl0:bg<wr.heap.size:=Ut HJ.out.1.own rfl
      have HW:=hD0 HJ.out.1.nw
      clear h1 HJ hbl hb7 hj1 hj2 hm hm1 hbj
      go_wp2_with fail
      generalize wr=w8 at *
      go_loopw [7,9] (fun v7 v9 wr=>∃k:Nat,v7=.slice (some ⟨bg,0,none⟩) b c7∧v9=.int .i64 k∧k≤M∧Hid (NoK s last x m1 k∧Nw w8 wr)) (fun _ v9 _=>M-(intOf v9).toNat)
      case atStart=>exact⟨0,rfl,rfl,Nat.zero_le _,hD0 ⟨NoK.zero _ _ _ _,Nw.refl _⟩⟩
      case round =>
       obtain⟨k,rfl,rfl,hk,HK⟩:=hrel
       by_cases hkM:k<M
       ·have hkl:k<s.length:=by rw[HM.out];exact hkM
        have hrw:=HRc.out.nw (HW.out.trans HK.out.2)
        obtain⟨x0,x1⟩:=hrw.eg hkl
        have hel:=hrw.lt
        obtain⟨t,ht⟩:∃t,s[k]=t:=⟨_,rfl⟩
        have HTk:=hD0 (show ∃h:k<s.length,s[k]=t from⟨hkl,ht⟩)
        simp only[ht] at x0 x1
        obtain⟨p,q⟩:=t
        simp only at x0 x1
        have HX:=hD0 (show ∀z,Nw wr z→z.cell? ⟨eb,eo+k*2,none⟩=some (.int .i64 p)∧z.cell? ⟨eb,eo+k*2+1,none⟩=some (.int .i64 q)∧eb<z.heap.size from fun z g=>⟨g.kp x0,g.kp x1,lL0 hel g.sz⟩)
        have hkM':=Zp hkM
        have hwk:=Zo k (k+1) (by omega) rfl
        obtain⟨k1,hk1⟩:∃m,k+1=m:=⟨_,rfl⟩
        have HK1:=hD0 (aI0 hk1 hkM)
        rw[hk1] at hwk
        have HSkip:=hD0 (show ¬(p=last∧Vj s q x m1)→NoK s last x m1 k1 from fun h=>by
         obtain⟨h1,h2⟩:=HTk.out
         rw[←HK1.out.1]
         exact HK.out.1.succ h1 (by rw[h2];exact h))
        have HFr:=hD0 (HFar.out wr (HW.out.trans HK.out.2) q x)
        clear hk1 hkl hrw hkM ht
        by_cases hp:p=last
        rotate_left
        ·have dp:(p==last)=false:=by simpa using hp
         have HR:=hD0 (aI0 (HSkip.out (fun h=>hp h.1)) HK.out.2)
         clear hp HSkip HK HFr
         go_wp2_with fail
         exact⟨⟨k1,rfl,rfl,by rw[←HK1.out.1];exact HK1.out.2,HR⟩,by rw[←HK1.out.1];exact Zh HK1.out.2⟩
        ·have dp:(p==last)=true:=by simpa using hp
         go_wp2_with fail
         clear x0 x1 hel
         refine HFr.out.mono ?_
         rintro e w9 ⟨f,rfl,hF,_,g9⟩
         have HG9:=hD0 g9
         have hof:=hF.of (n:=m1) (by rw[←HMm.out.2];exact Nat.succ_pos m)
         by_cases hf:f=(m1:Int)
         rotate_left
         ·have df:(f==(m1:Int))=false:=by simpa using hf
          have HR:=hD0 (show NoK s last x m1 k1∧Nw w8 w9 from⟨HSkip.out (fun h=>hf (hof.2 h.2)),HK.out.2.trans g9⟩)
          clear hf hF hof g9 HSkip HK HFr hp
          go_wp2_with fail
          exact⟨⟨k1,rfl,rfl,by rw[←HK1.out.1];exact HK1.out.2,HR⟩,by rw[←HK1.out.1];exact Zh HK1.out.2⟩
         ·have df:(f==(m1:Int))=true:=by simpa using hf
          obtain⟨ga,cc,w6,hr6,hW6⟩:=HH.out.push (z:=w9) (q:=q) (Nat.le_refl _) (Nat.lt_of_le_of_lt HB.out.2.2 (by decide)) HSS.out HTk.out.1 (by rw[HTk.out.2];exact hp) (by rw[HTk.out.2]) (by rw[HTk.out.2,HMm.out.2];exact hof.1 hf) (by rw[HMm.out.2];exact HK.out.1) (HK.out.2.trans g9) (Nat.le_refl _)
          have HR:=hD0 (show GrW w1 w1 s x n (r++[q]) q m1 (.slice (some ⟨ga,0,none⟩) (b+1) cc) w6∧m1≤1000∧b+1=b+1∧b=(r++[q]).length from⟨by
           rw[←HMm.out.2]
           have e:(x::r).length=b:=by rw[List.length_cons,HB.out.1,HB.out.2.1]
           rw[e] at hW6
           exact hW6,by have:=HMm.out;omega,rfl,by rw[List.length_append,List.length_singleton,HB.out.1,HB.out.2.1]⟩)
          have HR6:=hD0 (show(Builtin.append_ #[24,24] 24 #[.slice (some ⟨bg,0,none⟩) b c7,.slice (some ⟨w9.heap.size,0,none⟩) 1 1]).run prog (w9.alloc (.cells #[.int .i64 q] 3))=.ok (.slice (some ⟨ga,0,none⟩) (b+1) cc) w6 from by
           have e:(x::r).length=b:=by rw[List.length_cons,HB.out.1,HB.out.2.1]
           rw[e] at hr6
           exact hr6)
          have HDn:=hD0 (show m1<n' from by have:=HMm.out;omega)
          obtain⟨x0,x1,hel⟩:=HX.out w9 g9
          clear hf hF hof g9 HSkip HK HFr hp hr6 hW6 HH
          go_wp2_with (at_builtin;refine Z6 (by rfl) (.tmp 67) (.tmp 73) 24 rfl _ _ _ _ rfl rfl HR6.out ?_)
          exact⟨⟨m1,b,b+1,r++[q],q,_,_,rfl,rfl,HR.out.2.1,rfl,hD0 ⟨HR.out.1,HR.out.2.2.2⟩⟩,HDn.out⟩
       ·exfalso
        obtain rfl:k=M:=Nat.le_antisymm hk (Nat.le_of_not_lt hkM)
        refine HH.out.inv.has (fun j hj=>?_)
        rw[HMm.out.2]
        exact HK.out.1 j hj (by rw[←HM.out];exact hj)
  ·obtain rfl:i=M:=Nat.le_antisymm hi (Nat.le_of_not_lt hlt)
   have Zr:¬i<i:=Nat.lt_irrefl i
   have HR:=hD0 (show Yl l [] false∧Nw w0 wr from⟨HUn.out _ _ (Z1t (by
    have:=HI.out.1
    rw[←HM.out] at this
    exact this.done)),HG1.out.trans HI.out.2⟩)
   clear hlt HI
   go_wp2_with fail
   refine bodyPost_ret (v:=.tuple #[.slice none 0 0,.bool false]) (by simp[results,results22,go_sem, *]) rfl ?_
   exact⟨_,[],false,rfl,IS.nil _,HR.out.1,HR.out.2⟩
theorem Z1f:([]:List Int).length=0:=rfl
def Zbt(v0 v5:Value)(l:List (Int × Int)):Prop:=∀b o n c,v0=.slice (some ⟨b,o,none⟩) n c→v5.ownBlock≠some b∨l=[]
theorem Zae{w z:World}{v:Value}{l:List (Int × Int)}{S:Nat→Prop}(h:Zk w v l)(t:Zf S w z)(hn:∀b o n c,v=.slice (some ⟨b,o,none⟩) n c→¬S b∨l=[]):Zk z v l:=by
 obtain⟨a,c,e,hx⟩:=h
 subst e
 rcases hx with hx | ⟨b,o,rfl,hc⟩
 ·exact⟨a,c,rfl,.inl hx⟩
 ·rcases hn _ _ _ _ rfl with hb | hb
  ·exact⟨_,c,rfl,.inr ⟨b,o,rfl,lL0 hc.lt t.size,fun i hi j u hu=>(t.cell hc.lt hb).trans (hc.cell i hi j u hu)⟩⟩
  ·subst hb
   exact⟨_,c,rfl,.inl ⟨rfl,fun e=>nomatch e⟩⟩
structure VcI(W0:World)(ages l0 l:List (Int × Int))(vs:List Int)(v0 v5:Value)(w:World):Prop where
 at_:Zk w v0 l
 own:U5 w W0.heap.size v5 vs
 off:Zbt v0 v5 l
 nw:Nw W0 w
 sub:∀e∈l,e∈l0
 len:l.length+vs.length≤l0.length
 vic:∀vs',Vic ages l vs'→Vic ages l0 (vs++vs')
theorem VcI.push{W0 w z:World}{ages l0 l:List (Int × Int)}{vs:List Int}{v0 v5:Value}(h:VcI W0 ages l0 l vs v0 v5 w)(hl:l0.length≤1000)(q:Int)(g:Nw w z) :
  ∃ga cc w6,(Builtin.append_ #[24,24] 24 #[v5,.slice (some ⟨z.heap.size,0,none⟩) 1 1]).run prog (z.alloc (.cells #[.int .i64 q] 3))=.ok (.slice (some ⟨ga,0,none⟩) (vs.length+1) cc) w6∧U5 w6 W0.heap.size (.slice (some ⟨ga,0,none⟩) (vs.length+1) cc) (vs++[q])∧Zk w6 v0 l∧ga<w6.heap.size∧Nw W0 w6:=by
 have hal:=Z4 z (.cells #[.int .i64 q] 3)
 have g6:Nw w (z.alloc (.cells #[.int .i64 q] 3)):=g.trans ((Nw.refl z).alloc _)
 obtain⟨v',w6,hr,hO,hg,hp,ga,cc,rfl⟩:=Zu.push Yc (Yo h.own g6) q z.heap.size 1 (fun j u hu=>by
  rw[Z2 hal]
  simpa [Y7] using hu) (by have:=h.len;omega) (h.nw.trans g6).sz
 refine⟨ga,cc,w6,hr,hO,?_,Ut hO rfl,(h.nw.trans g6).gro hg (fun b e=>Va h.own e)⟩
 exact Zae (h.at_.nw g6) (Z0i hg) (fun b o n c e=>h.off b o n c e)
def Uk(k:Kn):List Value:=[.int .i64 k.f,.bool k.lp]
theorem Zaf:Uq prog 82 120 2 16 Uk where
 und:=underlying82
 inf:=by
  have h:(prog.info? 120).map (fun i=>(i.zero,i.size,i.bytes))=some (some (.agg #[.int .i64 0,.bool false]),2,16):=by kernel_rfl
  cases e:prog.info? 120 with
  | none=>rw[e] at h;cases h
  | some i =>
   rw[e] at h
   simp only[Option.map_some,Option.some.injEq,Prod.mk.injEq] at h
   exact⟨i,_,rfl,h.1,h.2.1,h.2.2,rfl⟩
 pos:=by decide
 byt:=by decide
 len:=fun _=>rfl
 one:=fun a u hu=>by
  simp only[Uk,List.mem_cons,List.not_mem_nil,or_false] at hu
  rcases hu with rfl | rfl<;>rfl
abbrev Vm(w:World)(g0:Nat)(v:Value)(l:List Kn):Prop:=Zu 120 2 Uk w g0 v l
theorem Z50{w:World}{g0 e size n m:Nat}{xs:List Value}{a:Option Addr}{c:Nat}(h:w.ownsRow g0 e size (.slice a n c) n xs)(hm:m≤n):w.ownsRow g0 e size (.slice a m c) m (xs.take (m*size)):=by
 obtain⟨hx,hr⟩:=h
 have hl:(xs.take (m*size)).length=m*size:=by
  rw[List.length_take,hx]
  exact Nat.min_eq_left (Nat.mul_le_mul_right _ hm)
 rcases hr with⟨h0,hn⟩ | ⟨g,cap,cur,h1,h2,h3,h4,h5,h6,h7⟩
 ·simp only[Value.slice.injEq] at h0
  obtain⟨rfl,_,rfl⟩:=h0
  obtain rfl:m=0:=by omega
  exact⟨hl,.inl ⟨rfl,rfl⟩⟩
 ·simp only[Value.slice.injEq] at h1
  obtain⟨rfl,_,rfl⟩:=h1
  refine⟨hl,.inr ⟨g,_,cur,rfl,h2,h3,Nat.le_trans hm h4,h5,h6,?_⟩⟩
  have:=congrArg (List.take (m*size)) h7
  rw[List.take_take,Nat.min_eq_left (Nat.mul_le_mul_right _ hm)] at this
  exact this
theorem IS.cut{w:World}{a:Option Addr}{c:Nat}{l:List Int}(h:IS w (.slice a l.length c) l){m:Nat}(hm:m≤l.length):IS w (.slice a m c) (l.take m):=by
 have:=Z50 h hm
 unfold IS
 rw[List.length_take,Nat.min_eq_left hm,List.map_take]
 simpa using this
theorem Z0q{α:Type}{row:α→List Value}{sz:Nat}(hl:∀a,(row a).length=sz):∀(l:List α) (m:Nat),Z7 row (l.take m)=(Z7 row l).take (m*sz)
 | [],m=>by simp[Z7]
 | a::l,0=>by simp[Z7]
 | a::l,m+1=>by
  show row a++Z7 row (l.take m)=(row a++Z7 row l).take ((m+1)*sz)
  have e1:(row a).take ((m+1)*sz)=row a:=List.take_of_length_le (by rw[hl,Nat.add_mul];omega)
  rw[Z0q hl l m,List.take_append,e1,hl,show(m+1)*sz-sz=m*sz by rw[Nat.add_mul];omega]
theorem Vm.cut{w:World}{g0:Nat}{a:Option Addr}{c:Nat}{l:List Kn}(h:Vm w g0 (.slice a l.length c) l){m:Nat}(hm:m≤l.length):Vm w g0 (.slice a m c) (l.take m):=by
 have:=Z50 h hm
 unfold Vm Zu
 rw[List.length_take,Nat.min_eq_left hm,Z0q (sz:=2) (fun _=>rfl)]
 exact this
def fnx(s:Gb)(v:Int):Option Int:=(s.nx v).map Int.ofNat
structure Yb(W0 w:World)(o mb pb:Nat)(ev vp vo vk:Value)(E:List (Int × Int))(s:Gb)(N:Nat):Prop where
 obj:w.heap[o]?=some (.cells #[ev,.map (some mb),.map (some pb),vp,vo,vk,.bool s.fd,.int .i64 s.ls] 84 (0,0))
 ed:Zk W0 ev E
 nw:Nw W0 w
 mn:Zd w mb (fnx s) N
 mp:Zd w pb s.pl N
 pa:IS w vp s.path
 op:IS w vo s.op
 kn:Vm w W0.heap.size vk s.kn
 oW:W0.heap.size≤o
 mW:W0.heap.size≤mb
 pW:W0.heap.size≤pb
 mne:mb≠pb
 pg:∀g,vp.ownBlock=some g→W0.heap.size≤g
 og:∀g,vo.ownBlock=some g→W0.heap.size≤g
 ne:∀g,vp.ownBlock=some g→vo.ownBlock≠some g
 bd:s.path.length≤N∧s.op.length≤N∧s.kn.length≤N
def Wk(W0 w:World)(o:Nat)(ev:Value)(E:List (Int × Int))(s:Gb)(N:Nat):Prop:=∃mb pb vp vo vk,Yb W0 w o mb pb ev vp vo vk E s N
section
variable {W0 w w':World} {o mb pb N:Nat} {ev vp vo vk:Value} {E:List (Int × Int)} {s:Gb}
theorem Yb.nwr(h:Yb W0 w o mb pb ev vp vo vk E s N)(g:Nw w w'):Yb W0 w' o mb pb ev vp vo vk E s N :=
 ⟨g.at' h.obj,h.ed,h.nw.trans g,h.mn.nw g,h.mp.nw g,h.pa.nw g,h.op.nw g,Yo h.kn g,h.oW,h.mW,h.pW,h.mne,h.pg,h.og,h.ne,h.bd⟩
theorem Yb.c(h:Yb W0 w o mb pb ev vp vo vk E s N):w.cell? ⟨o,0,none⟩=some ev∧w.cell? ⟨o,1,none⟩=some (.map (some mb))∧w.cell? ⟨o,2,none⟩=some (.map (some pb))∧w.cell? ⟨o,3,none⟩=some vp∧w.cell? ⟨o,4,none⟩=some vo∧w.cell? ⟨o,5,none⟩=some vk∧w.cell? ⟨o,6,none⟩=some (.bool s.fd)∧w.cell? ⟨o,7,none⟩=some (.int .i64 s.ls) :=
 ⟨Z2 h.obj,Z2 h.obj,Z2 h.obj,Z2 h.obj,Z2 h.obj,Z2 h.obj,Z2 h.obj,Z2 h.obj⟩
theorem Yb.fz(h:Yb W0 w o mb pb ev vp vo vk E s N)(j:Nat):w.frozen? ⟨o,j,none⟩=false:=hfz h.obj
theorem Yb.ol(h:Yb W0 w o mb pb ev vp vo vk E s N):o<w.heap.size:=hlt h.obj
theorem Yb.off(h:Yb W0 w o mb pb ev vp vo vk E s N):mb≠o∧pb≠o∧vp.ownBlock≠some o∧vo.ownBlock≠some o∧vk.ownBlock≠some o:=by
 refine⟨fun e=>?_,fun e=>?_,fun e=>?_,fun e=>?_,fun e=>?_⟩
 ·obtain⟨es,c,q⟩:=h.mn.obj
  rw[e,h.obj] at q;cases q
 ·obtain⟨es,c,q⟩:=h.mp.obj
  rw[e,h.obj] at q;cases q
 ·obtain⟨c,q⟩:=Y8 h.pa e
  rw[h.obj] at q
  injection q with q
  injection q with _ q _
  exact absurd q (by decide)
 ·obtain⟨c,q⟩:=Y8 h.op e
  rw[h.obj] at q
  injection q with q
  injection q with _ q _
  exact absurd q (by decide)
 ·obtain⟨c,q⟩:=Y8 h.kn e
  rw[h.obj] at q
  injection q with q
  injection q with _ q _
  exact absurd q (by decide)
theorem Yb.apart(h:Yb W0 w o mb pb ev vp vo vk E s N):(∀g,vk.ownBlock=some g→vp.ownBlock≠some g∧vo.ownBlock≠some g)∧(vp.ownBlock≠some mb∧vo.ownBlock≠some mb∧vk.ownBlock≠some mb)∧(vp.ownBlock≠some pb∧vo.ownBlock≠some pb∧vk.ownBlock≠some pb):=by
 obtain⟨es1,c1,q1⟩:=h.mn.obj
 obtain⟨es2,c2,q2⟩:=h.mp.obj
 refine⟨fun g hg=>⟨fun e=>?_,fun e=>?_⟩,⟨fun e=>?_,fun e=>?_,fun e=>?_⟩,⟨fun e=>?_,fun e=>?_,fun e=>?_⟩⟩
 ·obtain⟨c,q⟩:=Y8 h.kn hg
  obtain⟨c',q'⟩:=Y8 h.pa e
  rw[q] at q'
  injection q' with q'
  injection q' with _ q' _
  exact absurd q' (by decide)
 ·obtain⟨c,q⟩:=Y8 h.kn hg
  obtain⟨c',q'⟩:=Y8 h.op e
  rw[q] at q'
  injection q' with q'
  injection q' with _ q' _
  exact absurd q' (by decide)
 ·obtain⟨c,q⟩:=Y8 h.pa e
  rw[q1] at q;cases q
 ·obtain⟨c,q⟩:=Y8 h.op e
  rw[q1] at q;cases q
 ·obtain⟨c,q⟩:=Y8 h.kn e
  rw[q1] at q;cases q
 ·obtain⟨c,q⟩:=Y8 h.pa e
  rw[q2] at q;cases q
 ·obtain⟨c,q⟩:=Y8 h.op e
  rw[q2] at q;cases q
 ·obtain⟨c,q⟩:=Y8 h.kn e
  rw[q2] at q;cases q
theorem Yb.box(h:Yb W0 w o mb pb ev vp vo vk E s N)(t:Zf (fun k=>k=o) w w'){s':Gb}{vp' vo' vk':Value}
  (hb:w'.heap[o]?=some (.cells #[ev,.map (some mb),.map (some pb),vp',vo',vk',.bool s'.fd,.int .i64 s'.ls] 84 (0,0)))
  (h1:s'.nx=s.nx) (h2:s'.pl=s.pl) (pa:IS w' vp' s'.path) (op:IS w' vo' s'.op) (kn:Vm w' W0.heap.size vk' s'.kn)
  (pg:∀g,vp'.ownBlock=some g→W0.heap.size≤g) (og:∀g,vo'.ownBlock=some g→W0.heap.size≤g) (ne:∀g,vp'.ownBlock=some g→vo'.ownBlock≠some g) (bd:s'.path.length≤N∧s'.op.length≤N∧s'.kn.length≤N):Yb W0 w' o mb pb ev vp' vo' vk' E s' N:=by
 obtain⟨o1,o2,_⟩:=h.off
 refine⟨hb,h.ed,Zm h.nw t (fun i e=>by subst e;exact h.oW),?_,?_,pa,op,kn,h.oW,h.mW,h.pW,h.mne,pg,og,ne,bd⟩
 ·have e:fnx s'=fnx s:=by funext v;unfold fnx;rw[h1]
  rw[e];exact h.mn.tch t o1
 ·rw[h2];exact h.mp.tch t o2
theorem IS.keep{v:Value}{l:List Int}{j:Nat}(h:IS w v l)(t:Zf (fun k=>k=j) w w')(hn:v.ownBlock≠some j):IS w' v l:=h.tch t (fun g hg e=>hn (by rw[hg,e]))
theorem Y9{g0 e size n:Nat}{v:Value}{xs:List Value}{j:Nat}(h:w.ownsRow g0 e size v n xs)(t:Zf (fun k=>k=j) w w')(hn:v.ownBlock≠some j):w'.ownsRow g0 e size v n xs:=by
 refine⟨h.1,?_⟩
 rcases h.2 with h0 | ⟨g,cap,cur,rfl,hb,hg,rest⟩
 ·exact .inl h0
 ·exact .inr ⟨g,cap,cur,rfl,hb,(t.block g (Array.getElem?_eq_some_iff.1 hg).1 (fun e=>hn (by rw[←e];rfl))).trans hg,rest⟩
end
theorem Z0p{α:Type}{row:α→List Value}{sz:Nat}(hl:∀a,(row a).length=sz):∀(q:List α) (k:Nat) (hk:k<q.length) (j:Nat) (hj:j<sz) (u:Value) (x:α) (e:(row q[k]).set j u=row x),(Z7 row q).set (k*sz+j) u=Z7 row (q.set k x)
 | a::q,0,hk,j,hj,u,x,e=>by
  show(row a++Z7 row q).set (0*sz+j) u=row x++Z7 row q
  rw[Nat.zero_mul,Nat.zero_add,List.set_append_left _ _ (by rw[hl];exact hj)]
  exact congrArg (·++_) e
 | a::q,k+1,hk,j,hj,u,x,e=>by
  show(row a++Z7 row q).set ((k+1)*sz+j) u=row a++Z7 row (q.set k x)
  rw[List.set_append_right _ _ (by rw[hl,Nat.add_mul];omega),hl,show(k+1)*sz+j-sz=k*sz+j by rw[Nat.add_mul];omega,Z0p hl q k (by simpa using hk) j hj u x e]
theorem Vm.cell{w:World}{g0 g cap n:Nat}{q:List Kn}(h:Vm w g0 (.slice (some ⟨g,0,none⟩) n cap) q)(hn:n=q.length)(k:Nat)(hk:k<q.length):w.cell? ⟨g,k*2,none⟩=some (.int .i64 q[k].f)∧w.cell? ⟨g,k*2+1,none⟩=some (.bool q[k].lp):=by
 subst hn
 refine⟨(World.ownsRow.cellAt h (k*2) (by omega)).trans ?_,(World.ownsRow.cellAt h (k*2+1) (by omega)).trans ?_⟩
 ·have:=Yg (row:=Uk) (sz:=2) (fun _=>rfl) q k 0 hk (by decide)
  rw[Nat.add_zero] at this
  rw[this];rfl
 ·rw[Yg (row:=Uk) (sz:=2) (fun _=>rfl) q k 1 hk (by decide)];rfl
section
variable {W0 w:World} {o N:Nat} {ev:Value} {E:List (Int × Int)} {s:Gb}
theorem Yb.note{mb pb:Nat}{vp vo vk:Value}(h:Yb W0 w o mb pb ev vp vo vk E s N)(m:Int):Yb W0 ((w.setCell ⟨o,6,none⟩ (.bool true)).setCell ⟨o,7,none⟩ (.int .i64 m)) o mb pb ev vp vo vk E { s with fd:=true,ls:=m } N:=by
 obtain⟨o1,o2,o3,o4,o5⟩:=h.off
 have t:Zf (fun k=>k=o) w ((w.setCell ⟨o,6,none⟩ (.bool true)).setCell ⟨o,7,none⟩ (.int .i64 m)):=((Zf.refl (fun k=>k=o) w).set (p:=⟨o,6,none⟩) (.inl rfl) _).set (p:=⟨o,7,none⟩) (.inl rfl) _
 exact h.box t (hset (.int .i64 m) (hset (.bool true) h.obj)) rfl rfl (h.pa.keep t o3) (h.op.keep t o4) (Y9 h.kn t o5) h.pg h.og h.ne h.bd
theorem Zam{mb pb:Nat}{vp vo vk:Value}(h:Yb W0 w o mb pb ev vp vo vk E s N)(m:Int):Calls prog 94 #[.pointer (some ⟨o,0,none⟩),.int .i64 m] w fun e w'=>e=.returned (.tuple #[])∧Yb W0 w' o mb pb ev vp vo vk E (Zl s true m) N∧Zf (fun k=>k=o) w w':=by
 obtain⟨_,_,_,_,_,_,c6,c7⟩:=h.c
 have hol:=h.ol
 have fz:=h.fz
 have HW:=hD0 h
 clear h
 obtain⟨fd,hfd⟩:∃b,s.fd=b:=⟨_,rfl⟩
 obtain⟨ls,hls⟩:∃x,s.ls=x:=⟨_,rfl⟩
 rw[hfd] at c6
 rw[hls] at c7
 cases fd with
 | false =>
  have HR:=hD0 (show Zl s true m={ s with fd:=true,ls:=m } from if_pos ⟨rfl,.inl hfd⟩)
  clear hfd hls
  go_enter func94,ntmps94
  go_wp2
  refine bodyPost_end (results_none rfl _ _ _) rfl ?_
  rw[HR.out]
  exact⟨rfl,HW.out.note m,((Zf.refl (fun k=>k=o) w).set (p:=⟨o,6,none⟩) (.inl rfl) _).set (p:=⟨o,7,none⟩) (.inl rfl) _⟩
 | true =>
  by_cases q:m<ls
  ·have HR:=hD0 (show Zl s true m={ s with fd:=true,ls:=m } from if_pos ⟨rfl,.inr (by rw[hls];exact q)⟩)
   have d:decide (m<ls)=true:=by simpa using q
   clear hfd hls q
   go_enter func94,ntmps94
   go_wp2
   refine bodyPost_end (results_none rfl _ _ _) rfl ?_
   rw[HR.out]
   exact⟨rfl,HW.out.note m,((Zf.refl (fun k=>k=o) w).set (p:=⟨o,6,none⟩) (.inl rfl) _).set (p:=⟨o,7,none⟩) (.inl rfl) _⟩
  ·have HR:=hD0 (show Zl s true m=s from if_neg (fun k=>by
    rcases k.2 with x | x
    ·rw[hfd] at x;cases x
    ·rw[hls] at x;exact q x))
   have d:decide (m<ls)=false:=by simpa using q
   clear hfd hls q
   go_enter func94,ntmps94
   go_wp2
   refine bodyPost_end (results_none rfl _ _ _) rfl ?_
   rw[HR.out]
   exact⟨rfl,HW.out,Zf.refl _ w⟩
theorem Yb.tie{mb pb gk cap n:Nat}{vp vo:Value}(h:Yb W0 w o mb pb ev vp vo (.slice (some ⟨gk,0,none⟩) n cap) E s N)(hn:n=s.kn.length){K K':List Kn}{k0:Kn}(hk:s.kn=K++k0::K') :
  Yb W0 ((w.setCell ⟨o,5,none⟩ (.slice (some ⟨gk,0,none⟩) (K.length+1) cap)).setCell ⟨gk,K.length*2+1,none⟩ (.bool true)) o mb pb ev vp vo (.slice (some ⟨gk,0,none⟩) (K.length+1) cap) E (Uu s K k0) N:=by
 subst hn
 obtain⟨o1,o2,o3,o4,o5⟩:=h.off
 obtain⟨a1,⟨a2,a3,a4⟩,a5,a6,a7⟩:=h.apart
 have hgo:gk≠o:=fun e=>o5 (by rw[e];rfl)
 have t1:Zf (fun k=>k=o) w (w.setCell ⟨o,5,none⟩ (.slice (some ⟨gk,0,none⟩) (K.length+1) cap)):=(Zf.refl (fun k=>k=o) w).set (p:=⟨o,5,none⟩) (.inl rfl) _
 have hlen:K.length+1≤s.kn.length:=by rw[hk];simp
 have hc:=h.kn.cut hlen
 have hbd:=h.bd
 have hw:=h.nw
 have htake:s.kn.take (K.length+1)=K++[k0]:=by
  rw[hk,show K++k0::K'=(K++[k0])++K' by simp]
  exact List.take_left' (by simp)
 rw[htake] at hc
 have h1:Yb W0 (w.setCell ⟨o,5,none⟩ (.slice (some ⟨gk,0,none⟩) (K.length+1) cap)) o mb pb ev vp vo (.slice (some ⟨gk,0,none⟩) (K.length+1) cap) E { s with kn:=K++[k0] } N :=
  h.box t1 (hset _ h.obj) rfl rfl (h.pa.keep t1 o3) (h.op.keep t1 o4) (Y9 hc t1 (fun e=>hgo (Option.some.inj e))) h.pg h.og h.ne ⟨hbd.1,hbd.2.1,by show(K++[k0]).length≤N;simp;omega⟩
 obtain⟨w1,hw1⟩:∃w1,w.setCell ⟨o,5,none⟩ (.slice (some ⟨gk,0,none⟩) (K.length+1) cap)=w1:=⟨_,rfl⟩
 rw[hw1] at h1 ⊢
 have t2:Zf (fun k=>k=gk) w1 (w1.setCell ⟨gk,K.length*2+1,none⟩ (.bool true)):=(Zf.refl (fun k=>k=gk) w1).set (p:=⟨gk,K.length*2+1,none⟩) (.inl rfl) _
 have hkn:=h1.kn
 have hkl1:(K++[k0]).length=K.length+1:=by simp
 unfold Vm Zu at hkn
 simp only at hkn
 rw[hkl1] at hkn
 have hst:=(World.ownsRow.stored hkn (K.length*2+1) (.bool true)).1
 have hkl:K.length<(K++[k0]).length:=by simp
 rw[Z0p (row:=Uk) (sz:=2) (fun _=>rfl) (K++[k0]) K.length hkl 1 (by decide) (.bool true) ⟨k0.f,true⟩ (by simp[Uk])] at hst
 have hset':(K++[k0]).set K.length (⟨k0.f,true⟩:Kn)=K++[⟨k0.f,true⟩]:=by simp
 rw[hset'] at hst
 obtain⟨b1,⟨b2,b3,b4⟩,b5,b6,b7⟩:=h1.apart
 obtain⟨b8,b9⟩:=b1 gk rfl
 refine⟨(t2.block o h1.ol (fun e=>hgo e.symm)).trans h1.obj,h1.ed,Zm h1.nw t2 (fun i e=>by subst e;exact Va h1.kn rfl),h1.mn.tch t2 (fun e=>b4 (by rw[e];rfl)),h1.mp.tch t2 (fun e=>b7 (by rw[e];rfl)),h1.pa.keep t2 b8,h1.op.keep t2 b9,?_,h1.oW,h1.mW,h1.pW,h1.mne,h1.pg,h1.og,h1.ne,?_⟩
 ·show Zu _ _ _ _ _ _ (K++[(⟨k0.f,true⟩:Kn)])
  unfold Zu
  have:(K++[(⟨k0.f,true⟩:Kn)]).length=K.length+1:=by simp
  rw[this]
  exact hst
 ·have:=h1.bd
  exact⟨this.1,this.2.1,by show(K++[(⟨k0.f,true⟩:Kn)]).length≤N;have:=this.2.2;simp at this ⊢;exact this⟩
theorem Z9j(h:Wk W0 w o ev E s N)(hN:N≤1000000)(p:Nat){K K':List Kn}{k0:Kn}(hk:s.kn=K++k0::K')(h0:k0.f≤p)(h1:∀k∈K',p<k.f) :
  Calls prog 93 #[.pointer (some ⟨o,0,none⟩),.int .i64 p] w fun e w'=>e=.returned (.tuple #[])∧Wk W0 w' o ev E (Uu s K k0) N:=by
 obtain⟨mb,pb,vp,vo,vk,h⟩:=h
 obtain⟨_,_,_,_,_,c5,_,_⟩:=h.c
 have hol:=h.ol
 have fz:=h.fz
 have hlen:s.kn.length=K.length+1+K'.length:=by rw[hk];simp;omega
 have hbd:=h.bd.2.2
 obtain⟨gk,cap,rfl⟩:∃g cap,vk=.slice (some ⟨g,0,none⟩) s.kn.length cap:=by
  rcases Ve h.kn with⟨_,q⟩ | ⟨g,cap,q⟩
  ·omega
  ·exact⟨g,cap,q⟩
 have hcap:s.kn.length≤cap:=by
  rcases h.kn.2 with⟨q,_⟩ | ⟨g',cap',cur,q,_,_,q4,_⟩
  ·simp at q
  ·simp only[Value.slice.injEq] at q
   omega
 have hgl:=Ut h.kn (g:=gk) rfl
 have hgz:=hfz (j:=K.length*2+1) (Y8 h.kn (g:=gk) rfl).choose_spec
 have hne:¬gk=o:=fun e=>h.off.2.2.2.2 (by rw[e];rfl)
 have hne2:¬o=gk:=fun e=>hne e.symm
 have HM:=hD0 (h.tie rfl hk)
 have hce:∀t,t<s.kn.length→∃f:Nat,w.cell? ⟨gk,t*2,none⟩=some (.int .i64 f)∧(K.length<t→p<f)∧(t=K.length→f≤p):=fun t ht=>by
  refine⟨s.kn[t].f,(h.kn.cell rfl t ht).1,fun hlt=>?_,fun e=>?_⟩
  ·have:s.kn[t]∈K':=by
    have e:s.kn[t]?=some s.kn[t]:=List.getElem?_eq_getElem ht
    have e2:s.kn[t]?=K'[t-K.length-1]?:=by
     rw[hk,List.getElem?_append_right (by omega)]
     obtain⟨d,hd⟩:∃d,t-K.length=d+1:=⟨t-K.length-1,by omega⟩
     rw[hd,List.getElem?_cons_succ];rfl
    rw[e2] at e
    exact List.mem_of_getElem? e
   exact h1 _ this
  ·subst e
   have e:s.kn[K.length]?=some s.kn[K.length]:=List.getElem?_eq_getElem ht
   have e2:s.kn[K.length]?=some k0:=by rw[hk];simp
   rw[e2] at e
   rw[←Option.some.inj e];exact h0
 have hcl:∃b,w.cell? ⟨gk,K.length*2+1,none⟩=some (.bool b):=⟨_,(h.kn.cell rfl K.length (by omega)).2⟩
 obtain⟨n,hn⟩:∃n,s.kn.length=n:=⟨_,rfl⟩
 obtain⟨j,hj⟩:∃j,K.length=j:=⟨_,rfl⟩
 rw[hn] at c5 hlen hbd hcap hce
 rw[hj] at hlen hgz HM hce hcl
 have HK:=hD0 hce
 obtain⟨bl,hcl⟩:=hcl
 have hjn:j<n:=by omega
 obtain⟨n1,hn1,hjn1,hn1n⟩:=Z55 hjn
 obtain⟨j1,hj1⟩:∃j1,j1=j+1:=⟨_,rfl⟩
 have hd1:=V8 n n1 (by omega) hn1
 have hd2:=Zo j j1 (by omega) hj1
 have hjc:j1≤cap:=by omega
 have hjc':(j1:Int)≤(cap:Int):=by omega
 have hj1n:0≤(j1:Int):=by omega
 have hjj:j<j1:=by omega
 have hjj':(j:Int)<(j1:Int):=by omega
 rw[←hj1] at HM
 have hn0:0<n:=by omega
 have HB:=hD0 (show n≤1000000 by omega)
 have HN1:=hD0 (aI0 hjn1 hn1n)
 clear hce h hk h1 hn hj hbd hlen h0 hn1 hj1 hjn1 hn1n
 go_enter func93,ntmps93
 go_wp2
 go_loopw [4] (fun v wr=>∃t:Nat,v=.int .i64 t∧j≤t∧t<n∧wr=w) (fun v _=>(intOf v).toNat)
 case atStart=>exact⟨n1,rfl,HN1.out.1,HN1.out.2,rfl⟩
 case round =>
  obtain⟨t,rfl,hjt,htn,rfl⟩:=hrel
  obtain⟨f,ct,hf1,hf2⟩:=HK.out t htn
  have htn':=Zp htn
  by_cases q:j<t
  ·obtain⟨d1,d2⟩:=Z8p (hf1 q)
   obtain⟨t1,e1,hjt1,ht1t⟩:=Z55 q
   have ht1:=V8 t t1 (Nat.le_trans (Nat.le_of_lt htn) HB.out) e1
   have HQ:=hD0 (aI0 hjt1 (aI0 (Nat.lt_trans ht1t htn) e1))
   clear hf1 hf2 hjt q e1 hjt1 ht1t
   go_wp2
   go_roundw
   case rel=>exact⟨t1,rfl,HQ.out.1,HQ.out.2.1,by first | rfl | trivial⟩
   case measure=>exact Zbw HQ.out.2.2
  ·obtain rfl:j=t:=Nat.le_antisymm hjt (Nat.le_of_not_lt q)
   obtain⟨d1,d2⟩:=Z6v (Nat.not_lt.2 (hf2 rfl))
   clear hf1 hf2 q
   go_wp2
   refine bodyPost_end (results_none rfl _ _ _) rfl ?_
   exact⟨rfl,mb,pb,vp,vo,_,HM.out⟩
end
theorem Z1l{P:Program}{ops:Array Oper}{o:Oper}{a:Act}{w:World}{K:Act→World→Prop}{Q:Exit→Act→World→Prop}{E:Prop}(hgd:Region.wanted o (yielded ops a.tmps)=true)(m x u:Operand)(t:TypeId)(ho:o.op=Op.mapUpdate t m x u)
  (M X V:Value) (w':World) (hm:a.eval m=M) (hx:a.eval x=X) (hu:a.eval u=V) (hr:(Instr.mapUpdate t M X V).run P w=.ok () w') (h:K (a.put o.dst undef) w'):if Region.wanted o (yielded ops a.tmps)=true then Oper.wp P o a w K Q else E:=by
 rw[if_pos hgd]
 unfold Oper.wp
 simp[execOp,ho,hm,hx,hu,hr,Result.andThen]
 exact h
theorem Z8w(s:Gb)(k:Int)(m:Nat):fnx { s with nx:=Zq s.nx k m }=Zq (fnx s) k (m:Int):=by
 funext v
 show(if v=k then some m else s.nx v).map Int.ofNat=if v=k then some (m:Int) else(s.nx v).map Int.ofNat
 by_cases q:v=k
 ·rw[if_pos q,if_pos q];rfl
 ·rw[if_neg q,if_neg q]
section
variable {W0 w w':World} {o mb pb N N':Nat} {ev vp vo vk:Value} {E:List (Int × Int)} {s:Gb}
theorem Z29{b:Nat}(hg:w.grownBy w' (some b)):Zf (fun k=>k=b) w w':=(Zf.refl (fun k=>k=b) w).grown hg (fun k e=>.inl (Option.some.inj e).symm)
theorem Yb.next(h:Yb W0 w o mb pb ev vp vo vk E s N){k:Int}{m:Nat}(hm:Zd w' mb (Zq (fnx s) k m) N')(hg:w.grownBy w' (some mb))(hN:N≤N'):Yb W0 w' o mb pb ev vp vo vk E { s with nx:=Zq s.nx k m } N':=by
 obtain⟨o1,o2,o3,o4,o5⟩:=h.off
 obtain⟨a1,⟨a2,a3,a4⟩,a5,a6,a7⟩:=h.apart
 have t:=Z29 hg
 refine⟨(t.block o h.ol (fun e=>o1 e.symm)).trans h.obj,h.ed,Zm h.nw t (fun i e=>by subst e;exact h.mW),?_,(h.mp.tch t (fun e=>h.mne e.symm)).le hN,h.pa.keep t a2,h.op.keep t a3,Y9 h.kn t a4,h.oW,h.mW,h.pW,h.mne,h.pg,h.og,h.ne,?_⟩
 ·rw[Z8w];exact hm
 ·obtain⟨b1,b2,b3⟩:=h.bd
  exact⟨Nat.le_trans b1 hN,Nat.le_trans b2 hN,Nat.le_trans b3 hN⟩
theorem Yb.plc(h:Yb W0 w o mb pb ev vp vo vk E s N){k p:Int}(hm:Zd w' pb (Zq s.pl k p) N')(hg:w.grownBy w' (some pb))(hN:N≤N'):Yb W0 w' o mb pb ev vp vo vk E { s with pl:=Zq s.pl k p } N':=by
 obtain⟨o1,o2,o3,o4,o5⟩:=h.off
 obtain⟨a1,⟨a2,a3,a4⟩,a5,a6,a7⟩:=h.apart
 have t:=Z29 hg
 refine⟨(t.block o h.ol (fun e=>o2 e.symm)).trans h.obj,h.ed,Zm h.nw t (fun i e=>by subst e;exact h.pW),(h.mn.tch t h.mne).le hN,hm,h.pa.keep t a5,h.op.keep t a6,Y9 h.kn t a7,h.oW,h.mW,h.pW,h.mne,h.pg,h.og,h.ne,?_⟩
 obtain⟨b1,b2,b3⟩:=h.bd
 exact⟨Nat.le_trans b1 hN,Nat.le_trans b2 hN,Nat.le_trans b3 hN⟩
def BxO(w w':World)(o:Nat):Prop:=(∀j,w'.cell? ⟨o,j,none⟩=w.cell? ⟨o,j,none⟩)∧(∀j,w'.frozen? ⟨o,j,none⟩=w.frozen? ⟨o,j,none⟩)∧o<w'.heap.size
theorem Z1p{S:Nat→Prop}(t:Zf S w w')(hl:o<w.heap.size)(hn:¬S o):BxO w w' o:=⟨fun j=>t.cell hl hn,fun j=>t.froz hl hn,lL0 hl t.size⟩
def Nk(w:World)(o:Nat)(vk:Value)(oa:Option Addr)(oc n:Nat)(x:World):Prop:=x.cell? ⟨o,5,none⟩=some vk∧x.cell? ⟨o,4,none⟩=some (.slice oa n oc)∧o<x.heap.size
theorem Yb.pushK(h:Yb W0 w o mb pb ev vp vo vk E s N)(f:Nat)(hl:s.kn.length<N)(hN:N≤100000) :
  ∃g cap w2,(Builtin.append_ #[82,82] 82 #[vk,.slice (some ⟨w.heap.size,0,none⟩) 1 1]).run prog (w.alloc (.cells #[.int .i64 f,.bool false] 120))=.ok (.slice (some ⟨g,0,none⟩) (s.kn.length+1) cap) w2∧BxO w w2 o ∧
   Yb W0 (w2.setCell ⟨o,5,none⟩ (.slice (some ⟨g,0,none⟩) (s.kn.length+1) cap)) o mb pb ev vp vo (.slice (some ⟨g,0,none⟩) (s.kn.length+1) cap) E { s with kn:=s.kn++[⟨f,false⟩] } N:=by
 obtain⟨o1,o2,o3,o4,o5⟩:=h.off
 obtain⟨a1,⟨a2,a3,a4⟩,a5,a6,a7⟩:=h.apart
 have hal:=Z4 w (.cells #[.int .i64 f,.bool false] 120)
 have g0:Nw w (w.alloc (.cells #[.int .i64 f,.bool false] 120)):=(Nw.refl w).alloc _
 obtain⟨z,hz⟩:∃z,w.alloc (.cells #[.int .i64 f,.bool false] 120)=z:=⟨_,rfl⟩
 rw[hz] at hal g0 ⊢
 obtain⟨v',w2,hr,hO,hg,hp,g,cap,rfl⟩:=Zu.push Zaf (Yo h.kn g0) (⟨f,false⟩:Kn) w.heap.size 1 (fun j u hu=>by
  rw[Z2 hal]
  simpa [Uk] using hu) (by omega) (h.nw.trans g0).sz
 have t0:Zf (fun k=>vk.ownBlock=some k) w w2:=(Zf.nw g0).grown hg (fun k e=>.inl e)
 have hb:=Z1p t0 h.ol o5
 refine⟨g,cap,w2,hr,hb,?_⟩
 have t1:Zf (fun k=>k=o) w2 (w2.setCell ⟨o,5,none⟩ (.slice (some ⟨g,0,none⟩) (s.kn.length+1) cap)):=(Zf.refl (fun k=>k=o) w2).set (p:=⟨o,5,none⟩) (.inl rfl) _
 have ho:w2.heap[o]?=_:=(t0.block o h.ol o5).trans h.obj
 have hnw2:Nw W0 w2:=Zm h.nw t0 (fun i e=>Va h.kn e)
 have hgo:g≠o:=fun e=>by
  obtain⟨c,q⟩:=Y8 hO (g:=g) rfl
  rw[e,ho] at q
  injection q with q
  injection q with _ q _
  exact absurd q (by decide)
 refine⟨hset _ ho,h.ed,Zm hnw2 t1 (fun i e=>by subst e;exact h.oW),(h.mn.tch t0 a4).tch t1 o1,(h.mp.tch t0 a7).tch t1 o2,(h.pa.tch t0 (fun k hk e=>(a1 k e).1 hk)).keep t1 o3,(h.op.tch t0 (fun k hk e=>(a1 k e).2 hk)).keep t1 o4,?_,h.oW,h.mW,h.pW,h.mne,h.pg,h.og,h.ne,?_⟩
 ·exact Y9 hO t1 (fun e=>hgo (Option.some.inj e))
 ·obtain⟨b1,b2,b3⟩:=h.bd
  exact⟨b1,b2,by show(s.kn++[_]).length≤N;simp;omega⟩
theorem Yb.pushO(h:Yb W0 w o mb pb ev vp vo vk E s N)(u:Int)(hl:s.op.length<N)(hN:N≤100000) :
  ∃g cap w2,(Builtin.append_ #[24,24] 24 #[vo,.slice (some ⟨w.heap.size,0,none⟩) 1 1]).run prog (w.alloc (.cells #[.int .i64 u] 3))=.ok (.slice (some ⟨g,0,none⟩) (s.op.length+1) cap) w2∧BxO w w2 o ∧
   Yb W0 (w2.setCell ⟨o,4,none⟩ (.slice (some ⟨g,0,none⟩) (s.op.length+1) cap)) o mb pb ev vp (.slice (some ⟨g,0,none⟩) (s.op.length+1) cap) vk E { s with op:=s.op++[u] } N:=by
 obtain⟨o1,o2,o3,o4,o5⟩:=h.off
 obtain⟨a1,⟨a2,a3,a4⟩,a5,a6,a7⟩:=h.apart
 obtain⟨v',w2,hr,hI,t0,hk,g,cap,rfl⟩:=IS.push w vo s.op u h.op (by omega)
 have hb:=Z1p t0 h.ol o4
 refine⟨g,cap,w2,hr,hb,?_⟩
 have t1:Zf (fun k=>k=o) w2 (w2.setCell ⟨o,4,none⟩ (.slice (some ⟨g,0,none⟩) (s.op.length+1) cap)):=(Zf.refl (fun k=>k=o) w2).set (p:=⟨o,4,none⟩) (.inl rfl) _
 have ho:w2.heap[o]?=_:=(t0.block o h.ol o4).trans h.obj
 have hnw2:Nw W0 w2:=Zm h.nw t0 (fun i e=>h.og i e)
 have hgo:g≠o:=fun e=>by
  obtain⟨c,q⟩:=Y8 hI (g:=g) rfl
  rw[e,ho] at q
  injection q with q
  injection q with _ q _
  exact absurd q (by decide)
 have hgW:W0.heap.size≤g:=by
  rcases hk g rfl with e | e
  ·exact h.og g e
  ·exact Nat.le_trans h.nw.sz e
 refine⟨hset _ ho,h.ed,Zm hnw2 t1 (fun i e=>by subst e;exact h.oW),(h.mn.tch t0 a3).tch t1 o1,(h.mp.tch t0 a6).tch t1 o2,(h.pa.tch t0 (fun k hk e=>h.ne k hk e)).keep t1 o3,hI.keep t1 (fun e=>hgo (Option.some.inj e)),?_,h.oW,h.mW,h.pW,h.mne,h.pg,?_,?_,?_⟩
 ·refine Y9 ?_ t1 o5
  refine⟨h.kn.1,?_⟩
  rcases h.kn.2 with h0 | ⟨g',cap',cur,rfl,hb',hg',rest⟩
  ·exact .inl h0
  ·exact .inr ⟨g',cap',cur,rfl,hb',(t0.block g' (hlt hg') (fun e=>(a1 g' rfl).2 e)).trans hg',rest⟩
 ·intro k e
  rw[←Option.some.inj e];exact hgW
 ·intro k hkp e
  have e':g=k:=Option.some.inj e
  subst e'
  rcases hk g rfl with q | q
  ·exact h.ne g hkp q
  ·have:=h.pa.lt hkp
   omega
 ·obtain⟨b1,b2,b3⟩:=h.bd
  exact⟨b1,by show(s.op++[_]).length≤N;simp;omega,b3⟩
theorem Yb.pushP(h:Yb W0 w o mb pb ev vp vo vk E s N)(u:Int)(hl:s.path.length<N)(hN:N≤100000) :
  ∃g cap w2,(Builtin.append_ #[24,24] 24 #[vp,.slice (some ⟨w.heap.size,0,none⟩) 1 1]).run prog (w.alloc (.cells #[.int .i64 u] 3))=.ok (.slice (some ⟨g,0,none⟩) (s.path.length+1) cap) w2∧BxO w w2 o ∧
   Yb W0 (w2.setCell ⟨o,3,none⟩ (.slice (some ⟨g,0,none⟩) (s.path.length+1) cap)) o mb pb ev (.slice (some ⟨g,0,none⟩) (s.path.length+1) cap) vo vk E { s with path:=s.path++[u] } N:=by
 obtain⟨o1,o2,o3,o4,o5⟩:=h.off
 obtain⟨a1,⟨a2,a3,a4⟩,a5,a6,a7⟩:=h.apart
 obtain⟨v',w2,hr,hI,t0,hk,g,cap,rfl⟩:=IS.push w vp s.path u h.pa (by omega)
 have hb:=Z1p t0 h.ol o3
 refine⟨g,cap,w2,hr,hb,?_⟩
 have t1:Zf (fun k=>k=o) w2 (w2.setCell ⟨o,3,none⟩ (.slice (some ⟨g,0,none⟩) (s.path.length+1) cap)):=(Zf.refl (fun k=>k=o) w2).set (p:=⟨o,3,none⟩) (.inl rfl) _
 have ho:w2.heap[o]?=_:=(t0.block o h.ol o3).trans h.obj
 have hnw2:Nw W0 w2:=Zm h.nw t0 (fun i e=>h.pg i e)
 have hgo:g≠o:=fun e=>by
  obtain⟨c,q⟩:=Y8 hI (g:=g) rfl
  rw[e,ho] at q
  injection q with q
  injection q with _ q _
  exact absurd q (by decide)
 have hgW:W0.heap.size≤g:=by
  rcases hk g rfl with e | e
  ·exact h.pg g e
  ·exact Nat.le_trans h.nw.sz e
 refine⟨hset _ ho,h.ed,Zm hnw2 t1 (fun i e=>by subst e;exact h.oW),(h.mn.tch t0 a2).tch t1 o1,(h.mp.tch t0 a5).tch t1 o2,hI.keep t1 (fun e=>hgo (Option.some.inj e)),(h.op.tch t0 (fun k hk e=>h.ne k e hk)).keep t1 o4,?_,h.oW,h.mW,h.pW,h.mne,?_,h.og,?_,?_⟩
 ·refine Y9 ?_ t1 o5
  refine⟨h.kn.1,?_⟩
  rcases h.kn.2 with h0 | ⟨g',cap',cur,rfl,hb',hg',rest⟩
  ·exact .inl h0
  ·exact .inr ⟨g',cap',cur,rfl,hb',(t0.block g' (hlt hg') (fun e=>(a1 g' rfl).1 e)).trans hg',rest⟩
 ·intro k e
  rw[←Option.some.inj e];exact hgW
 ·intro k e hko
  have e':g=k:=Option.some.inj e
  subst e'
  rcases hk g rfl with q | q
  ·exact h.ne g q hko
  ·have:=h.op.lt hko
   omega
 ·obtain⟨b1,b2,b3⟩:=h.bd
  exact⟨by show(s.path++[_]).length≤N;simp;omega,b2,b3⟩
theorem Z34(h:Wk W0 w o ev E s N)(hN:N+2≤100000)(hl:E.length≤100000)(hs:Zn E){u:Int}(hu:Z8 u)(hp:s.pl u=none) :
  Calls prog 73 #[.pointer (some ⟨o,0,none⟩),.int .i64 u] w fun e w'=>e=.returned (.tuple #[])∧Wk W0 w' o ev E (Y4 E s u) (N+2):=by
 obtain⟨mb,pb,vp,vo,vk,h⟩:=h
 obtain⟨c0,c1,c2,c3,c4,c5,c6,c7⟩:=h.c
 have hol:=h.ol
 have hlk:=h.mp.look_no hu hp
 obtain⟨oa,oc,rfl,_⟩:=h.op.box
 have HS:=hD0 (fun(x:World) (g:Nw w x)=>Z1k u ev E x hl hs (h.ed.nw (h.nw.trans g)))
 have HW:=hD0 h
 have HU:=hD0 (aI0 hN (aI0 hu h.bd))
 clear h c6 c7 c3 hN hu hp hl hs
 go_enter func73,ntmps73
 go_wp2_with fail
 refine Zb [11] (Nw w) (by kernel_rfl) ?_
 change Za _ _ _ _ _ _ 12 #[false,false,false,false,false,false,false,false,false,false,false,false] _ w.drew
 obtain⟨y0,hy0⟩:∃y,w.drew=y:=⟨_,rfl⟩
 rw[hy0]
 have hS0:Nw w y0:=by rw[←hy0];exact(Nw.refl w).dr
 have t0:∀x,Nw w x→x.cell? ⟨o,0,none⟩=some ev:=fun x g=>g.kp c0
 have t1:∀x,Nw w x→x.cell? ⟨o,1,none⟩=some (.map (some mb)):=fun x g=>g.kp c1
 clear hy0 c0 c1 c2 c4 c5 hlk hol
 refine Z1 0 rfl (by kernel_rfl) (by kernel_rfl) (by kernel_rfl) (by kernel_rfl) (fun v c a w h=>h) hS0 ?_
 (first | (refine⟨undef,Or.inr ⟨by rfl,rfl⟩,?_⟩) | (apply Exists.intro;refine⟨Or.inl ⟨by rfl,?_⟩,?_⟩;(intro x hx';go_simp;first | done | with_reducible rfl)))
 (try simp only[Act.put,List.getElem_toArray,List.getElem_cons_zero,List.getElem_cons_succ,List.setIfInBounds_toArray,List.set_cons_zero,List.set_cons_succ])
 refine Z1 1 rfl (by kernel_rfl) (by kernel_rfl) (by kernel_rfl) (by kernel_rfl) (fun v c a w h=>h) hS0 ?_
 (first | (refine⟨undef,Or.inr ⟨by rfl,rfl⟩,?_⟩) | (apply Exists.intro;refine⟨Or.inl ⟨by rfl,?_⟩,?_⟩;(intro x hx';go_simp;first | done | with_reducible rfl)))
 (try simp only[Act.put,List.getElem_toArray,List.getElem_cons_zero,List.getElem_cons_succ,List.setIfInBounds_toArray,List.set_cons_zero,List.set_cons_succ])
 refine Z1 2 rfl (by kernel_rfl) (by kernel_rfl) (by kernel_rfl) (by kernel_rfl) (fun v c a w h=>h) hS0 ?_
 (first | (refine⟨undef,Or.inr ⟨by rfl,rfl⟩,?_⟩) | (apply Exists.intro;refine⟨Or.inl ⟨by rfl,?_⟩,?_⟩;(intro x hx';go_simp;first | done | with_reducible rfl)))
 (try simp only[Act.put,List.getElem_toArray,List.getElem_cons_zero,List.getElem_cons_succ,List.setIfInBounds_toArray,List.set_cons_zero,List.set_cons_succ])
 refine Z1 3 rfl (by kernel_rfl) (by kernel_rfl) (by kernel_rfl) (by kernel_rfl) (fun v c a w h=>h) hS0 ?_
 (first | (refine⟨undef,Or.inr ⟨by rfl,rfl⟩,?_⟩) | (apply Exists.intro;refine⟨Or.inl ⟨by rfl,?_⟩,?_⟩;(intro x hx';go_simp;first | done | with_reducible rfl)))
 (try simp only[Act.put,List.getElem_toArray,List.getElem_cons_zero,List.getElem_cons_succ,List.setIfInBounds_toArray,List.set_cons_zero,List.set_cons_succ])
 refine Z1 4 rfl (by kernel_rfl) (by kernel_rfl) (by kernel_rfl) (by kernel_rfl) (fun v c a w h=>h) hS0 ?_
 (first | (refine⟨undef,Or.inr ⟨by rfl,rfl⟩,?_⟩) | (apply Exists.intro;refine⟨Or.inl ⟨by rfl,?_⟩,?_⟩;(intro x hx';go_simp;first | done | with_reducible rfl)))
 (try simp only[Act.put,List.getElem_toArray,List.getElem_cons_zero,List.getElem_cons_succ,List.setIfInBounds_toArray,List.set_cons_zero,List.set_cons_succ])
 refine Z1 5 rfl (by kernel_rfl) (by kernel_rfl) (by kernel_rfl) (by kernel_rfl) (fun v c a w h=>h) hS0 ?_
 (first | (refine⟨undef,Or.inr ⟨by rfl,rfl⟩,?_⟩) | (apply Exists.intro;refine⟨Or.inl ⟨by rfl,?_⟩,?_⟩;(intro x hx';go_simp;first | done | with_reducible rfl)))
 (try simp only[Act.put,List.getElem_toArray,List.getElem_cons_zero,List.getElem_cons_succ,List.setIfInBounds_toArray,List.set_cons_zero,List.set_cons_succ])
 refine Z1 6 rfl (by kernel_rfl) (by kernel_rfl) (by kernel_rfl) (by kernel_rfl) (fun v c a w h=>h) hS0 ?_
 (first | (refine⟨undef,Or.inr ⟨by rfl,rfl⟩,?_⟩) | (apply Exists.intro;refine⟨Or.inl ⟨by rfl,?_⟩,?_⟩;(intro x hx';go_simp;first | done | with_reducible rfl)))
 (try simp only[Act.put,List.getElem_toArray,List.getElem_cons_zero,List.getElem_cons_succ,List.setIfInBounds_toArray,List.set_cons_zero,List.set_cons_succ])
 refine Z1 7 rfl (by kernel_rfl) (by kernel_rfl) (by kernel_rfl) (by kernel_rfl) (fun v c a w h=>h) hS0 ?_
 (first | (refine⟨undef,Or.inr ⟨by rfl,rfl⟩,?_⟩) | (apply Exists.intro;refine⟨Or.inl ⟨by rfl,?_⟩,?_⟩;(intro x hx';go_simp;first | done | with_reducible rfl)))
 (try simp only[Act.put,List.getElem_toArray,List.getElem_cons_zero,List.getElem_cons_succ,List.setIfInBounds_toArray,List.set_cons_zero,List.set_cons_succ])
 refine Z1 8 rfl (by kernel_rfl) (by kernel_rfl) (by kernel_rfl) (by kernel_rfl) (fun v c a w h=>h) hS0 ?_
 (first | (refine⟨undef,Or.inr ⟨by rfl,rfl⟩,?_⟩) | (apply Exists.intro;refine⟨Or.inl ⟨by rfl,?_⟩,?_⟩;(intro x hx';go_simp;first | done | with_reducible rfl)))
 (try simp only[Act.put,List.getElem_toArray,List.getElem_cons_zero,List.getElem_cons_succ,List.setIfInBounds_toArray,List.set_cons_zero,List.set_cons_succ])
 refine Z1 9 rfl (by kernel_rfl) (by kernel_rfl) (by kernel_rfl) (by kernel_rfl) (fun v c a w h=>h) hS0 ?_
 (first | (refine⟨undef,Or.inr ⟨by rfl,rfl⟩,?_⟩) | (apply Exists.intro;refine⟨Or.inl ⟨by rfl,?_⟩,?_⟩;(intro x hx';go_simp;first | done | with_reducible rfl)))
 (try simp only[Act.put,List.getElem_toArray,List.getElem_cons_zero,List.getElem_cons_succ,List.setIfInBounds_toArray,List.set_cons_zero,List.set_cons_succ])
 refine Z3 10 (by kernel_rfl) rfl (fun K hK=>?_)
 rw[if_pos (by rfl)]
 (try simp only[List.getElem_toArray,List.getElem_cons_zero,List.getElem_cons_succ])
 go_simp
 refine(HS.out y0 hS0).mono ?_
 rintro e w2 ⟨rfl,g2⟩
 refine hK _ _ (.inr (hS0.trans g2)) ?_
 clear hK K t0 t1 HS
 (try simp only[Act.put,List.getElem_toArray,List.getElem_cons_zero,List.getElem_cons_succ,List.setIfInBounds_toArray,List.set_cons_zero,List.set_cons_succ])
 have h2:=HW.out.nwr (hS0.trans g2)
 obtain⟨w3,hr3,hm3,hg3⟩:=h2.mn.put (by have:=HU.out.1;omega) HU.out.2.1 (U3 E u:Int)
 have h3:=h2.next hm3 hg3 (Nat.le_succ N)
 have HW3:=hD0 h3
 have HR3:=hD0 hr3
 clear h2 hm3 hg3 h3 hr3 hS0 g2 HW
 refine Z3 11 (by kernel_rfl) rfl (fun K hK=>?_)
 refine Z1l (by rfl) (.tmp 21) (.tmp 22) (.tmp 28) 66 rfl _ _ _ _ rfl rfl rfl HR3.out ?_
 refine hK _ _ (.inl (by decide)) ?_
 clear hK K HR3
 refine Z5 (by kernel_rfl) ?_ _
 refine NoPanic.normal ?_
 (try simp only[Act.put,List.getElem_toArray,List.getElem_cons_zero,List.getElem_cons_succ,List.setIfInBounds_toArray,List.set_cons_zero,List.set_cons_succ])
 obtain⟨c0,c1,c2,c3,c4,c5,c6,c7⟩:=HW3.out.c
 have hol:=HW3.out.ol
 clear c0 c1 c3 c6 c7
 go_wp2_with fail
 refine Zb [10] (Nw w3) (by kernel_rfl) ?_
 change Za _ _ _ _ _ _ 11 #[false,false,false,false,false,false,false,false,false,false,false] _ w3.drew
 obtain⟨y1,hy1⟩:∃y,w3.drew=y:=⟨_,rfl⟩
 rw[hy1]
 have hS0:Nw w3 y1:=by rw[←hy1];exact(Nw.refl w3).dr
 have t0:∀x,Nw w3 x→x.cell? ⟨o,2,none⟩=some (.map (some pb)):=fun x g=>g.kp c2
 have t1:∀x,Nw w3 x→x.cell? ⟨o,4,none⟩=some (.slice oa s.op.length oc):=fun x g=>g.kp c4
 clear hy1 c2 c4 c5 hol
 refine Z1 0 rfl (by kernel_rfl) (by kernel_rfl) (by kernel_rfl) (by kernel_rfl) (fun v c a w h=>h) hS0 ?_
 (first | (refine⟨undef,Or.inr ⟨by rfl,rfl⟩,?_⟩) | (apply Exists.intro;refine⟨Or.inl ⟨by rfl,?_⟩,?_⟩;(intro x hx';go_simp;first | done | with_reducible rfl)))
 (try simp only[Act.put,List.getElem_toArray,List.getElem_cons_zero,List.getElem_cons_succ,List.setIfInBounds_toArray,List.set_cons_zero,List.set_cons_succ])
 refine Z1 1 rfl (by kernel_rfl) (by kernel_rfl) (by kernel_rfl) (by kernel_rfl) (fun v c a w h=>h) hS0 ?_
 (first | (refine⟨undef,Or.inr ⟨by rfl,rfl⟩,?_⟩) | (apply Exists.intro;refine⟨Or.inl ⟨by rfl,?_⟩,?_⟩;(intro x hx';go_simp;first | done | with_reducible rfl)))
 (try simp only[Act.put,List.getElem_toArray,List.getElem_cons_zero,List.getElem_cons_succ,List.setIfInBounds_toArray,List.set_cons_zero,List.set_cons_succ])
 refine Z1 2 rfl (by kernel_rfl) (by kernel_rfl) (by kernel_rfl) (by kernel_rfl) (fun v c a w h=>h) hS0 ?_
 (first | (refine⟨undef,Or.inr ⟨by rfl,rfl⟩,?_⟩) | (apply Exists.intro;refine⟨Or.inl ⟨by rfl,?_⟩,?_⟩;(intro x hx';go_simp;first | done | with_reducible rfl)))
 (try simp only[Act.put,List.getElem_toArray,List.getElem_cons_zero,List.getElem_cons_succ,List.setIfInBounds_toArray,List.set_cons_zero,List.set_cons_succ])
 refine Z1 3 rfl (by kernel_rfl) (by kernel_rfl) (by kernel_rfl) (by kernel_rfl) (fun v c a w h=>h) hS0 ?_
 (first | (refine⟨undef,Or.inr ⟨by rfl,rfl⟩,?_⟩) | (apply Exists.intro;refine⟨Or.inl ⟨by rfl,?_⟩,?_⟩;(intro x hx';go_simp;first | done | with_reducible rfl)))
 (try simp only[Act.put,List.getElem_toArray,List.getElem_cons_zero,List.getElem_cons_succ,List.setIfInBounds_toArray,List.set_cons_zero,List.set_cons_succ])
 refine Z1 4 rfl (by kernel_rfl) (by kernel_rfl) (by kernel_rfl) (by kernel_rfl) (fun v c a w h=>h) hS0 ?_
 (first | (refine⟨undef,Or.inr ⟨by rfl,rfl⟩,?_⟩) | (apply Exists.intro;refine⟨Or.inl ⟨by rfl,?_⟩,?_⟩;(intro x hx';go_simp;first | done | with_reducible rfl)))
 (try simp only[Act.put,List.getElem_toArray,List.getElem_cons_zero,List.getElem_cons_succ,List.setIfInBounds_toArray,List.set_cons_zero,List.set_cons_succ])
 refine Z1 5 rfl (by kernel_rfl) (by kernel_rfl) (by kernel_rfl) (by kernel_rfl) (fun v c a w h=>h) hS0 ?_
 (first | (refine⟨undef,Or.inr ⟨by rfl,rfl⟩,?_⟩) | (apply Exists.intro;refine⟨Or.inl ⟨by rfl,?_⟩,?_⟩;(intro x hx';go_simp;first | done | with_reducible rfl)))
 (try simp only[Act.put,List.getElem_toArray,List.getElem_cons_zero,List.getElem_cons_succ,List.setIfInBounds_toArray,List.set_cons_zero,List.set_cons_succ])
 refine Z1 6 rfl (by kernel_rfl) (by kernel_rfl) (by kernel_rfl) (by kernel_rfl) (fun v c a w h=>h) hS0 ?_
 (first | (refine⟨undef,Or.inr ⟨by rfl,rfl⟩,?_⟩) | (apply Exists.intro;refine⟨Or.inl ⟨by rfl,?_⟩,?_⟩;(intro x hx';go_simp;first | done | with_reducible rfl)))
 (try simp only[Act.put,List.getElem_toArray,List.getElem_cons_zero,List.getElem_cons_succ,List.setIfInBounds_toArray,List.set_cons_zero,List.set_cons_succ])
 refine Z1 7 rfl (by kernel_rfl) (by kernel_rfl) (by kernel_rfl) (by kernel_rfl) (fun v c a w h=>h) hS0 ?_
 (first | (refine⟨undef,Or.inr ⟨by rfl,rfl⟩,?_⟩) | (apply Exists.intro;refine⟨Or.inl ⟨by rfl,?_⟩,?_⟩;(intro x hx';go_simp;first | done | with_reducible rfl)))
 (try simp only[Act.put,List.getElem_toArray,List.getElem_cons_zero,List.getElem_cons_succ,List.setIfInBounds_toArray,List.set_cons_zero,List.set_cons_succ])
 refine Z1 8 rfl (by kernel_rfl) (by kernel_rfl) (by kernel_rfl) (by kernel_rfl) (fun v c a w h=>h) hS0 ?_
 (first | (refine⟨undef,Or.inr ⟨by rfl,rfl⟩,?_⟩) | (apply Exists.intro;refine⟨Or.inl ⟨by rfl,?_⟩,?_⟩;(intro x hx';go_simp;first | done | with_reducible rfl)))
 (try simp only[Act.put,List.getElem_toArray,List.getElem_cons_zero,List.getElem_cons_succ,List.setIfInBounds_toArray,List.set_cons_zero,List.set_cons_succ])
 refine Z1 9 rfl (by kernel_rfl) (by kernel_rfl) (by kernel_rfl) (by kernel_rfl) (fun v c a w h=>h) hS0 ?_
 (first | (refine⟨undef,Or.inr ⟨by rfl,rfl⟩,?_⟩) | (apply Exists.intro;refine⟨Or.inl ⟨by rfl,?_⟩,?_⟩;(intro x hx';go_simp;first | done | with_reducible rfl)))
 (try simp only[Act.put,List.getElem_toArray,List.getElem_cons_zero,List.getElem_cons_succ,List.setIfInBounds_toArray,List.set_cons_zero,List.set_cons_succ])
 have h4:=HW3.out.nwr hS0
 obtain⟨w5,hr5,hm5,hg5⟩:=(h4.mp.put (by have:=HU.out.1;omega) HU.out.2.1 (s.op.length:Int))
 have h5:=h4.plc hm5 hg5 (Nat.le_succ _)
 have HW5:=hD0 h5
 have HR5:=hD0 hr5
 clear h4 hm5 hg5 h5 hr5 hS0 t0 t1 HW3
 refine Z3 10 (by kernel_rfl) rfl (fun K hK=>?_)
 refine Z1l (by rfl) (.tmp 32) (.tmp 33) (.tmp 38) 66 rfl _ _ _ _ rfl rfl rfl HR5.out ?_
 refine hK _ _ (.inl (by decide)) ?_
 clear hK K HR5
 refine Z5 (by kernel_rfl) ?_ _
 refine NoPanic.normal ?_
 (try simp only[Act.put,List.getElem_toArray,List.getElem_cons_zero,List.getElem_cons_succ,List.setIfInBounds_toArray,List.set_cons_zero,List.set_cons_succ])
 obtain⟨c0,c1,c2,c3,c4,c5,c6,c7⟩:=HW5.out.c
 have hol:=HW5.out.ol
 have hfz:=HW5.out.fz 5
 clear c0 c1 c2 c3 c6 c7
 go_wp2_with fail
 refine Zb [15] (Nk w5 o vk oa oc s.op.length) (by kernel_rfl) ?_
 change Za _ _ _ _ _ _ 16 #[false,false,false,false,false,false,false,false,false,false,false,false,false,false,false,false] _ w5.drew
 obtain⟨y2,hy2⟩:∃y,w5.drew=y:=⟨_,rfl⟩
 rw[hy2]
 have h6:=HW5.out.nwr (show Nw w5 y2 by rw[←hy2];exact(Nw.refl w5).dr)
 obtain⟨d0,d1,d2,d3,d4,d5,d6,d7⟩:=h6.c
 have hol6:=h6.ol
 have hS0:Nk w5 o vk oa oc s.op.length y2:=⟨d5,d4,hol6⟩
 have t0:∀x,Nk w5 o vk oa oc s.op.length x→x.cell? ⟨o,5,none⟩=some vk:=fun x g=>g.1
 have t1:∀x,Nk w5 o vk oa oc s.op.length x→x.cell? ⟨o,4,none⟩=some (.slice oa s.op.length oc):=fun x g=>g.2.1
 have HW6:=hD0 h6
 clear hy2 c4 c5 hol hfz d0 d1 d2 d3 d4 d5 d6 d7 h6 HW5
 refine Z1 0 rfl (by kernel_rfl) (by kernel_rfl) (by kernel_rfl) (by kernel_rfl) (fun v c a w h=>h) hS0 ?_
 (first | (refine⟨undef,Or.inr ⟨by rfl,rfl⟩,?_⟩) | (apply Exists.intro;refine⟨Or.inl ⟨by rfl,?_⟩,?_⟩;(intro x hx';go_simp;first | done | with_reducible rfl)))
 (try simp only[Act.put,List.getElem_toArray,List.getElem_cons_zero,List.getElem_cons_succ,List.setIfInBounds_toArray,List.set_cons_zero,List.set_cons_succ])
 refine Z1 1 rfl (by kernel_rfl) (by kernel_rfl) (by kernel_rfl) (by kernel_rfl) (fun v c a w h=>h) hS0 ?_
 (first | (refine⟨undef,Or.inr ⟨by rfl,rfl⟩,?_⟩) | (apply Exists.intro;refine⟨Or.inl ⟨by rfl,?_⟩,?_⟩;(intro x hx';go_simp;first | done | with_reducible rfl)))
 (try simp only[Act.put,List.getElem_toArray,List.getElem_cons_zero,List.getElem_cons_succ,List.setIfInBounds_toArray,List.set_cons_zero,List.set_cons_succ])
 refine Z1 2 rfl (by kernel_rfl) (by kernel_rfl) (by kernel_rfl) (by kernel_rfl) (fun v c a w h=>h) hS0 ?_
 (first | (refine⟨undef,Or.inr ⟨by rfl,rfl⟩,?_⟩) | (apply Exists.intro;refine⟨Or.inl ⟨by rfl,?_⟩,?_⟩;(intro x hx';go_simp;first | done | with_reducible rfl)))
 (try simp only[Act.put,List.getElem_toArray,List.getElem_cons_zero,List.getElem_cons_succ,List.setIfInBounds_toArray,List.set_cons_zero,List.set_cons_succ])
 refine Z1 3 rfl (by kernel_rfl) (by kernel_rfl) (by kernel_rfl) (by kernel_rfl) (fun v c a w h=>h) hS0 ?_
 (first | (refine⟨undef,Or.inr ⟨by rfl,rfl⟩,?_⟩) | (apply Exists.intro;refine⟨Or.inl ⟨by rfl,?_⟩,?_⟩;(intro x hx';go_simp;first | done | with_reducible rfl)))
 (try simp only[Act.put,List.getElem_toArray,List.getElem_cons_zero,List.getElem_cons_succ,List.setIfInBounds_toArray,List.set_cons_zero,List.set_cons_succ])
 refine Z1 4 rfl (by kernel_rfl) (by kernel_rfl) (by kernel_rfl) (by kernel_rfl) (fun v c a w h=>h) hS0 ?_
 (first | (refine⟨undef,Or.inr ⟨by rfl,rfl⟩,?_⟩) | (apply Exists.intro;refine⟨Or.inl ⟨by rfl,?_⟩,?_⟩;(intro x hx';go_simp;first | done | with_reducible rfl)))
 (try simp only[Act.put,List.getElem_toArray,List.getElem_cons_zero,List.getElem_cons_succ,List.setIfInBounds_toArray,List.set_cons_zero,List.set_cons_succ])
 refine Z1 5 rfl (by kernel_rfl) (by kernel_rfl) (by kernel_rfl) (by kernel_rfl) (fun v c a w h=>h) hS0 ?_
 (first | (refine⟨undef,Or.inr ⟨by rfl,rfl⟩,?_⟩) | (apply Exists.intro;refine⟨Or.inl ⟨by rfl,?_⟩,?_⟩;(intro x hx';go_simp;first | done | with_reducible rfl)))
 (try simp only[Act.put,List.getElem_toArray,List.getElem_cons_zero,List.getElem_cons_succ,List.setIfInBounds_toArray,List.set_cons_zero,List.set_cons_succ])
 refine Z1 6 rfl (by kernel_rfl) (by kernel_rfl) (by kernel_rfl) (by kernel_rfl) (fun v c a w h=>h) hS0 ?_
 (first | (refine⟨undef,Or.inr ⟨by rfl,rfl⟩,?_⟩) | (apply Exists.intro;refine⟨Or.inl ⟨by rfl,?_⟩,?_⟩;(intro x hx';go_simp;first | done | with_reducible rfl)))
 (try simp only[Act.put,List.getElem_toArray,List.getElem_cons_zero,List.getElem_cons_succ,List.setIfInBounds_toArray,List.set_cons_zero,List.set_cons_succ])
 refine Z1 7 rfl (by kernel_rfl) (by kernel_rfl) (by kernel_rfl) (by kernel_rfl) (fun v c a w h=>h) hS0 ?_
 (first | (refine⟨undef,Or.inr ⟨by rfl,rfl⟩,?_⟩) | (apply Exists.intro;refine⟨Or.inl ⟨by rfl,?_⟩,?_⟩;(intro x hx';go_simp;first | done | with_reducible rfl)))
 (try simp only[Act.put,List.getElem_toArray,List.getElem_cons_zero,List.getElem_cons_succ,List.setIfInBounds_toArray,List.set_cons_zero,List.set_cons_succ])
 refine Z1 8 rfl (by kernel_rfl) (by kernel_rfl) (by kernel_rfl) (by kernel_rfl) (fun v c a w h=>h) hS0 ?_
 (first | (refine⟨undef,Or.inr ⟨by rfl,rfl⟩,?_⟩) | (apply Exists.intro;refine⟨Or.inl ⟨by rfl,?_⟩,?_⟩;(intro x hx';go_simp;first | done | with_reducible rfl)))
 (try simp only[Act.put,List.getElem_toArray,List.getElem_cons_zero,List.getElem_cons_succ,List.setIfInBounds_toArray,List.set_cons_zero,List.set_cons_succ])
 refine Z1 9 rfl (by kernel_rfl) (by kernel_rfl) (by kernel_rfl) (by kernel_rfl) (fun v c a w h=>h) hS0 ?_
 (first | (refine⟨undef,Or.inr ⟨by rfl,rfl⟩,?_⟩) | (apply Exists.intro;refine⟨Or.inl ⟨by rfl,?_⟩,?_⟩;(intro x hx';go_simp;first | done | with_reducible rfl)))
 (try simp only[Act.put,List.getElem_toArray,List.getElem_cons_zero,List.getElem_cons_succ,List.setIfInBounds_toArray,List.set_cons_zero,List.set_cons_succ])
 refine Z1 10 rfl (by kernel_rfl) (by kernel_rfl) (by kernel_rfl) (by kernel_rfl) (fun v c a w h=>h) hS0 ?_
 (first | (refine⟨undef,Or.inr ⟨by rfl,rfl⟩,?_⟩) | (apply Exists.intro;refine⟨Or.inl ⟨by rfl,?_⟩,?_⟩;(intro x hx';go_simp;first | done | with_reducible rfl)))
 (try simp only[Act.put,List.getElem_toArray,List.getElem_cons_zero,List.getElem_cons_succ,List.setIfInBounds_toArray,List.set_cons_zero,List.set_cons_succ])
 refine Z3 11 (by kernel_rfl) rfl (fun K hK=>?_)
 rw[if_pos (by rfl)]
 (try simp only[List.getElem_toArray,List.getElem_cons_zero,List.getElem_cons_succ])
 go_simp
 have e7:Nw y2 (y2.alloc (.cells #[.int .i64 s.op.length,.bool false] 120)):=(Nw.refl _).alloc _
 refine hK _ _ (.inr ⟨e7.kp hS0.1,e7.kp hS0.2.1,lL0 hS0.2.2 e7.sz⟩) ?_
 clear hK K
 (try simp only[Act.put,List.getElem_toArray,List.getElem_cons_zero,List.getElem_cons_succ,List.setIfInBounds_toArray,List.set_cons_zero,List.set_cons_succ])
 obtain⟨gk,kc,w8,hr8,⟨hc8,hf8,ho8⟩,h8⟩:=HW6.out.pushK s.op.length (by have:=HU.out.2.2.2.2;show s.kn.length<N+1+1;omega) (by have:=HU.out.1;omega)
 have f8:=(hf8 5).trans (HW6.out.fz 5)
 have b5:=(hc8 5).trans hS0.1
 have b4:=(hc8 4).trans hS0.2.1
 have HR8:=hD0 hr8
 have HW8:=hD0 h8
 clear hc8 hf8 h8 hr8 e7
 refine Z3 12 (by kernel_rfl) rfl (fun K hK=>?_)
 refine Yn (by rfl) (.tmp 43) (.tmp 50) 82 rfl _ _ _ _ rfl rfl HR8.out ?_
 refine hK _ _ (.inr ⟨b5,b4,ho8⟩) ?_
 clear hK K HR8 hS0
 (try simp only[Act.put,List.getElem_toArray,List.getElem_cons_zero,List.getElem_cons_succ,List.setIfInBounds_toArray,List.set_cons_zero,List.set_cons_succ])
 have hS0:Nk w5 o vk oa oc s.op.length w8:=⟨b5,b4,ho8⟩
 refine Z3 13 (by kernel_rfl) rfl (fun K hK=>?_)
 rw[if_pos (by rfl)]
 (try simp only[List.getElem_toArray,List.getElem_cons_zero,List.getElem_cons_succ])
 go_simp
 refine hK _ _ (.inr hS0) ?_
 clear hK K
 (try simp only[Act.put,List.getElem_toArray,List.getElem_cons_zero,List.getElem_cons_succ,List.setIfInBounds_toArray,List.set_cons_zero,List.set_cons_succ])
 refine Z3 14 (by kernel_rfl) rfl (fun K hK=>?_)
 rw[if_pos (by rfl)]
 (try simp only[List.getElem_toArray,List.getElem_cons_zero,List.getElem_cons_succ])
 go_simp
 refine hK _ _ (.inr hS0) ?_
 clear hK K
 (try simp only[Act.put,List.getElem_toArray,List.getElem_cons_zero,List.getElem_cons_succ,List.setIfInBounds_toArray,List.set_cons_zero,List.set_cons_succ])
 refine Z3 15 (by kernel_rfl) rfl (fun K hK=>?_)
 rw[if_pos (by rfl)]
 (try simp only[List.getElem_toArray,List.getElem_cons_zero,List.getElem_cons_succ])
 go_simp
 refine hK _ _ (.inl (by decide)) ?_
 clear hK K hS0 t0 t1 b5 b4 f8 ho8 HW6
 refine Z5 (by kernel_rfl) ?_ _
 refine NoPanic.normal ?_
 (try simp only[Act.put,List.getElem_toArray,List.getElem_cons_zero,List.getElem_cons_succ,List.setIfInBounds_toArray,List.set_cons_zero,List.set_cons_succ])
 obtain⟨w9,hw9⟩:∃x,w8.setCell ⟨o,5,none⟩ (.slice (some ⟨gk,0,none⟩) (s.kn.length+1) kc)=x:=⟨_,rfl⟩
 rw[hw9] at HW8 ⊢
 clear hw9
 obtain⟨c0,c1,c2,c3,c4,c5,c6,c7⟩:=HW8.out.c
 have hol:=HW8.out.ol
 have hfz:=HW8.out.fz
 clear c0 c1 c2 c3 c5 c6 c7
 obtain⟨go,oc2,w10,hr10,⟨hc10,hf10,ho10⟩,h10⟩:=HW8.out.pushO u (by have:=HU.out.2.2.2.1;show s.op.length<N+1+1;omega) (by have:=HU.out.1;omega)
 have f10:=(hf10 4).trans (hfz 4)
 have b10:=(hc10 4).trans c4
 have HR10:=hD0 hr10
 have HW10:=hD0 h10
 clear hc10 hf10 h10 hr10
 go_upto_region 6 with(at_builtin;refine Z6 (by rfl) (.tmp 58) (.tmp 60) 24 rfl _ _ _ _ rfl rfl HR10.out ?_)
 obtain⟨w11,hw11⟩:∃x,w10.setCell ⟨o,4,none⟩ (.slice (some ⟨go,0,none⟩) (s.op.length+1) oc2)=x:=⟨_,rfl⟩
 rw[hw11] at HW10 ⊢
 clear hw11 c4 hol hfz ho10 f10 b10 HR10 HW8
 obtain⟨c0,c1,c2,c3,c4,c5,c6,c7⟩:=HW10.out.c
 have hol:=HW10.out.ol
 have hfz:=HW10.out.fz
 clear c0 c1 c2 c4 c5 c6 c7
 obtain⟨gp,pc,w12,hr12,⟨hc12,hf12,ho12⟩,h12⟩:=HW10.out.pushP u (by have:=HU.out.2.2.1;show s.path.length<N+1+1;omega) (by have:=HU.out.1;omega)
 have f12:=(hf12 3).trans (hfz 3)
 have b12:=(hc12 3).trans c3
 have HR12:=hD0 hr12
 have HW12:=hD0 h12
 clear hc12 hf12 h12 hr12
 go_wp2_with (at_builtin;refine Z6 (by rfl) (.tmp 68) (.tmp 70) 24 rfl _ _ _ _ rfl rfl HR12.out ?_)
 refine bodyPost_end (results_none rfl _ _ _) rfl ?_
 exact⟨rfl,mb,pb,_,_,_,HW12.out⟩
end
end Go.Proofs.YtbnpnccpobkodaaGreat
