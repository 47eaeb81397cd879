/- Texts merged: SmD -/
import Derived.Test.YtfepoibfbmehiaaGreatDoorTableNamesB12
set_option linter.unusedVariables false
set_option maxRecDepth 100000
set_option maxHeartbeats 16000000
namespace Go.Proofs.YtfepoibfbmehiaaGreatDoor
open Go.RowKit _root_.Go.Proofs.Tryz
theorem Z0p(a b:Nat):decide ((a:Int)<(b:Int))=decide (a<b):=decide_eq_decide.2 Int.ofNat_lt
def Z8o(f:Value)(c:Int→Int→Int)(M:Int→Prop)(g cap n S:Nat):Prop:=∀(P A B Q:List Int) (z:World) (a m b:Nat),A.length+B.length<S→0<A.length→0<B.length→Y1 z g cap n (P++A++B++Q)→(∀x∈A,M x)→(∀x∈B,M x)→Sd c A→Sd c B→(A++B).Nodup→Z0r z f g c M →
  a=P.length→m=a+A.length→b=m+B.length→Calls prog 173 #[.slice (some ⟨g,0,none⟩) n cap,.int .i64 a,.int .i64 m,.int .i64 b,f] z (Z21 z g cap n c P A B Q)
theorem Zah(f:Value)(c:Int→Int→Int)(M:Int→Prop)(o:Z22 c M)(g cap n:Nat)(P A B Q:List Int)(w:World)(hn:n≤1000)(h:Y1 w g cap n (P++A++B++Q))(mA:∀y∈A,M y)(mB:∀y∈B,M y)(sA:Sd c A)(sB:Sd c B)(nd:(A++B).Nodup)(hf:Z0r w f g c M)
    (ih:Z8o f c M g cap n (A.length+B.length)) (a m b mid s e:Nat) (ha:a=P.length) (hm:m=a+A.length) (hb:b=m+B.length) (hs:a≤s) (hsm:s≤m) (hme:m≤e) (heb:e≤b) (hse:s+e=mid+m) (hmid:mid=(a+b)/2) (hA:1<A.length) (hB:1<B.length)
    (q1:a<s→e<b→¬c (B.getD (e-m) 0) (A.getD (s-a-1) 0)<0) (q2:m<e→s<m→c (B.getD (e-m-1) 0) (A.getD (s-a) 0)<0) :
    ∃K1 K2:World→Prop,
      ((¬s<m∨¬m<e)→∀z,Nw w z→K1 z) ∧
      (s<m→m<e→∀z,Nw w z→Calls prog 181 #[.slice (some ⟨g,0,none⟩) n cap,.int .i64 s,.int .i64 m,.int .i64 e,f] z fun e' w'=>e'=.returned (.tuple #[])∧K1 w') ∧
      ((¬a<s∨¬s<mid)→∀z,K1 z→K2 z) ∧
      (a<s→s<mid→∀z,K1 z→Calls prog 173 #[.slice (some ⟨g,0,none⟩) n cap,.int .i64 a,.int .i64 s,.int .i64 mid,f] z fun e' w'=>e'=.returned (.tuple #[])∧K2 w') ∧
      ((¬mid<e∨¬e<b)→∀z,K2 z→Z21 w g cap n c P A B Q (.returned (.tuple #[])) z) ∧
      (mid<e→e<b→∀z,K2 z→Calls prog 173 #[.slice (some ⟨g,0,none⟩) n cap,.int .i64 mid,.int .i64 e,.int .i64 b,f] z (Z21 w g cap n c P A B Q)):=by
  obtain⟨A1,hA1⟩:∃x,A.take (s-a)=x:=⟨_,rfl⟩
  obtain⟨A2,hA2⟩:∃x,A.drop (s-a)=x:=⟨_,rfl⟩
  obtain⟨B1,hB1⟩:∃x,B.take (e-m)=x:=⟨_,rfl⟩
  obtain⟨B2,hB2⟩:∃x,B.drop (e-m)=x:=⟨_,rfl⟩
  have eA:A=A1++A2:=by rw[←hA1,←hA2,List.take_append_drop]
  have eB:B=B1++B2:=by rw[←hB1,←hB2,List.take_append_drop]
  have l1:A1.length=s-a:=by rw[←hA1,List.length_take];omega
  have l2:A2.length=m-s:=by rw[←hA2,List.length_drop];omega
  have l3:B1.length=e-m:=by rw[←hB1,List.length_take];omega
  have l4:B2.length=b-e:=by rw[←hB2,List.length_drop];omega
  have x1:0<A1.length→0<B2.length→c (A1.getD (A1.length-1) 0) (B2.getD 0 0)<0:=fun u v=>by
    have h1:=q1 (by omega) (by omega)
    rw[←hA1,Z0l A (s-a) (by omega) (by omega),←hB2,Uk]
    have ne:A.getD (s-a-1) 0≠B.getD (e-m) 0:=fun q=>by
      have i1:=Zg (l:=A) (j:=s-a-1) (by omega)
      have i2:=Zg (l:=B) (j:=e-m) (by omega)
      rw[q] at i1
      exact(List.nodup_append.1 nd).2.2 _ i1 _ i2 rfl
    exact(o.tot _ _ (mA _ (Zg (by omega))) (mB _ (Zg (by omega))) ne).resolve_right h1
  have x2:0<B1.length→0<A2.length→c (B1.getD (B1.length-1) 0) (A2.getD 0 0)<0:=fun u v=>by
    rw[←hB1,Z0l B (e-m) (by omega) (by omega),←hA2,Uk]
    exact q2 (by omega) (by omega)
  have sA1:Sd c A1:=by rw[←hA1];exact Z0k sA _
  have sA2:Sd c A2:=by rw[←hA2];exact Z0j sA _
  have sB1:Sd c B1:=by rw[←hB1];exact Z0k sB _
  have sB2:Sd c B2:=by rw[←hB2];exact Z0j sB _
  have mA1:∀x∈A1,M x:=by rw[←hA1];exact Ug mA _
  have mA2:∀x∈A2,M x:=by rw[←hA2];exact Uf mA _
  have mB1:∀x∈B1,M x:=by rw[←hB1];exact Ug mB _
  have mB2:∀x∈B2,M x:=by rw[←hB2];exact Uf mB _
  have nd1:(A1++B1).Nodup:=nd.sublist (by rw[←hA1,←hB1];exact(List.take_sublist _ _).append (List.take_sublist _ _))
  have nd2:(A2++B2).Nodup:=nd.sublist (by rw[←hA2,←hB2];exact(List.drop_sublist _ _).append (List.drop_sublist _ _))
  have hh:=fun(M1 M2:List Int)=>Zf3 o (M1:=M1) (M2:=M2) sA sB mA mB eA eB x1 x2
  clear hA1 hA2 hB1 hB2 x1 x2 q1 q2 sA sB mA mB nd
  subst eA eB
  refine⟨fun z=>Y1 z g cap n (P++A1++B1++(A2++B2++Q))∧Z3 (fun k=>k=g) w z,fun z=>∃M1,M1.Perm (A1++B1)∧Sd c M1∧Y1 z g cap n (P++M1++A2++B2++Q)∧Z3 (fun k=>k=g) w z,fun q z hz=>⟨?_,Z3.nw hz⟩,fun u v z hz=>?_,fun q z hz=>⟨A1++B1,.refl _,?_,by simpa using hz.1,hz.2⟩,fun u v z hz=>?_,fun q z hz=>?_,fun u v z hz=>?_⟩
  · have hr:=h.nw hz
    rcases q with q | q
    · obtain rfl:A2=[]:=List.length_eq_zero_iff.1 (by omega)
      simpa using hr
    · obtain rfl:B1=[]:=List.length_eq_zero_iff.1 (by omega)
      simpa using hr
  · obtain⟨gf,lb,rfl,_⟩:=hf
    refine(Zpj (.func (.func gf) #[] lb) gf lb rfl g cap n (P++A1) A2 B1 (B2++Q) z hn (by have:=h.nw hz;simpa using this) (by omega) (by omega) s m e (by rw[List.length_append];omega) (by rw[List.length_append];omega) (by rw[List.length_append];omega)).mono ?_
    rintro e' w' ⟨rfl,h1,h2⟩
    exact⟨rfl,by simpa using h1,(Z3.nw hz).trans h2⟩
  · rcases q with q | q
    · obtain rfl:A1=[]:=List.length_eq_zero_iff.1 (by omega)
      simpa using sB1
    · obtain rfl:B1=[]:=List.length_eq_zero_iff.1 (by omega)
      simpa using sA1
  · refine(ih P A1 B1 (A2++B2++Q) z a s mid (by simp only[List.length_append] at *;omega) (by omega) (by omega) hz.1 mA1 mB1 sA1 sB1 nd1 (hf.later hz.2) ha (by omega) (by omega)).mono ?_
    rintro e' w' ⟨rfl,M1,h1,h2,h3,h4⟩
    exact⟨rfl,M1,h2,h3,by simpa using h1,hz.2.trans h4⟩
  · obtain⟨M1,h1,h2,h3,h4⟩:=hz
    have s2:Sd c (A2++B2):=by
      rcases q with q | q
      · obtain rfl:A2=[]:=List.length_eq_zero_iff.1 (by simp only[List.length_append] at *;omega)
        simpa using sB2
      · obtain rfl:B2=[]:=List.length_eq_zero_iff.1 (by omega)
        simpa using sA2
    obtain⟨k1,k2⟩:=hh M1 (A2++B2) h2 s2 h1 (.refl _)
    exact⟨rfl,M1++(A2++B2),by simpa using h3,k2,k1,h4⟩
  · obtain⟨M1,h1,h2,h3,h4⟩:=hz
    have lM:=h1.length_eq
    rw[List.length_append] at lM
    refine(ih (P++M1) A2 B2 Q z mid e b (by simp only[List.length_append] at *;omega) (by simp only[List.length_append] at *;omega) (by omega) h3 mA2 mB2 sA2 sB2 nd2 (hf.later h4) (by simp only[List.length_append] at *;omega) (by simp only[List.length_append] at *;omega) (by omega)).mono ?_
    rintro e' w' ⟨rfl,M2,k1,k2,k3,k4⟩
    obtain⟨j1,j2⟩:=hh M1 M2 h2 k3 h1 k2
    exact⟨rfl,M1++M2,by simpa using k1,j2,j1,h4.trans k4⟩
theorem Zme(f:Value)(c:Int→Int→Int)(M:Int→Prop)(o:Z22 c M)(g cap n:Nat)(P A B Q:List Int)(w:World)(hn:n≤1000)(h:Y1 w g cap n (P++A++B++Q))(mA:∀y∈A,M y)(mB:∀y∈B,M y)(sA:Sd c A)(sB:Sd c B)(nd:(A++B).Nodup)(hf:Z0r w f g c M)
    (ih:Z8o f c M g cap n (A.length+B.length)) (a m b mid:Nat) (ha:a=P.length) (hm:m=a+A.length) (hb:b=m+B.length) (hmid:mid=(a+b)/2) (hA:1<A.length) (hB:1<B.length) (hcase:mid<m) :
    Calls prog 173 #[.slice (some ⟨g,0,none⟩) n cap,.int .i64 a,.int .i64 m,.int .i64 b,f] w (Z21 w g cap n c P A B Q):=by
  have hl:=h.nlen
  simp at hl
  have HTL:=hD0 (fun s e hs hsm hme heb hse q1 q2=>Zah f c M o g cap n P A B Q w hn h mA mB sA sB nd hf ih a m b mid s e ha hm hb hs hsm hme heb hse hmid hA hB q1 q2)
  obtain⟨gf,lb,rfl,eg,hT⟩:=hf
  have H:=hD0 (aI0 h (aI0 mA (aI0 mB hT)))
  obtain⟨dd,hdd⟩:∃x:Nat,m=a+x:=⟨m-a,by omega⟩
  obtain⟨d2,hd2⟩:∃x:Nat,b=m+x:=⟨b-m,by omega⟩
  have w1:IntKind.i64.wrap ((m:Int)-(a:Int))=dd:=Zr m a dd (by omega) hdd
  have d1:((dd:Int)==1)=false:=by rw[beq_eq_false_iff_ne];omega
  have d1':¬dd=1:=by omega
  have w3:IntKind.i64.wrap ((b:Int)-(m:Int))=d2:=Zr b m d2 (by omega) hd2
  have d3:((d2:Int)==1)=false:=by rw[beq_eq_false_iff_ne];omega
  have d3':¬d2=1:=by omega
  have w4:=Yk a b (by omega) (by omega)
  have hh:((a:Int)+(b:Int))/2=(mid:Int):=by omega
  obtain⟨nn,hnn⟩:∃x:Nat,mid+m=x:=⟨_,rfl⟩
  have w5:IntKind.i64.wrap ((mid:Int)+(m:Int))=(nn:Int):=by rw[Yk mid m (by omega) (by omega),hnn]
  obtain⟨pp,hpp⟩:∃x:Nat,nn=x+1:=⟨nn-1,by omega⟩
  have w6:IntKind.i64.wrap ((nn:Int)-1)=(pp:Int):=Z4a nn pp (by omega) hpp
  have dm:decide ((mid:Int)<(m:Int))=true:=by rw[decide_eq_true_iff];omega
  have dm':decide (mid<m)=true:=by rw[decide_eq_true_iff];omega
  obtain⟨st,hst⟩:∃x:Nat,nn=b+x:=⟨nn-b,by omega⟩
  obtain⟨r0,hr0⟩:∃x:Nat,x=mid:=⟨_,rfl⟩
  have w7:IntKind.i64.wrap ((nn:Int)-(b:Int))=(st:Int):=Zr nn b st (by omega) hst
  have HM:=hD0 (show mid=(a+b)/2∧m=a+dd∧b=m+d2∧mid+m=nn∧nn=pp+1∧nn=b+st∧r0=mid∧a=P.length∧dd=A.length∧d2=B.length∧1<dd∧1<d2 from⟨hmid,hdd,hd2,hnn,hpp,hst,hr0,ha,by omega,by omega,by omega,by omega⟩)
  have HSR:=hD0 (show(mid<m)∧a≤st∧st≤r0∧r0≤m∧r0≤mid∧nn≤st+b∧b≤n∧(st=a∨nn=st+b)∧(r0=m∨r0=mid) from⟨hcase,by omega,by omega,by omega,by omega,by omega,by omega,by omega,by omega⟩)
  have hbn:b≤n:=by omega
  have ham:a<m:=by omega
  have hmb:m<b:=by omega
  clear hT h mA mB sA sB nd o ih hl hm ha hb hA hB hdd hd2 hmid hnn hpp hst hcase
  go_enter func173,ntmps173
  go_wp2
  try rw[hh]
  go_loopw [20,21] (fun vi vj wr=>∃i j:Nat,vi=.int .i64 i∧vj=.int .i64 j∧st≤i∧i≤j∧j≤r0∧Hid ((st<i→0≤c (B.getD (nn-i-m) 0) (A.getD (i-a-1) 0))∧(j<r0→c (B.getD (pp-j-m) 0) (A.getD (j-a) 0)<0))∧Nw w wr) (fun vi vj _=>(intOf vj).toNat-(intOf vi).toNat)
  case atStart=>exact⟨st,r0,by go_num,by have:=HM.out.2.2.2.2.2.2.1;subst this;rfl,Nat.le_refl _,HSR.out.2.2.1,Nat.le_refl _,hD0 ⟨fun q=>by omega,fun q=>by omega⟩,Nw.refl _⟩
  case round =>
    obtain⟨i,j,rfl,rfl,hmi,hij,hjb,HB,hN⟩:=hrel
    by_cases Z1:i<j
    · obtain⟨_,u2,u3,u4,u5,u6,u7,_,_⟩:=HSR.out
      obtain⟨v1,v2,v3,v4,v5,v6,v7,v8,v9,va,vb,vc⟩:=HM.out
      have w2:=Yk i j (by omega) (by omega)
      have dlt:decide ((i:Int)<(j:Int))=true:=by rw[decide_eq_true_iff];omega
      obtain⟨t,hht⟩:∃t:Nat,((i:Int)+(j:Int))/2=(t:Int):=⟨(i+j)/2,by omega⟩
      have hf1:i≤t:=by omega
      have hf2:t<j:=by omega
      have w9:=Z2o t (t+1) (by omega) rfl
      obtain⟨qq,hqq⟩:∃x:Nat,pp=t+x:=⟨pp-t,by omega⟩
      have wa:IntKind.i64.wrap ((pp:Int)-(t:Int))=(qq:Int):=Zr pp t qq (by omega) hqq
      have hkn1:qq<n:=by omega
      have hkn0:t<n:=by omega
      have hi1:((qq:Nat):Int)<(n:Int):=by omega
      have hi0:((t:Nat):Int)<(n:Int):=by omega
      have hR:Y1 wr g cap n (P++A++B++Q):=H.out.1.nw hN
      obtain⟨x,hx⟩:∃x,B.getD (qq-m) 0=x:=⟨_,rfl⟩
      obtain⟨y,hy⟩:∃y,A.getD (t-a) 0=y:=⟨_,rfl⟩
      have c0:wr.cell? ⟨g,t,none⟩=some (.int .i64 y):=by
        have q:=hR.cell t (by rw[←hR.nlen];exact hkn0)
        rw[List.append_assoc (P++A) B Q] at q
        rwa [Vf P A (B++Q) a t v8 (by omega) (by omega),hy] at q
      have c1:wr.cell? ⟨g,qq,none⟩=some (.int .i64 x):=by
        have q:=hR.cell qq (by rw[←hR.nlen];exact hkn1)
        rwa [Vf (P++A) B Q m qq (by rw[List.length_append];omega) (by omega) (by omega),hx] at q
      have mx:M x:=by rw[←hx];exact H.out.2.2.1 _ (Zg (by omega))
      have my:M y:=by rw[←hy];exact H.out.2.1 _ (Zg (by omega))
      have s1:∀u,Nw wr u→u.cell? ⟨g,qq,none⟩=some (.int .i64 x):=fun u hu=>hu.kp c1
      have s0:∀u,Nw wr u→u.cell? ⟨g,t,none⟩=some (.int .i64 y):=fun u hu=>hu.kp c0
      obtain⟨z,hz⟩:∃z,c x y=z:=⟨_,rfl⟩
      have HC:=hD0 (fun(w1:World) (hW:Nw wr w1)=>H.out.2.2.2 x y w1 mx my (Z3.nw (hN.trans hW)))
      rw[hz] at HC
      have HZ:=hD0 (aI0 hx (aI0 hy (aI0 hz (aI0 hqq v5))))
      have HNn:=hD0 hN
      clear u2 u3 u4 u5 u6 u7 v1 v2 v3 v4 v5 v6 v7 v8 v9 va vb vc hqq hR c0 c1 mx my hx hy hz hN
      go_wp2
      try rw[hht]
      have q1:=(Nw.refl wr).drewQ
      obtain⟨wc,hwc⟩:∃wc,wr.drew=wc:=⟨_,rfl⟩
      by_cases hz0:z<0
      · have dz:decide (z<0)=true:=by simpa using hz0
        clear hz0
        refine Z5 [some true,some true,some true,some true,some true,some true,some true,some true,some true,some true,some true,some false,none,some true,some true] (Nw wr) (by kernel_rfl) (by kernel_rfl) (by kernel_rfl) q1 ?_
        rw[hwc] at q1 ⊢
        clear hwc
        repeat (first
          | (refine HW.off ?_)
          | (refine HW.take' ?_;(first | (refine⟨undef,Or.inr ⟨by rfl,rfl⟩,?_⟩) | (apply Exists.intro;refine⟨Or.inl ⟨by rfl,?_⟩,?_⟩;(intro x hx;go_simp;first | done | with_reducible rfl)));(try simp only[Act.put,List.setIfInBounds_toArray,List.set_cons_zero,List.set_cons_succ]))
          | (refine HW.go (fun K hK=>?_);go_simp;(first
            | (go_at_fn gf;(with_reducible refine(HC.out _ q1).mono ?_);rintro e wy ⟨rfl,g2⟩;refine hK.out _ _ (q1.trans g2) ?_;intro _;replace q1:=q1.trans g2;clear hK K g2)
            | (refine hK.out _ _ q1 ?_;intro _;clear hK K))))
        refine HW.end_ ?_
        refine NoPanic.normal ?_
        have HQ:=hD0 q1
        have DZ:=hD0 dz
        clear s1 s0 q1 dz
        go_wp2
        go_roundw
        case rel =>
          refine⟨i,t,rfl,by go_num,hmi,hf1,by omega,hD0 ⟨HB.out.1,fun _=>?_⟩,HNn.out.trans HQ.out⟩
          obtain⟨z1,z2,z3,z4,z5⟩:=HZ.out
          rw[show pp-t-m=qq-m by omega,z1,z2,z3]
          exact of_decide_eq_true DZ.out
        case measure=>simp[intOf];omega
      · have dz:decide (z<0)=false:=by simpa using hz0
        clear hz0
        refine Z5 [some true,some true,some true,some true,some true,some true,some true,some true,some true,some true,some true,some false,none,some true,some true] (Nw wr) (by kernel_rfl) (by kernel_rfl) (by kernel_rfl) q1 ?_
        rw[hwc] at q1 ⊢
        clear hwc
        repeat (first
          | (refine HW.off ?_)
          | (refine HW.take' ?_;(first | (refine⟨undef,Or.inr ⟨by rfl,rfl⟩,?_⟩) | (apply Exists.intro;refine⟨Or.inl ⟨by rfl,?_⟩,?_⟩;(intro x hx;go_simp;first | done | with_reducible rfl)));(try simp only[Act.put,List.setIfInBounds_toArray,List.set_cons_zero,List.set_cons_succ]))
          | (refine HW.go (fun K hK=>?_);go_simp;(first
            | (go_at_fn gf;(with_reducible refine(HC.out _ q1).mono ?_);rintro e wy ⟨rfl,g2⟩;refine hK.out _ _ (q1.trans g2) ?_;intro _;replace q1:=q1.trans g2;clear hK K g2)
            | (refine hK.out _ _ q1 ?_;intro _;clear hK K))))
        refine HW.end_ ?_
        refine NoPanic.normal ?_
        have HQ:=hD0 q1
        have DZ:=hD0 dz
        clear s1 s0 q1 dz
        go_wp2
        go_roundw
        case rel =>
          refine⟨t+1,j,by go_num,rfl,by omega,by omega,hjb,hD0 ⟨fun _=>?_,HB.out.2⟩,HNn.out.trans HQ.out⟩
          obtain⟨z1,z2,z3,z4,z5⟩:=HZ.out
          rw[show nn-(t+1)-m=qq-m by omega,show t+1-a-1=t-a by omega,z1,z2,z3]
          exact Int.not_lt.1 (of_decide_eq_false DZ.out)
        case measure=>simp[intOf];omega
    · obtain rfl:i=j:=by omega
      have HNn:=hD0 hN
      clear hN Z1
      generalize i=s at *
      obtain⟨_,u2,u3,u4,u5,u6,u7,u8,u9⟩:=HSR.out
      obtain⟨v1,v2,v3,v4,v5,v6,v7,v8,v9,va,vb,vc⟩:=HM.out
      obtain⟨ee,hee⟩:∃x:Nat,nn=s+x:=⟨nn-s,by omega⟩
      have w2:IntKind.i64.wrap ((nn:Int)-(s:Int))=(ee:Int):=Zr nn s ee (by omega) hee
      have hs1:a≤s:=by omega
      have hs2:s≤m:=by omega
      have hs3:m≤ee:=by omega
      have hs4:ee≤b:=by omega
      have hs5:s+ee=mid+m:=by omega
      obtain⟨K1,K2,hT6⟩:=HTL.out s ee hs1 hs2 hs3 hs4 hs5 (fun p1 p2=>by
          have:=HB.out.1 (by omega)
          rw[show nn-s-m=ee-m by omega] at this
          exact this) (fun p1 p2=>by
          have:=HB.out.2 (by omega)
          rwa [show pp-s-m=ee-m-1 by omega] at this)
      have T:=hD0 hT6
      clear u2 u3 u4 u5 u6 u7 u8 u9 v1 v2 v3 v4 v5 v6 v7 v8 v9 va vb vc hT6 hee HB HTL HM HSR H
      clear hmi hij hjb
      by_cases hal:s<m<;>by_cases hbe:m<ee<;>by_cases hga:a<s<;>by_cases hde:ee<b
      all_goals
        have ps:s<mid↔m<ee:=by omega
        have pm:mid<ee↔s<m:=by omega
        have i1:=Z0p s m
        have i2:=Z0p m ee
        have i3:=Z0p a s
        have i4:=Z0p s mid
        have i5:=Z0p mid ee
        have i6:=Z0p ee b
        simp only[ps,pm,hal,hbe,hga,hde,decide_true,decide_false] at i1 i2 i3 i4 i5 i6
        have HW:=hD0 (aI0 ps pm)
        simp only[hbe,iff_true,iff_false] at ps
        simp only[hal,iff_true,iff_false] at pm
        clear hs1 hs2 hs3 hs4 hs5
        first
          | (have HX:=hD0 (T.out.2.1 hal hbe wr HNn.out)
             go_wp2_with fail
             refine HX.out.mono ?_
             rintro e1 w6 ⟨rfl,k1⟩
             have HK1:=hD0 k1
             clear k1)
          | (have HK1:=hD0 (T.out.1 (by first | exact .inl hal | exact .inr hbe) wr HNn.out)
             generalize wr=w6 at *)
        first
          | (have HY:=hD0 (T.out.2.2.2.1 hga (HW.out.1.2 hbe) w6 HK1.out)
             go_wp2_with fail
             refine HY.out.mono ?_
             rintro e2 w7 ⟨rfl,k2⟩
             have HK2:=hD0 k2
             clear k2)
          | (have HK2:=hD0 (T.out.2.2.1 (by first | exact .inl hga | exact .inr (fun q=>hbe (HW.out.1.1 q))) w6 HK1.out)
             generalize w6=w7 at *)
        first
          | (have HZ:=hD0 (T.out.2.2.2.2.2 (HW.out.2.2 hal) hde w7 HK2.out)
             go_wp2_with fail
             refine HZ.out.mono ?_
             rintro e3 w8 hp
             have HP:=hD0 hp
             obtain⟨rfl,_⟩:=hp)
          | have HP:=hD0 (T.out.2.2.2.2.1 (by first | exact .inl (fun q=>hal (HW.out.2.1 q)) | exact .inr hde) w7 HK2.out)
        go_wp2
        exact bodyPost_end (results_none rfl _ _ _) rfl HP.out
theorem Zja(f:Value)(c:Int→Int→Int)(M:Int→Prop)(o:Z22 c M)(g cap n:Nat)(P A B Q:List Int)(w:World)(hn:n≤1000)(h:Y1 w g cap n (P++A++B++Q))(mA:∀y∈A,M y)(mB:∀y∈B,M y)(sA:Sd c A)(sB:Sd c B)(nd:(A++B).Nodup)(hf:Z0r w f g c M)
    (ih:Z8o f c M g cap n (A.length+B.length)) (a m b mid:Nat) (ha:a=P.length) (hm:m=a+A.length) (hb:b=m+B.length) (hmid:mid=(a+b)/2) (hA:1<A.length) (hB:1<B.length) (hcase:¬mid<m) :
    Calls prog 173 #[.slice (some ⟨g,0,none⟩) n cap,.int .i64 a,.int .i64 m,.int .i64 b,f] w (Z21 w g cap n c P A B Q):=by
  have hl:=h.nlen
  simp at hl
  have HTL:=hD0 (fun s e hs hsm hme heb hse q1 q2=>Zah f c M o g cap n P A B Q w hn h mA mB sA sB nd hf ih a m b mid s e ha hm hb hs hsm hme heb hse hmid hA hB q1 q2)
  obtain⟨gf,lb,rfl,eg,hT⟩:=hf
  have H:=hD0 (aI0 h (aI0 mA (aI0 mB hT)))
  obtain⟨dd,hdd⟩:∃x:Nat,m=a+x:=⟨m-a,by omega⟩
  obtain⟨d2,hd2⟩:∃x:Nat,b=m+x:=⟨b-m,by omega⟩
  have w1:IntKind.i64.wrap ((m:Int)-(a:Int))=dd:=Zr m a dd (by omega) hdd
  have d1:((dd:Int)==1)=false:=by rw[beq_eq_false_iff_ne];omega
  have d1':¬dd=1:=by omega
  have w3:IntKind.i64.wrap ((b:Int)-(m:Int))=d2:=Zr b m d2 (by omega) hd2
  have d3:((d2:Int)==1)=false:=by rw[beq_eq_false_iff_ne];omega
  have d3':¬d2=1:=by omega
  have w4:=Yk a b (by omega) (by omega)
  have hh:((a:Int)+(b:Int))/2=(mid:Int):=by omega
  obtain⟨nn,hnn⟩:∃x:Nat,mid+m=x:=⟨_,rfl⟩
  have w5:IntKind.i64.wrap ((mid:Int)+(m:Int))=(nn:Int):=by rw[Yk mid m (by omega) (by omega),hnn]
  obtain⟨pp,hpp⟩:∃x:Nat,nn=x+1:=⟨nn-1,by omega⟩
  have w6:IntKind.i64.wrap ((nn:Int)-1)=(pp:Int):=Z4a nn pp (by omega) hpp
  have dm:decide ((mid:Int)<(m:Int))=false:=by rw[decide_eq_false_iff_not];omega
  have dm':decide (mid<m)=false:=by rw[decide_eq_false_iff_not];omega
  obtain⟨st,hst⟩:∃x:Nat,x=a:=⟨a,by omega⟩
  obtain⟨r0,hr0⟩:∃x:Nat,x=m:=⟨_,rfl⟩
  have HM:=hD0 (show mid=(a+b)/2∧m=a+dd∧b=m+d2∧mid+m=nn∧nn=pp+1∧st=a∧r0=m∧a=P.length∧dd=A.length∧d2=B.length∧1<dd∧1<d2 from⟨hmid,hdd,hd2,hnn,hpp,hst,hr0,ha,by omega,by omega,by omega,by omega⟩)
  have HSR:=hD0 (show(¬mid<m)∧a≤st∧st≤r0∧r0≤m∧r0≤mid∧nn≤st+b∧b≤n∧(st=a∨nn=st+b)∧(r0=m∨r0=mid) from⟨hcase,by omega,by omega,by omega,by omega,by omega,by omega,by omega,by omega⟩)
  have hbn:b≤n:=by omega
  have ham:a<m:=by omega
  have hmb:m<b:=by omega
  clear hT h mA mB sA sB nd o ih hl hm ha hb hA hB hdd hd2 hmid hnn hpp hst hcase
  go_enter func173,ntmps173
  go_wp2
  try rw[hh]
  go_loopw [20,21] (fun vi vj wr=>∃i j:Nat,vi=.int .i64 i∧vj=.int .i64 j∧st≤i∧i≤j∧j≤r0∧Hid ((st<i→0≤c (B.getD (nn-i-m) 0) (A.getD (i-a-1) 0))∧(j<r0→c (B.getD (pp-j-m) 0) (A.getD (j-a) 0)<0))∧Nw w wr) (fun vi vj _=>(intOf vj).toNat-(intOf vi).toNat)
  case atStart=>exact⟨st,r0,by have:=HM.out.2.2.2.2.2.1;subst this;rfl,by have:=HM.out.2.2.2.2.2.2.1;subst this;rfl,Nat.le_refl _,HSR.out.2.2.1,Nat.le_refl _,hD0 ⟨fun q=>by omega,fun q=>by omega⟩,Nw.refl _⟩
  case round =>
    obtain⟨i,j,rfl,rfl,hmi,hij,hjb,HB,hN⟩:=hrel
    by_cases Z1:i<j
    · obtain⟨_,u2,u3,u4,u5,u6,u7,_,_⟩:=HSR.out
      obtain⟨v1,v2,v3,v4,v5,v6,v7,v8,v9,va,vb,vc⟩:=HM.out
      have w2:=Yk i j (by omega) (by omega)
      have dlt:decide ((i:Int)<(j:Int))=true:=by rw[decide_eq_true_iff];omega
      obtain⟨t,hht⟩:∃t:Nat,((i:Int)+(j:Int))/2=(t:Int):=⟨(i+j)/2,by omega⟩
      have hf1:i≤t:=by omega
      have hf2:t<j:=by omega
      have w9:=Z2o t (t+1) (by omega) rfl
      obtain⟨qq,hqq⟩:∃x:Nat,pp=t+x:=⟨pp-t,by omega⟩
      have wa:IntKind.i64.wrap ((pp:Int)-(t:Int))=(qq:Int):=Zr pp t qq (by omega) hqq
      have hkn1:qq<n:=by omega
      have hkn0:t<n:=by omega
      have hi1:((qq:Nat):Int)<(n:Int):=by omega
      have hi0:((t:Nat):Int)<(n:Int):=by omega
      have hR:Y1 wr g cap n (P++A++B++Q):=H.out.1.nw hN
      obtain⟨x,hx⟩:∃x,B.getD (qq-m) 0=x:=⟨_,rfl⟩
      obtain⟨y,hy⟩:∃y,A.getD (t-a) 0=y:=⟨_,rfl⟩
      have c0:wr.cell? ⟨g,t,none⟩=some (.int .i64 y):=by
        have q:=hR.cell t (by rw[←hR.nlen];exact hkn0)
        rw[List.append_assoc (P++A) B Q] at q
        rwa [Vf P A (B++Q) a t v8 (by omega) (by omega),hy] at q
      have c1:wr.cell? ⟨g,qq,none⟩=some (.int .i64 x):=by
        have q:=hR.cell qq (by rw[←hR.nlen];exact hkn1)
        rwa [Vf (P++A) B Q m qq (by rw[List.length_append];omega) (by omega) (by omega),hx] at q
      have mx:M x:=by rw[←hx];exact H.out.2.2.1 _ (Zg (by omega))
      have my:M y:=by rw[←hy];exact H.out.2.1 _ (Zg (by omega))
      have s1:∀u,Nw wr u→u.cell? ⟨g,qq,none⟩=some (.int .i64 x):=fun u hu=>hu.kp c1
      have s0:∀u,Nw wr u→u.cell? ⟨g,t,none⟩=some (.int .i64 y):=fun u hu=>hu.kp c0
      obtain⟨z,hz⟩:∃z,c x y=z:=⟨_,rfl⟩
      have HC:=hD0 (fun(w1:World) (hW:Nw wr w1)=>H.out.2.2.2 x y w1 mx my (Z3.nw (hN.trans hW)))
      rw[hz] at HC
      have HZ:=hD0 (aI0 hx (aI0 hy (aI0 hz (aI0 hqq v5))))
      have HNn:=hD0 hN
      clear u2 u3 u4 u5 u6 u7 v1 v2 v3 v4 v5 v6 v7 v8 v9 va vb vc hqq hR c0 c1 mx my hx hy hz hN
      go_wp2
      try rw[hht]
      have q1:=(Nw.refl wr).drewQ
      obtain⟨wc,hwc⟩:∃wc,wr.drew=wc:=⟨_,rfl⟩
      by_cases hz0:z<0
      · have dz:decide (z<0)=true:=by simpa using hz0
        clear hz0
        refine Z5 [some true,some true,some true,some true,some true,some true,some true,some true,some true,some true,some true,some false,none,some true,some true] (Nw wr) (by kernel_rfl) (by kernel_rfl) (by kernel_rfl) q1 ?_
        rw[hwc] at q1 ⊢
        clear hwc
        repeat (first
          | (refine HW.off ?_)
          | (refine HW.take' ?_;(first | (refine⟨undef,Or.inr ⟨by rfl,rfl⟩,?_⟩) | (apply Exists.intro;refine⟨Or.inl ⟨by rfl,?_⟩,?_⟩;(intro x hx;go_simp;first | done | with_reducible rfl)));(try simp only[Act.put,List.setIfInBounds_toArray,List.set_cons_zero,List.set_cons_succ]))
          | (refine HW.go (fun K hK=>?_);go_simp;(first
            | (go_at_fn gf;(with_reducible refine(HC.out _ q1).mono ?_);rintro e wy ⟨rfl,g2⟩;refine hK.out _ _ (q1.trans g2) ?_;intro _;replace q1:=q1.trans g2;clear hK K g2)
            | (refine hK.out _ _ q1 ?_;intro _;clear hK K))))
        refine HW.end_ ?_
        refine NoPanic.normal ?_
        have HQ:=hD0 q1
        have DZ:=hD0 dz
        clear s1 s0 q1 dz
        go_wp2
        go_roundw
        case rel =>
          refine⟨i,t,rfl,by go_num,hmi,hf1,by omega,hD0 ⟨HB.out.1,fun _=>?_⟩,HNn.out.trans HQ.out⟩
          obtain⟨z1,z2,z3,z4,z5⟩:=HZ.out
          rw[show pp-t-m=qq-m by omega,z1,z2,z3]
          exact of_decide_eq_true DZ.out
        case measure=>simp[intOf];omega
      · have dz:decide (z<0)=false:=by simpa using hz0
        clear hz0
        refine Z5 [some true,some true,some true,some true,some true,some true,some true,some true,some true,some true,some true,some false,none,some true,some true] (Nw wr) (by kernel_rfl) (by kernel_rfl) (by kernel_rfl) q1 ?_
        rw[hwc] at q1 ⊢
        clear hwc
        repeat (first
          | (refine HW.off ?_)
          | (refine HW.take' ?_;(first | (refine⟨undef,Or.inr ⟨by rfl,rfl⟩,?_⟩) | (apply Exists.intro;refine⟨Or.inl ⟨by rfl,?_⟩,?_⟩;(intro x hx;go_simp;first | done | with_reducible rfl)));(try simp only[Act.put,List.setIfInBounds_toArray,List.set_cons_zero,List.set_cons_succ]))
          | (refine HW.go (fun K hK=>?_);go_simp;(first
            | (go_at_fn gf;(with_reducible refine(HC.out _ q1).mono ?_);rintro e wy ⟨rfl,g2⟩;refine hK.out _ _ (q1.trans g2) ?_;intro _;replace q1:=q1.trans g2;clear hK K g2)
            | (refine hK.out _ _ q1 ?_;intro _;clear hK K))))
        refine HW.end_ ?_
        refine NoPanic.normal ?_
        have HQ:=hD0 q1
        have DZ:=hD0 dz
        clear s1 s0 q1 dz
        go_wp2
        go_roundw
        case rel =>
          refine⟨t+1,j,by go_num,rfl,by omega,by omega,hjb,hD0 ⟨fun _=>?_,HB.out.2⟩,HNn.out.trans HQ.out⟩
          obtain⟨z1,z2,z3,z4,z5⟩:=HZ.out
          rw[show nn-(t+1)-m=qq-m by omega,show t+1-a-1=t-a by omega,z1,z2,z3]
          exact Int.not_lt.1 (of_decide_eq_false DZ.out)
        case measure=>simp[intOf];omega
    · obtain rfl:i=j:=by omega
      have HNn:=hD0 hN
      clear hN Z1
      generalize i=s at *
      obtain⟨_,u2,u3,u4,u5,u6,u7,u8,u9⟩:=HSR.out
      obtain⟨v1,v2,v3,v4,v5,v6,v7,v8,v9,va,vb,vc⟩:=HM.out
      obtain⟨ee,hee⟩:∃x:Nat,nn=s+x:=⟨nn-s,by omega⟩
      have w2:IntKind.i64.wrap ((nn:Int)-(s:Int))=(ee:Int):=Zr nn s ee (by omega) hee
      have hs1:a≤s:=by omega
      have hs2:s≤m:=by omega
      have hs3:m≤ee:=by omega
      have hs4:ee≤b:=by omega
      have hs5:s+ee=mid+m:=by omega
      obtain⟨K1,K2,hT6⟩:=HTL.out s ee hs1 hs2 hs3 hs4 hs5 (fun p1 p2=>by
          have:=HB.out.1 (by omega)
          rw[show nn-s-m=ee-m by omega] at this
          exact this) (fun p1 p2=>by
          have:=HB.out.2 (by omega)
          rwa [show pp-s-m=ee-m-1 by omega] at this)
      have T:=hD0 hT6
      clear u2 u3 u4 u5 u6 u7 u8 u9 v1 v2 v3 v4 v5 v6 v7 v8 v9 va vb vc hT6 hee HB HTL HM HSR H
      clear hmi hij hjb
      by_cases hal:s<m<;>by_cases hbe:m<ee<;>by_cases hga:a<s<;>by_cases hde:ee<b
      all_goals
        have ps:s<mid↔m<ee:=by omega
        have pm:mid<ee↔s<m:=by omega
        have i1:=Z0p s m
        have i2:=Z0p m ee
        have i3:=Z0p a s
        have i4:=Z0p s mid
        have i5:=Z0p mid ee
        have i6:=Z0p ee b
        simp only[ps,pm,hal,hbe,hga,hde,decide_true,decide_false] at i1 i2 i3 i4 i5 i6
        have HW:=hD0 (aI0 ps pm)
        simp only[hbe,iff_true,iff_false] at ps
        simp only[hal,iff_true,iff_false] at pm
        clear hs1 hs2 hs3 hs4 hs5
        first
          | (have HX:=hD0 (T.out.2.1 hal hbe wr HNn.out)
             go_wp2_with fail
             refine HX.out.mono ?_
             rintro e1 w6 ⟨rfl,k1⟩
             have HK1:=hD0 k1
             clear k1)
          | (have HK1:=hD0 (T.out.1 (by first | exact .inl hal | exact .inr hbe) wr HNn.out)
             generalize wr=w6 at *)
        first
          | (have HY:=hD0 (T.out.2.2.2.1 hga (HW.out.1.2 hbe) w6 HK1.out)
             go_wp2_with fail
             refine HY.out.mono ?_
             rintro e2 w7 ⟨rfl,k2⟩
             have HK2:=hD0 k2
             clear k2)
          | (have HK2:=hD0 (T.out.2.2.1 (by first | exact .inl hga | exact .inr (fun q=>hbe (HW.out.1.1 q))) w6 HK1.out)
             generalize w6=w7 at *)
        first
          | (have HZ:=hD0 (T.out.2.2.2.2.2 (HW.out.2.2 hal) hde w7 HK2.out)
             go_wp2_with fail
             refine HZ.out.mono ?_
             rintro e3 w8 hp
             have HP:=hD0 hp
             obtain⟨rfl,_⟩:=hp)
          | have HP:=hD0 (T.out.2.2.2.2.1 (by first | exact .inl (fun q=>hal (HW.out.2.1 q)) | exact .inr hde) w7 HK2.out)
        go_wp2
        exact bodyPost_end (results_none rfl _ _ _) rfl HP.out
end Go.Proofs.YtfepoibfbmehiaaGreatDoor
