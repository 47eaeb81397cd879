/- Texts merged: QuC -/
import Derived.Test.YtbnpnccpobkodaaGreatVictimCallsB4
set_option linter.unusedVariables false
set_option maxRecDepth 100000
set_option maxHeartbeats 16000000
namespace Go.Proofs.YtbnpnccpobkodaaGreat
open Go.RowKit _root_.Go.Proofs.Tryz
theorem Z7e(W:Int)(q:List Rq)(k:Nat)(hk:k<q.length):okP W (q.take (k+1))=(okP W (q.take k)&&(rtB W q[k]&&(q.take k).all fun a=>prB a q[k])):=by
 rw[List.take_add_one,List.getElem?_eq_getElem hk]
 exact Z37 W q[k] (q.take k)
theorem Z1g(W:Int):∀(l m:List Rq),okP W (l++m)=true→okP W l=true
 | l,[],h=>by simpa using h
 | l,b::m,h=>by
  have e:l++b::m=(l++[b])++m:=by simp
  rw[e] at h
  have:=Z1g W (l++[b]) m h
  rw[Z37,Bool.and_eq_true] at this
  exact this.1
theorem Zan(W:Int)(q:List Rq)(k:Nat)(h:okP W (q.take (k+1))=false):okP W q=false:=by
 cases e:okP W q with
 | false=>rfl
 | true =>
  have:=Z1g W (q.take (k+1)) (q.drop (k+1)) (by rw[List.take_append_drop];exact e)
  rw[h] at this;cases this
theorem Z6h(p:Rq→Bool)(q:List Rq)(j:Nat)(hj:j<q.length):(q.take (j+1)).all p=((q.take j).all p&&p q[j]):=by
 rw[List.take_add_one,List.getElem?_eq_getElem hj,List.all_append]
 simp
theorem Za3(p:Rq→Bool)(q:List Rq)(k j:Nat)(hj:j<k)(hq:j<q.length)(h:p q[j]=false):(q.take k).all p=false:=by
 rw[List.all_eq_false]
 exact⟨q[j],List.mem_take_iff_getElem.2 ⟨j,by omega,rfl⟩,by simp[h]⟩
theorem Zr{w:World}{B:Nat}{o:Obj}(hb:w.heap[B]?=some o):B<w.heap.size:=hlt hb
theorem Zao(A R:Rq):prB A R=!((((((A.id==R.id) || (A.txn==R.txn)) || (decide (0<A.sn)&&(A.sn==R.sn))) || ((!(A.md != 0))&&((R.md != 0) || decide (R.sn<A.sn)))) || (((A.md != 0)&&(R.md != 0))&&!cpI A.md R.md))):=by
 unfold prB
 rw[show(A.md==0)=!(A.md != 0)by simp[bne]]
theorem Z25(t r W:Int)(b o c:Nat)(q:List Rq)(w:World)(hl:q.length≤1000)(h0:0≤W)(h1:W≤4611686018427387904)(h:RqC w b o q) :
  Calls prog 15 #[.agg #[.int .i64 t,.int .i64 r,.slice (some ⟨b,o,none⟩) q.length c,.int .i64 W]] w fun e w'=>e=.returned (.int .i64 (if okP W q=true then 0 else 2))∧Nw w w':=by
 obtain⟨E,hE⟩:∃E:Int,(if okP W q=true then(0:Int)else 2)=E:=⟨_,rfl⟩
 rw[hE]
 have HE:=hD0 hE
 clear hE
 have H:=hD0 h
 have d0:decide (W<0)=false:=by simpa using h0
 have d1:decide (4611686018427387904<W)=false:=by simpa using h1
 clear h h0 h1
 go_enter func15,ntmps15
 go_wp2
 obtain⟨z,hz⟩:∃z,w.alloc (.cells #[.int .i64 t,.int .i64 r,.slice (some ⟨b,o,none⟩) q.length c,.int .i64 W] 43)=z:=⟨_,rfl⟩
 obtain⟨p,hp⟩:∃p,w.heap.size=p:=⟨_,rfl⟩
 have hB:Z2g z p t r (.slice (some ⟨b,o,none⟩) q.length c) W:=by rw[←hz,←hp];exact Z2g.made w _ _ _ _ _
 have hN:Nw w z:=by rw[←hz];exact(Nw.refl w).alloc _
 rw[hz,hp]
 have HZ:=hD0 (aI0 hB hN)
 have HR:=hD0 (H.out.nw hN)
 clear hz hp hB hN H
 go_loopw [3] (fun i wr=>∃k:Nat,k≤q.length∧i=.int .i64 k∧okP W (q.take k)=true∧Nw z wr) (fun i _=>q.length-(intOf i).toNat)
 case atStart=>exact⟨0,Nat.zero_le _,rfl,rfl,Nw.refl _⟩
 case round =>
  obtain⟨k,hk,rfl,hok,hG⟩:=hrel
  have hb:=HZ.out.1.nw hG
  have h0':=hb.c0
  have h1':=hb.c1
  have h2':=hb.c2
  have h3':=hb.c3
  have hpl:=hb.lt
  clear hb
  by_cases hlt:k<q.length
  ·have hce:=(HR.out.nw hG).cell k hlt
   have hst:=Z7e W q k hlt
   rw[hok,Bool.true_and] at hst
   have HF:=hD0 (Zan W q k)
   have HAt:=hD0 (fun j hj=>Z6h (fun a=>prB a q[k]) q j hj)
   have HAn:=hD0 (fun j hj hq=>Za3 (fun a=>prB a q[k]) q k j hj hq)
   have HRt:=hD0 (fun w=>Z99 q[k].id q[k].txn q[k].md q[k].wt q[k].sn W w)
   have HRe:=hD0 (HR.out.nw hG)
   generalize q[k]=R at *
   obtain⟨b0,b1,b2,b3,b4⟩:=R
   simp only at HRt
   have e0:=hce 0 _ rfl
   have e1:=hce 1 _ rfl
   have e2:=hce 2 _ rfl
   have e3:=hce 3 _ rfl
   have e4:=hce 4 _ rfl
   simp only[Nat.add_zero] at e0
   clear hce
   obtain⟨xr,hxr⟩:∃x,rtB W ⟨b0,b1,b2,b3,b4⟩=x:=⟨_,rfl⟩
   rw[hxr] at HRt hst
   clear hxr
   have HS:=hD0 hst
   have HG:=hD0 hG
   clear hst hG hok
   go_wp2_with fail
   refine(HRt.out _).mono ?_
   rintro e w2 ⟨rfl,g2⟩
   have hq:=Z4 wr (.cells #[.int .i64 b0,.int .i64 b1,.int .i64 b2,.int .i64 b3,.int .i64 b4] 56)
   have hq2:=g2.at' hq
   have g3:Nw wr w2:=((Nw.refl wr).alloc _).trans g2
   have n0:=g3.kp h0'
   have n1:=g3.kp h1'
   have n2:=g3.kp h2'
   have n3:=g3.kp h3'
   clear h0' h1' h2' h3' e0 e1 e2 e3 e4
   cases xr
   ·have hf:=HF.out (by rw[HS.out];rfl)
    have HFf:=hD0 hf
    have HGG:=hD0 (HZ.out.2.trans (HG.out.trans g3))
    clear HF HAt HAn HRt HRe HS HG HZ HR g2 g3 hq hq2 hf
    go_wp2
    go_ret
    exact⟨by rw[←HE.out,HFf.out];rfl,HGG.out⟩
   ·have hs:=HS.out
    rw[Bool.true_and] at hs
    have HS2:=hD0 hs
    obtain⟨pb,hpb⟩:∃pb,wr.heap.size=pb:=⟨_,rfl⟩
    rw[hpb] at hq2
    rw[hpb]
    have HRe2:=hD0 (HRe.out.nw g3)
    have HG2:=hD0 (HG.out.trans g3)
    have HBx:=hD0 hq2
    have HN4:=hD0 (aI0 n0 (aI0 n1 (aI0 n2 n3)))
    have hpl2:p<w2.heap.size:=lL0 hpl g3.sz
    have hbl2:b<w2.heap.size:=HRe2.out.lt
    clear hs HS g2 g3 hq hq2 hpb n0 n1 n2 n3 HRe HG HRt hpl
    clear wr
    go_wp2
    go_loopw [5] (fun i wr=>∃j:Nat,j≤k∧i=.int .i64 j∧(q.take j).all (fun a=>prB a ⟨b0,b1,b2,b3,b4⟩)=true∧Nw w2 wr) (fun i _=>k-(intOf i).toNat)
    case atStart=>exact⟨0,Nat.zero_le _,rfl,rfl,Nw.refl _⟩
    case round =>
     obtain⟨j,hj,rfl,hal,hZ⟩:=hrel
     have hpl:=lL0 hpl2 hZ.sz
     have h0:=hZ.kp HN4.out.1
     have h1:=hZ.kp HN4.out.2.1
     have h2:=hZ.kp HN4.out.2.2.1
     have h3:=hZ.kp HN4.out.2.2.2
     have hbx:=hZ.at' HBx.out
     have hxl:=Zr hbx
     have r0:=Z2 (j:=0) hbx
     have r1:=Z2 (j:=1) hbx
     have r2:=Z2 (j:=2) hbx
     have r3:=Z2 (j:=3) hbx
     have r4:=Z2 (j:=4) hbx
     clear hbx
     by_cases hjk:j<k
     ·have hce:=(HRe2.out.nw hZ).cell j (by omega)
      have HJ:=hD0 (HAt.out j (by omega))
      have HX:=hD0 (fun(hp:prB q[j] ⟨b0,b1,b2,b3,b4⟩=false)=>HF.out (by rw[HS2.out];exact HAn.out j hjk (by omega) hp))
      have hpe:=Zao q[j] ⟨b0,b1,b2,b3,b4⟩
      have hcp:=fun w=>Z7l q[j].md b2 w
      rw[hal,Bool.true_and] at HJ
      generalize q[j]=A at *
      obtain⟨f0,f1,f2,f3,f4⟩:=A
      have a0:=hce 0 _ rfl
      have a1:=hce 1 _ rfl
      have a2:=hce 2 _ rfl
      have a3:=hce 3 _ rfl
      have a4:=hce 4 _ rfl
      simp only[Nat.add_zero] at a0
      clear hce hal
      have hjl:(j:Int)<(q.length:Int):=by omega
      simp only at hpe hcp
      obtain⟨x1,h_1⟩:∃x,(f0==b0)=x:=⟨_,rfl⟩
      obtain⟨x2,h_2⟩:∃x,(f1==b1)=x:=⟨_,rfl⟩
      obtain⟨x3,h_3⟩:∃x,decide (0<f4)=x:=⟨_,rfl⟩
      obtain⟨x4,h_4⟩:∃x,(f4==b4)=x:=⟨_,rfl⟩
      obtain⟨x5,h_5⟩:∃x,(f2 != 0)=x:=⟨_,rfl⟩
      obtain⟨x6,h_6⟩:∃x,(b2 != 0)=x:=⟨_,rfl⟩
      obtain⟨x7,h_7⟩:∃x,decide (b4<f4)=x:=⟨_,rfl⟩
      obtain⟨x8,h_8⟩:∃x,cpI f2 b2=x:=⟨_,rfl⟩
      rw[h_1,h_2,h_3,h_4,h_5,h_6,h_7,h_8] at hpe
      rw[h_8] at hcp
      have HP:=hD0 hpe
      have CP:=hD0 hcp
      have HZ5:=hD0 hZ
      clear hpe hcp h_8 hZ
      have hal:=Z4 wr (.cells #[.int .i64 f0,.int .i64 f1,.int .i64 f2,.int .i64 f3,.int .i64 f4] 56)
      have hNa:Nw wr (wr.alloc (.cells #[.int .i64 f0,.int .i64 f1,.int .i64 f2,.int .i64 f3,.int .i64 f4] 56)):=(Nw.refl wr).alloc _
      have A0:=Z2 (j:=0) hal
      have A1:=Z2 (j:=1) hal
      have A2:=Z2 (j:=2) hal
      have A3:=Z2 (j:=3) hal
      have A4:=Z2 (j:=4) hal
      replace r0:=hNa.kp r0
      replace r1:=hNa.kp r1
      replace r2:=hNa.kp r2
      replace r3:=hNa.kp r3
      replace r4:=hNa.kp r4
      have n0:=hNa.kp h0
      have n1:=hNa.kp h1
      have n2:=hNa.kp h2
      have n3:=hNa.kp h3
      have hZ:=HZ5.out.trans hNa
      clear hal hNa HZ5
      cases x1
      ·skip
       cases x2
       ·skip
        cases x3
        ·skip
         cases x5
         ·skip
          cases x6
          ·skip
           cases x7
           ·skip
            have HQ:=hD0 (HP.out.trans (show _=true by simp))
            clear HP
            go_wp2_with (first | (go_at_call 25;refine(Zg _ _ _ _ _ _).mono ?_;rintro e w' ⟨rfl,hg⟩;replace A0:=hg.kp A0;replace A1:=hg.kp A1;replace A2:=hg.kp A2;replace A3:=hg.kp A3;replace A4:=hg.kp A4;replace r0:=hg.kp r0;replace r1:=hg.kp r1;replace r2:=hg.kp r2;replace r3:=hg.kp r3;replace r4:=hg.kp r4;replace n0:=hg.kp n0;replace n1:=hg.kp n1;replace n2:=hg.kp n2;replace n3:=hg.kp n3;replace hZ:=hZ.trans hg;clear hg) | (go_at_call 26;refine(Zi _ _ _ _ _ _).mono ?_;rintro e w' ⟨rfl,hg⟩;replace A0:=hg.kp A0;replace A1:=hg.kp A1;replace A2:=hg.kp A2;replace A3:=hg.kp A3;replace A4:=hg.kp A4;replace r0:=hg.kp r0;replace r1:=hg.kp r1;replace r2:=hg.kp r2;replace r3:=hg.kp r3;replace r4:=hg.kp r4;replace n0:=hg.kp n0;replace n1:=hg.kp n1;replace n2:=hg.kp n2;replace n3:=hg.kp n3;replace hZ:=hZ.trans hg;clear hg) | (go_at_call 27;refine(CP.out _).mono ?_;rintro e w' ⟨rfl,hg⟩;replace A0:=hg.kp A0;replace A1:=hg.kp A1;replace A2:=hg.kp A2;replace A3:=hg.kp A3;replace A4:=hg.kp A4;replace r0:=hg.kp r0;replace r1:=hg.kp r1;replace r2:=hg.kp r2;replace r3:=hg.kp r3;replace r4:=hg.kp r4;replace n0:=hg.kp n0;replace n1:=hg.kp n1;replace n2:=hg.kp n2;replace n3:=hg.kp n3;replace hZ:=hZ.trans hg;clear hg))
            go_roundw
            case rel=>exact⟨j+1,by omega,by go_num,by rw[HJ.out,HQ.out],hZ⟩
            case measure=>simp[intOf];omega
           ·skip
            have HQ:=hD0 (HP.out.trans (show _=false by simp))
            clear HP
            go_wp2_with (first | (go_at_call 25;refine(Zg _ _ _ _ _ _).mono ?_;rintro e w' ⟨rfl,hg⟩;replace A0:=hg.kp A0;replace A1:=hg.kp A1;replace A2:=hg.kp A2;replace A3:=hg.kp A3;replace A4:=hg.kp A4;replace r0:=hg.kp r0;replace r1:=hg.kp r1;replace r2:=hg.kp r2;replace r3:=hg.kp r3;replace r4:=hg.kp r4;replace n0:=hg.kp n0;replace n1:=hg.kp n1;replace n2:=hg.kp n2;replace n3:=hg.kp n3;replace hZ:=hZ.trans hg;clear hg) | (go_at_call 26;refine(Zi _ _ _ _ _ _).mono ?_;rintro e w' ⟨rfl,hg⟩;replace A0:=hg.kp A0;replace A1:=hg.kp A1;replace A2:=hg.kp A2;replace A3:=hg.kp A3;replace A4:=hg.kp A4;replace r0:=hg.kp r0;replace r1:=hg.kp r1;replace r2:=hg.kp r2;replace r3:=hg.kp r3;replace r4:=hg.kp r4;replace n0:=hg.kp n0;replace n1:=hg.kp n1;replace n2:=hg.kp n2;replace n3:=hg.kp n3;replace hZ:=hZ.trans hg;clear hg) | (go_at_call 27;refine(CP.out _).mono ?_;rintro e w' ⟨rfl,hg⟩;replace A0:=hg.kp A0;replace A1:=hg.kp A1;replace A2:=hg.kp A2;replace A3:=hg.kp A3;replace A4:=hg.kp A4;replace r0:=hg.kp r0;replace r1:=hg.kp r1;replace r2:=hg.kp r2;replace r3:=hg.kp r3;replace r4:=hg.kp r4;replace n0:=hg.kp n0;replace n1:=hg.kp n1;replace n2:=hg.kp n2;replace n3:=hg.kp n3;replace hZ:=hZ.trans hg;clear hg))
            go_ret
            exact⟨by rw[←HE.out,HX.out HQ.out];rfl,HZ.out.2.trans (HG2.out.trans hZ)⟩
          ·skip
           have HQ:=hD0 (HP.out.trans (show _=false by simp))
           clear HP
           go_wp2_with (first | (go_at_call 25;refine(Zg _ _ _ _ _ _).mono ?_;rintro e w' ⟨rfl,hg⟩;replace A0:=hg.kp A0;replace A1:=hg.kp A1;replace A2:=hg.kp A2;replace A3:=hg.kp A3;replace A4:=hg.kp A4;replace r0:=hg.kp r0;replace r1:=hg.kp r1;replace r2:=hg.kp r2;replace r3:=hg.kp r3;replace r4:=hg.kp r4;replace n0:=hg.kp n0;replace n1:=hg.kp n1;replace n2:=hg.kp n2;replace n3:=hg.kp n3;replace hZ:=hZ.trans hg;clear hg) | (go_at_call 26;refine(Zi _ _ _ _ _ _).mono ?_;rintro e w' ⟨rfl,hg⟩;replace A0:=hg.kp A0;replace A1:=hg.kp A1;replace A2:=hg.kp A2;replace A3:=hg.kp A3;replace A4:=hg.kp A4;replace r0:=hg.kp r0;replace r1:=hg.kp r1;replace r2:=hg.kp r2;replace r3:=hg.kp r3;replace r4:=hg.kp r4;replace n0:=hg.kp n0;replace n1:=hg.kp n1;replace n2:=hg.kp n2;replace n3:=hg.kp n3;replace hZ:=hZ.trans hg;clear hg) | (go_at_call 27;refine(CP.out _).mono ?_;rintro e w' ⟨rfl,hg⟩;replace A0:=hg.kp A0;replace A1:=hg.kp A1;replace A2:=hg.kp A2;replace A3:=hg.kp A3;replace A4:=hg.kp A4;replace r0:=hg.kp r0;replace r1:=hg.kp r1;replace r2:=hg.kp r2;replace r3:=hg.kp r3;replace r4:=hg.kp r4;replace n0:=hg.kp n0;replace n1:=hg.kp n1;replace n2:=hg.kp n2;replace n3:=hg.kp n3;replace hZ:=hZ.trans hg;clear hg))
           go_ret
           exact⟨by rw[←HE.out,HX.out HQ.out];rfl,HZ.out.2.trans (HG2.out.trans hZ)⟩
         ·skip
          cases x6
          ·skip
           have HQ:=hD0 (HP.out.trans (show _=true by simp))
           clear HP
           go_wp2_with (first | (go_at_call 25;refine(Zg _ _ _ _ _ _).mono ?_;rintro e w' ⟨rfl,hg⟩;replace A0:=hg.kp A0;replace A1:=hg.kp A1;replace A2:=hg.kp A2;replace A3:=hg.kp A3;replace A4:=hg.kp A4;replace r0:=hg.kp r0;replace r1:=hg.kp r1;replace r2:=hg.kp r2;replace r3:=hg.kp r3;replace r4:=hg.kp r4;replace n0:=hg.kp n0;replace n1:=hg.kp n1;replace n2:=hg.kp n2;replace n3:=hg.kp n3;replace hZ:=hZ.trans hg;clear hg) | (go_at_call 26;refine(Zi _ _ _ _ _ _).mono ?_;rintro e w' ⟨rfl,hg⟩;replace A0:=hg.kp A0;replace A1:=hg.kp A1;replace A2:=hg.kp A2;replace A3:=hg.kp A3;replace A4:=hg.kp A4;replace r0:=hg.kp r0;replace r1:=hg.kp r1;replace r2:=hg.kp r2;replace r3:=hg.kp r3;replace r4:=hg.kp r4;replace n0:=hg.kp n0;replace n1:=hg.kp n1;replace n2:=hg.kp n2;replace n3:=hg.kp n3;replace hZ:=hZ.trans hg;clear hg) | (go_at_call 27;refine(CP.out _).mono ?_;rintro e w' ⟨rfl,hg⟩;replace A0:=hg.kp A0;replace A1:=hg.kp A1;replace A2:=hg.kp A2;replace A3:=hg.kp A3;replace A4:=hg.kp A4;replace r0:=hg.kp r0;replace r1:=hg.kp r1;replace r2:=hg.kp r2;replace r3:=hg.kp r3;replace r4:=hg.kp r4;replace n0:=hg.kp n0;replace n1:=hg.kp n1;replace n2:=hg.kp n2;replace n3:=hg.kp n3;replace hZ:=hZ.trans hg;clear hg))
           go_roundw
           case rel=>exact⟨j+1,by omega,by go_num,by rw[HJ.out,HQ.out],hZ⟩
           case measure=>simp[intOf];omega
          ·skip
           cases x8
           ·skip
            have HQ:=hD0 (HP.out.trans (show _=false by simp))
            clear HP
            go_wp2_with (first | (go_at_call 25;refine(Zg _ _ _ _ _ _).mono ?_;rintro e w' ⟨rfl,hg⟩;replace A0:=hg.kp A0;replace A1:=hg.kp A1;replace A2:=hg.kp A2;replace A3:=hg.kp A3;replace A4:=hg.kp A4;replace r0:=hg.kp r0;replace r1:=hg.kp r1;replace r2:=hg.kp r2;replace r3:=hg.kp r3;replace r4:=hg.kp r4;replace n0:=hg.kp n0;replace n1:=hg.kp n1;replace n2:=hg.kp n2;replace n3:=hg.kp n3;replace hZ:=hZ.trans hg;clear hg) | (go_at_call 26;refine(Zi _ _ _ _ _ _).mono ?_;rintro e w' ⟨rfl,hg⟩;replace A0:=hg.kp A0;replace A1:=hg.kp A1;replace A2:=hg.kp A2;replace A3:=hg.kp A3;replace A4:=hg.kp A4;replace r0:=hg.kp r0;replace r1:=hg.kp r1;replace r2:=hg.kp r2;replace r3:=hg.kp r3;replace r4:=hg.kp r4;replace n0:=hg.kp n0;replace n1:=hg.kp n1;replace n2:=hg.kp n2;replace n3:=hg.kp n3;replace hZ:=hZ.trans hg;clear hg) | (go_at_call 27;refine(CP.out _).mono ?_;rintro e w' ⟨rfl,hg⟩;replace A0:=hg.kp A0;replace A1:=hg.kp A1;replace A2:=hg.kp A2;replace A3:=hg.kp A3;replace A4:=hg.kp A4;replace r0:=hg.kp r0;replace r1:=hg.kp r1;replace r2:=hg.kp r2;replace r3:=hg.kp r3;replace r4:=hg.kp r4;replace n0:=hg.kp n0;replace n1:=hg.kp n1;replace n2:=hg.kp n2;replace n3:=hg.kp n3;replace hZ:=hZ.trans hg;clear hg))
            go_ret
            exact⟨by rw[←HE.out,HX.out HQ.out];rfl,HZ.out.2.trans (HG2.out.trans hZ)⟩
           ·skip
            have HQ:=hD0 (HP.out.trans (show _=true by simp))
            clear HP
            go_wp2_with (first | (go_at_call 25;refine(Zg _ _ _ _ _ _).mono ?_;rintro e w' ⟨rfl,hg⟩;replace A0:=hg.kp A0;replace A1:=hg.kp A1;replace A2:=hg.kp A2;replace A3:=hg.kp A3;replace A4:=hg.kp A4;replace r0:=hg.kp r0;replace r1:=hg.kp r1;replace r2:=hg.kp r2;replace r3:=hg.kp r3;replace r4:=hg.kp r4;replace n0:=hg.kp n0;replace n1:=hg.kp n1;replace n2:=hg.kp n2;replace n3:=hg.kp n3;replace hZ:=hZ.trans hg;clear hg) | (go_at_call 26;refine(Zi _ _ _ _ _ _).mono ?_;rintro e w' ⟨rfl,hg⟩;replace A0:=hg.kp A0;replace A1:=hg.kp A1;replace A2:=hg.kp A2;replace A3:=hg.kp A3;replace A4:=hg.kp A4;replace r0:=hg.kp r0;replace r1:=hg.kp r1;replace r2:=hg.kp r2;replace r3:=hg.kp r3;replace r4:=hg.kp r4;replace n0:=hg.kp n0;replace n1:=hg.kp n1;replace n2:=hg.kp n2;replace n3:=hg.kp n3;replace hZ:=hZ.trans hg;clear hg) | (go_at_call 27;refine(CP.out _).mono ?_;rintro e w' ⟨rfl,hg⟩;replace A0:=hg.kp A0;replace A1:=hg.kp A1;replace A2:=hg.kp A2;replace A3:=hg.kp A3;replace A4:=hg.kp A4;replace r0:=hg.kp r0;replace r1:=hg.kp r1;replace r2:=hg.kp r2;replace r3:=hg.kp r3;replace r4:=hg.kp r4;replace n0:=hg.kp n0;replace n1:=hg.kp n1;replace n2:=hg.kp n2;replace n3:=hg.kp n3;replace hZ:=hZ.trans hg;clear hg))
            go_roundw
            case rel=>exact⟨j+1,by omega,by go_num,by rw[HJ.out,HQ.out],hZ⟩
            case measure=>simp[intOf];omega
        ·skip
         cases x4
         ·skip
          cases x5
          ·skip
           cases x6
           ·skip
            cases x7
            ·skip
             have HQ:=hD0 (HP.out.trans (show _=true by simp))
             clear HP
             go_wp2_with (first | (go_at_call 25;refine(Zg _ _ _ _ _ _).mono ?_;rintro e w' ⟨rfl,hg⟩;replace A0:=hg.kp A0;replace A1:=hg.kp A1;replace A2:=hg.kp A2;replace A3:=hg.kp A3;replace A4:=hg.kp A4;replace r0:=hg.kp r0;replace r1:=hg.kp r1;replace r2:=hg.kp r2;replace r3:=hg.kp r3;replace r4:=hg.kp r4;replace n0:=hg.kp n0;replace n1:=hg.kp n1;replace n2:=hg.kp n2;replace n3:=hg.kp n3;replace hZ:=hZ.trans hg;clear hg) | (go_at_call 26;refine(Zi _ _ _ _ _ _).mono ?_;rintro e w' ⟨rfl,hg⟩;replace A0:=hg.kp A0;replace A1:=hg.kp A1;replace A2:=hg.kp A2;replace A3:=hg.kp A3;replace A4:=hg.kp A4;replace r0:=hg.kp r0;replace r1:=hg.kp r1;replace r2:=hg.kp r2;replace r3:=hg.kp r3;replace r4:=hg.kp r4;replace n0:=hg.kp n0;replace n1:=hg.kp n1;replace n2:=hg.kp n2;replace n3:=hg.kp n3;replace hZ:=hZ.trans hg;clear hg) | (go_at_call 27;refine(CP.out _).mono ?_;rintro e w' ⟨rfl,hg⟩;replace A0:=hg.kp A0;replace A1:=hg.kp A1;replace A2:=hg.kp A2;replace A3:=hg.kp A3;replace A4:=hg.kp A4;replace r0:=hg.kp r0;replace r1:=hg.kp r1;replace r2:=hg.kp r2;replace r3:=hg.kp r3;replace r4:=hg.kp r4;replace n0:=hg.kp n0;replace n1:=hg.kp n1;replace n2:=hg.kp n2;replace n3:=hg.kp n3;replace hZ:=hZ.trans hg;clear hg))
             go_roundw
             case rel=>exact⟨j+1,by omega,by go_num,by rw[HJ.out,HQ.out],hZ⟩
             case measure=>simp[intOf];omega
            ·skip
             have HQ:=hD0 (HP.out.trans (show _=false by simp))
             clear HP
             go_wp2_with (first | (go_at_call 25;refine(Zg _ _ _ _ _ _).mono ?_;rintro e w' ⟨rfl,hg⟩;replace A0:=hg.kp A0;replace A1:=hg.kp A1;replace A2:=hg.kp A2;replace A3:=hg.kp A3;replace A4:=hg.kp A4;replace r0:=hg.kp r0;replace r1:=hg.kp r1;replace r2:=hg.kp r2;replace r3:=hg.kp r3;replace r4:=hg.kp r4;replace n0:=hg.kp n0;replace n1:=hg.kp n1;replace n2:=hg.kp n2;replace n3:=hg.kp n3;replace hZ:=hZ.trans hg;clear hg) | (go_at_call 26;refine(Zi _ _ _ _ _ _).mono ?_;rintro e w' ⟨rfl,hg⟩;replace A0:=hg.kp A0;replace A1:=hg.kp A1;replace A2:=hg.kp A2;replace A3:=hg.kp A3;replace A4:=hg.kp A4;replace r0:=hg.kp r0;replace r1:=hg.kp r1;replace r2:=hg.kp r2;replace r3:=hg.kp r3;replace r4:=hg.kp r4;replace n0:=hg.kp n0;replace n1:=hg.kp n1;replace n2:=hg.kp n2;replace n3:=hg.kp n3;replace hZ:=hZ.trans hg;clear hg) | (go_at_call 27;refine(CP.out _).mono ?_;rintro e w' ⟨rfl,hg⟩;replace A0:=hg.kp A0;replace A1:=hg.kp A1;replace A2:=hg.kp A2;replace A3:=hg.kp A3;replace A4:=hg.kp A4;replace r0:=hg.kp r0;replace r1:=hg.kp r1;replace r2:=hg.kp r2;replace r3:=hg.kp r3;replace r4:=hg.kp r4;replace n0:=hg.kp n0;replace n1:=hg.kp n1;replace n2:=hg.kp n2;replace n3:=hg.kp n3;replace hZ:=hZ.trans hg;clear hg))
             go_ret
             exact⟨by rw[←HE.out,HX.out HQ.out];rfl,HZ.out.2.trans (HG2.out.trans hZ)⟩
           ·skip
            have HQ:=hD0 (HP.out.trans (show _=false by simp))
            clear HP
            go_wp2_with (first | (go_at_call 25;refine(Zg _ _ _ _ _ _).mono ?_;rintro e w' ⟨rfl,hg⟩;replace A0:=hg.kp A0;replace A1:=hg.kp A1;replace A2:=hg.kp A2;replace A3:=hg.kp A3;replace A4:=hg.kp A4;replace r0:=hg.kp r0;replace r1:=hg.kp r1;replace r2:=hg.kp r2;replace r3:=hg.kp r3;replace r4:=hg.kp r4;replace n0:=hg.kp n0;replace n1:=hg.kp n1;replace n2:=hg.kp n2;replace n3:=hg.kp n3;replace hZ:=hZ.trans hg;clear hg) | (go_at_call 26;refine(Zi _ _ _ _ _ _).mono ?_;rintro e w' ⟨rfl,hg⟩;replace A0:=hg.kp A0;replace A1:=hg.kp A1;replace A2:=hg.kp A2;replace A3:=hg.kp A3;replace A4:=hg.kp A4;replace r0:=hg.kp r0;replace r1:=hg.kp r1;replace r2:=hg.kp r2;replace r3:=hg.kp r3;replace r4:=hg.kp r4;replace n0:=hg.kp n0;replace n1:=hg.kp n1;replace n2:=hg.kp n2;replace n3:=hg.kp n3;replace hZ:=hZ.trans hg;clear hg) | (go_at_call 27;refine(CP.out _).mono ?_;rintro e w' ⟨rfl,hg⟩;replace A0:=hg.kp A0;replace A1:=hg.kp A1;replace A2:=hg.kp A2;replace A3:=hg.kp A3;replace A4:=hg.kp A4;replace r0:=hg.kp r0;replace r1:=hg.kp r1;replace r2:=hg.kp r2;replace r3:=hg.kp r3;replace r4:=hg.kp r4;replace n0:=hg.kp n0;replace n1:=hg.kp n1;replace n2:=hg.kp n2;replace n3:=hg.kp n3;replace hZ:=hZ.trans hg;clear hg))
            go_ret
            exact⟨by rw[←HE.out,HX.out HQ.out];rfl,HZ.out.2.trans (HG2.out.trans hZ)⟩
          ·skip
           cases x6
           ·skip
            have HQ:=hD0 (HP.out.trans (show _=true by simp))
            clear HP
            go_wp2_with (first | (go_at_call 25;refine(Zg _ _ _ _ _ _).mono ?_;rintro e w' ⟨rfl,hg⟩;replace A0:=hg.kp A0;replace A1:=hg.kp A1;replace A2:=hg.kp A2;replace A3:=hg.kp A3;replace A4:=hg.kp A4;replace r0:=hg.kp r0;replace r1:=hg.kp r1;replace r2:=hg.kp r2;replace r3:=hg.kp r3;replace r4:=hg.kp r4;replace n0:=hg.kp n0;replace n1:=hg.kp n1;replace n2:=hg.kp n2;replace n3:=hg.kp n3;replace hZ:=hZ.trans hg;clear hg) | (go_at_call 26;refine(Zi _ _ _ _ _ _).mono ?_;rintro e w' ⟨rfl,hg⟩;replace A0:=hg.kp A0;replace A1:=hg.kp A1;replace A2:=hg.kp A2;replace A3:=hg.kp A3;replace A4:=hg.kp A4;replace r0:=hg.kp r0;replace r1:=hg.kp r1;replace r2:=hg.kp r2;replace r3:=hg.kp r3;replace r4:=hg.kp r4;replace n0:=hg.kp n0;replace n1:=hg.kp n1;replace n2:=hg.kp n2;replace n3:=hg.kp n3;replace hZ:=hZ.trans hg;clear hg) | (go_at_call 27;refine(CP.out _).mono ?_;rintro e w' ⟨rfl,hg⟩;replace A0:=hg.kp A0;replace A1:=hg.kp A1;replace A2:=hg.kp A2;replace A3:=hg.kp A3;replace A4:=hg.kp A4;replace r0:=hg.kp r0;replace r1:=hg.kp r1;replace r2:=hg.kp r2;replace r3:=hg.kp r3;replace r4:=hg.kp r4;replace n0:=hg.kp n0;replace n1:=hg.kp n1;replace n2:=hg.kp n2;replace n3:=hg.kp n3;replace hZ:=hZ.trans hg;clear hg))
            go_roundw
            case rel=>exact⟨j+1,by omega,by go_num,by rw[HJ.out,HQ.out],hZ⟩
            case measure=>simp[intOf];omega
           ·skip
            cases x8
            ·skip
             have HQ:=hD0 (HP.out.trans (show _=false by simp))
             clear HP
             go_wp2_with (first | (go_at_call 25;refine(Zg _ _ _ _ _ _).mono ?_;rintro e w' ⟨rfl,hg⟩;replace A0:=hg.kp A0;replace A1:=hg.kp A1;replace A2:=hg.kp A2;replace A3:=hg.kp A3;replace A4:=hg.kp A4;replace r0:=hg.kp r0;replace r1:=hg.kp r1;replace r2:=hg.kp r2;replace r3:=hg.kp r3;replace r4:=hg.kp r4;replace n0:=hg.kp n0;replace n1:=hg.kp n1;replace n2:=hg.kp n2;replace n3:=hg.kp n3;replace hZ:=hZ.trans hg;clear hg) | (go_at_call 26;refine(Zi _ _ _ _ _ _).mono ?_;rintro e w' ⟨rfl,hg⟩;replace A0:=hg.kp A0;replace A1:=hg.kp A1;replace A2:=hg.kp A2;replace A3:=hg.kp A3;replace A4:=hg.kp A4;replace r0:=hg.kp r0;replace r1:=hg.kp r1;replace r2:=hg.kp r2;replace r3:=hg.kp r3;replace r4:=hg.kp r4;replace n0:=hg.kp n0;replace n1:=hg.kp n1;replace n2:=hg.kp n2;replace n3:=hg.kp n3;replace hZ:=hZ.trans hg;clear hg) | (go_at_call 27;refine(CP.out _).mono ?_;rintro e w' ⟨rfl,hg⟩;replace A0:=hg.kp A0;replace A1:=hg.kp A1;replace A2:=hg.kp A2;replace A3:=hg.kp A3;replace A4:=hg.kp A4;replace r0:=hg.kp r0;replace r1:=hg.kp r1;replace r2:=hg.kp r2;replace r3:=hg.kp r3;replace r4:=hg.kp r4;replace n0:=hg.kp n0;replace n1:=hg.kp n1;replace n2:=hg.kp n2;replace n3:=hg.kp n3;replace hZ:=hZ.trans hg;clear hg))
             go_ret
             exact⟨by rw[←HE.out,HX.out HQ.out];rfl,HZ.out.2.trans (HG2.out.trans hZ)⟩
            ·skip
             have HQ:=hD0 (HP.out.trans (show _=true by simp))
             clear HP
             go_wp2_with (first | (go_at_call 25;refine(Zg _ _ _ _ _ _).mono ?_;rintro e w' ⟨rfl,hg⟩;replace A0:=hg.kp A0;replace A1:=hg.kp A1;replace A2:=hg.kp A2;replace A3:=hg.kp A3;replace A4:=hg.kp A4;replace r0:=hg.kp r0;replace r1:=hg.kp r1;replace r2:=hg.kp r2;replace r3:=hg.kp r3;replace r4:=hg.kp r4;replace n0:=hg.kp n0;replace n1:=hg.kp n1;replace n2:=hg.kp n2;replace n3:=hg.kp n3;replace hZ:=hZ.trans hg;clear hg) | (go_at_call 26;refine(Zi _ _ _ _ _ _).mono ?_;rintro e w' ⟨rfl,hg⟩;replace A0:=hg.kp A0;replace A1:=hg.kp A1;replace A2:=hg.kp A2;replace A3:=hg.kp A3;replace A4:=hg.kp A4;replace r0:=hg.kp r0;replace r1:=hg.kp r1;replace r2:=hg.kp r2;replace r3:=hg.kp r3;replace r4:=hg.kp r4;replace n0:=hg.kp n0;replace n1:=hg.kp n1;replace n2:=hg.kp n2;replace n3:=hg.kp n3;replace hZ:=hZ.trans hg;clear hg) | (go_at_call 27;refine(CP.out _).mono ?_;rintro e w' ⟨rfl,hg⟩;replace A0:=hg.kp A0;replace A1:=hg.kp A1;replace A2:=hg.kp A2;replace A3:=hg.kp A3;replace A4:=hg.kp A4;replace r0:=hg.kp r0;replace r1:=hg.kp r1;replace r2:=hg.kp r2;replace r3:=hg.kp r3;replace r4:=hg.kp r4;replace n0:=hg.kp n0;replace n1:=hg.kp n1;replace n2:=hg.kp n2;replace n3:=hg.kp n3;replace hZ:=hZ.trans hg;clear hg))
             go_roundw
             case rel=>exact⟨j+1,by omega,by go_num,by rw[HJ.out,HQ.out],hZ⟩
             case measure=>simp[intOf];omega
         ·skip
          have HQ:=hD0 (HP.out.trans (show _=false by simp))
          clear HP
          go_wp2_with (first | (go_at_call 25;refine(Zg _ _ _ _ _ _).mono ?_;rintro e w' ⟨rfl,hg⟩;replace A0:=hg.kp A0;replace A1:=hg.kp A1;replace A2:=hg.kp A2;replace A3:=hg.kp A3;replace A4:=hg.kp A4;replace r0:=hg.kp r0;replace r1:=hg.kp r1;replace r2:=hg.kp r2;replace r3:=hg.kp r3;replace r4:=hg.kp r4;replace n0:=hg.kp n0;replace n1:=hg.kp n1;replace n2:=hg.kp n2;replace n3:=hg.kp n3;replace hZ:=hZ.trans hg;clear hg) | (go_at_call 26;refine(Zi _ _ _ _ _ _).mono ?_;rintro e w' ⟨rfl,hg⟩;replace A0:=hg.kp A0;replace A1:=hg.kp A1;replace A2:=hg.kp A2;replace A3:=hg.kp A3;replace A4:=hg.kp A4;replace r0:=hg.kp r0;replace r1:=hg.kp r1;replace r2:=hg.kp r2;replace r3:=hg.kp r3;replace r4:=hg.kp r4;replace n0:=hg.kp n0;replace n1:=hg.kp n1;replace n2:=hg.kp n2;replace n3:=hg.kp n3;replace hZ:=hZ.trans hg;clear hg) | (go_at_call 27;refine(CP.out _).mono ?_;rintro e w' ⟨rfl,hg⟩;replace A0:=hg.kp A0;replace A1:=hg.kp A1;replace A2:=hg.kp A2;replace A3:=hg.kp A3;replace A4:=hg.kp A4;replace r0:=hg.kp r0;replace r1:=hg.kp r1;replace r2:=hg.kp r2;replace r3:=hg.kp r3;replace r4:=hg.kp r4;replace n0:=hg.kp n0;replace n1:=hg.kp n1;replace n2:=hg.kp n2;replace n3:=hg.kp n3;replace hZ:=hZ.trans hg;clear hg))
          go_ret
          exact⟨by rw[←HE.out,HX.out HQ.out];rfl,HZ.out.2.trans (HG2.out.trans hZ)⟩
       ·skip
        have HQ:=hD0 (HP.out.trans (show _=false by simp))
        clear HP
        go_wp2_with (first | (go_at_call 25;refine(Zg _ _ _ _ _ _).mono ?_;rintro e w' ⟨rfl,hg⟩;replace A0:=hg.kp A0;replace A1:=hg.kp A1;replace A2:=hg.kp A2;replace A3:=hg.kp A3;replace A4:=hg.kp A4;replace r0:=hg.kp r0;replace r1:=hg.kp r1;replace r2:=hg.kp r2;replace r3:=hg.kp r3;replace r4:=hg.kp r4;replace n0:=hg.kp n0;replace n1:=hg.kp n1;replace n2:=hg.kp n2;replace n3:=hg.kp n3;replace hZ:=hZ.trans hg;clear hg) | (go_at_call 26;refine(Zi _ _ _ _ _ _).mono ?_;rintro e w' ⟨rfl,hg⟩;replace A0:=hg.kp A0;replace A1:=hg.kp A1;replace A2:=hg.kp A2;replace A3:=hg.kp A3;replace A4:=hg.kp A4;replace r0:=hg.kp r0;replace r1:=hg.kp r1;replace r2:=hg.kp r2;replace r3:=hg.kp r3;replace r4:=hg.kp r4;replace n0:=hg.kp n0;replace n1:=hg.kp n1;replace n2:=hg.kp n2;replace n3:=hg.kp n3;replace hZ:=hZ.trans hg;clear hg) | (go_at_call 27;refine(CP.out _).mono ?_;rintro e w' ⟨rfl,hg⟩;replace A0:=hg.kp A0;replace A1:=hg.kp A1;replace A2:=hg.kp A2;replace A3:=hg.kp A3;replace A4:=hg.kp A4;replace r0:=hg.kp r0;replace r1:=hg.kp r1;replace r2:=hg.kp r2;replace r3:=hg.kp r3;replace r4:=hg.kp r4;replace n0:=hg.kp n0;replace n1:=hg.kp n1;replace n2:=hg.kp n2;replace n3:=hg.kp n3;replace hZ:=hZ.trans hg;clear hg))
        go_ret
        exact⟨by rw[←HE.out,HX.out HQ.out];rfl,HZ.out.2.trans (HG2.out.trans hZ)⟩
      ·skip
       have HQ:=hD0 (HP.out.trans (show _=false by simp))
       clear HP
       go_wp2_with (first | (go_at_call 25;refine(Zg _ _ _ _ _ _).mono ?_;rintro e w' ⟨rfl,hg⟩;replace A0:=hg.kp A0;replace A1:=hg.kp A1;replace A2:=hg.kp A2;replace A3:=hg.kp A3;replace A4:=hg.kp A4;replace r0:=hg.kp r0;replace r1:=hg.kp r1;replace r2:=hg.kp r2;replace r3:=hg.kp r3;replace r4:=hg.kp r4;replace n0:=hg.kp n0;replace n1:=hg.kp n1;replace n2:=hg.kp n2;replace n3:=hg.kp n3;replace hZ:=hZ.trans hg;clear hg) | (go_at_call 26;refine(Zi _ _ _ _ _ _).mono ?_;rintro e w' ⟨rfl,hg⟩;replace A0:=hg.kp A0;replace A1:=hg.kp A1;replace A2:=hg.kp A2;replace A3:=hg.kp A3;replace A4:=hg.kp A4;replace r0:=hg.kp r0;replace r1:=hg.kp r1;replace r2:=hg.kp r2;replace r3:=hg.kp r3;replace r4:=hg.kp r4;replace n0:=hg.kp n0;replace n1:=hg.kp n1;replace n2:=hg.kp n2;replace n3:=hg.kp n3;replace hZ:=hZ.trans hg;clear hg) | (go_at_call 27;refine(CP.out _).mono ?_;rintro e w' ⟨rfl,hg⟩;replace A0:=hg.kp A0;replace A1:=hg.kp A1;replace A2:=hg.kp A2;replace A3:=hg.kp A3;replace A4:=hg.kp A4;replace r0:=hg.kp r0;replace r1:=hg.kp r1;replace r2:=hg.kp r2;replace r3:=hg.kp r3;replace r4:=hg.kp r4;replace n0:=hg.kp n0;replace n1:=hg.kp n1;replace n2:=hg.kp n2;replace n3:=hg.kp n3;replace hZ:=hZ.trans hg;clear hg))
       go_ret
       exact⟨by rw[←HE.out,HX.out HQ.out];rfl,HZ.out.2.trans (HG2.out.trans hZ)⟩
     ·obtain rfl:j=k:=by omega
      have HZ5:=hD0 (aI0 hal hZ)
      clear hal hZ HAt HAn HF HRe2 HBx HN4 r0 r1 r2 r3 r4
      go_wp2
      go_roundw
      case rel=>exact⟨j+1,by omega,by go_num,by rw[HS2.out];exact HZ5.out.1,HG2.out.trans HZ5.out.2⟩
      case measure=>simp[intOf];omega
  ·obtain rfl:k=q.length:=by omega
   rw[List.take_length] at hok
   have HZ5:=hD0 (aI0 hok hG)
   clear hok hG
   go_wp2
   go_ret
   exact⟨by rw[←HE.out,HZ5.out.1];rfl,HZ.out.2.trans HZ5.out.2⟩
theorem Z3h(t r W:Int)(a:Option Addr)(c:Nat)(w:World)(h0:0≤W)(h1:W≤4611686018427387904) :
  Calls prog 15 #[.agg #[.int .i64 t,.int .i64 r,.slice a 0 c,.int .i64 W]] w fun e w'=>e=.returned (.int .i64 0)∧Nw w w':=by
 have d0:decide (W<0)=false:=by simpa using h0
 have d1:decide (4611686018427387904<W)=false:=by simpa using h1
 go_enter func15,ntmps15
 go_wp2
 refine wp_loop_rounds 1 ?_
 repeat (rw[rounds_succ];go_wp2)
 go_ret
 exact⟨rfl,(Nw.refl _).alloc _⟩
theorem Um(t r W:Int)(v:Value)(w:World)(h:W<0∨4611686018427387904<W) :
  Calls prog 15 #[.agg #[.int .i64 t,.int .i64 r,v,.int .i64 W]] w fun e w'=>e=.returned (.int .i64 2)∧Nw w w':=by
 by_cases h0:W<0
 ·go_enter func15,ntmps15
  go_wp2
  go_ret
  exact⟨rfl,(Nw.refl _).alloc _⟩
 ·have h1:4611686018427387904<W:=h.resolve_left h0
  have d0:decide (W<0)=false:=by simpa using h0
  have d1:decide (4611686018427387904<W)=true:=by simpa using h1
  clear h h0 h1
  go_enter func15,ntmps15
  go_wp2
  go_ret
  exact⟨rfl,(Nw.refl _).alloc _⟩
theorem Z98(t r W:Int)(v:Value)(q:List Rq)(w:World)(hl:q.length≤1000)(h:Ur w v q) :
  Calls prog 15 #[hdV t r v W] w fun e w'=>e=.returned (.int .i64 (if okQ W q=true then 0 else 2))∧Nw w w':=by
 by_cases h0:0≤W
 ·by_cases h1:W≤4611686018427387904
  ·have e:okQ W q=okP W q:=by simp[okQ,h0,h1]
   rw[e]
   obtain⟨a,c,rfl,⟨rfl,_⟩ | ⟨b,o,rfl,hc⟩⟩:=h
   ·exact Z3h t r W a c w h0 h1
   ·exact Z25 t r W b o c q w hl h0 h1 hc
  ·have e:okQ W q=false:=by simp[okQ,h1]
   rw[e]
   exact Um t r W v w (.inr (by omega))
 ·have e:okQ W q=false:=by simp[okQ,h0]
  rw[e]
  exact Um t r W v w (.inl (by omega))
end Go.Proofs.YtbnpnccpobkodaaGreat
