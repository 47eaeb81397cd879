/- Texts merged: VbB, QuA -/
import Derived.Test.YtbefaomgldckdaaVictimNamesB2
set_option linter.unusedVariables false
set_option maxRecDepth 100000
set_option maxHeartbeats 16000000
namespace Go.Proofs.Ytbefaomgldckdaa
open Go.RowKit _root_.Go.Proofs.Try
theorem Z29{w0:World}{v:Value}{ages:List (Int × Int)}(h:Zl w0 v ages)(hl:ages.length≤1000)(t:Int) :
  Calls prog 6 #[v,.int .i64 t] w0 fun e w'=>e=.returned (.int .i64 (Yc ages t))∧Nw w0 w':=by
 obtain⟨la,lc,rfl,hd⟩:=h
 have HD:=hD0 hd
 obtain⟨n,hn⟩:∃n,ages.length=n:=⟨_,rfl⟩
 have HN:=hD0 hn
 obtain⟨A,hA⟩:∃a,Yc ages t=a:=⟨_,rfl⟩
 have HA:=hD0 hA
 rw[hn] at hl ⊢
 rw[hA]
 clear hd hn hA
 go_enter func6,ntmps6
 go_wp2_with fail
 go_loopw [9] (fun v wr=>∃k:Nat,v=.int .i64 k∧k≤n∧Hid ((∀j,(h:j<ages.length)→j<k→ages[j].1≠t)∧Nw w0 wr)) (fun v _=>n-(intOf v).toNat)
 case atStart=>exact⟨0,rfl,Nat.zero_le _,hD0 ⟨fun j _ h=>absurd h (Nat.not_lt_zero j),Nw.refl _⟩⟩
 case round =>
  obtain⟨k,rfl,hk,HG⟩:=hrel
  by_cases hlt:k<n
  ·have hkl:k<ages.length:=by rw[HN.out];exact hlt
   rcases HD.out with⟨q,_⟩ | ⟨eb,eo,rfl,hrc⟩
   ·rw[q] at hkl;simp at hkl
   obtain⟨x0,x1⟩:=(hrc.nw HG.out.2).eg hkl
   have hebl:=(hrc.nw HG.out.2).lt
   obtain⟨s,hs⟩:∃s,ages[k]=s:=⟨_,rfl⟩
   have HY:=hD0 (show ∃h:k<ages.length,ages[k]=s from⟨hkl,hs⟩)
   simp only[hs] at x0 x1
   obtain⟨x,y⟩:=s
   simp only at x0 x1
   have Yh:=Y6 hlt
   have hw:=Ya k (k+1) (by omega) rfl
   obtain⟨k1,hk1⟩:∃m,k+1=m:=⟨_,rfl⟩
   have HK1:=hD0 (aI0 hk1 hlt)
   have HNb:=hD0 (HG.out.2.alloc (.cells #[.int .i64 x,.int .i64 y] 24))
   rw[hk1] at hw
   clear hk1 hkl hrc hlt hs
   by_cases e:x=t
   ·have d1:(x==t)=true:=by simpa using e
    have HT:=hD0 (show A=y from by
     obtain⟨h1,h2⟩:=HY.out
     rw[←HA.out,Z5w h1 (fun j hj q=>HG.out.1 j hj q) (by rw[h2];exact e),h2])
    clear e
    go_wp2_with fail
    go_ret
    exact⟨by rw[HT.out];rfl,HNb.out⟩
   ·have d1:(x==t)=false:=by simpa using e
    have HT:=hD0 (show ∀j,(h:j<ages.length)→j<k1→ages[j].1≠t from fun j hj q=>by
     rw[←HK1.out.1] at q
     rcases Nat.lt_or_ge j k with c | c
     ·exact HG.out.1 j hj c
     ·obtain rfl:j=k:=by omega
      obtain⟨h1,h2⟩:=HY.out
      rw[h2];exact e)
    clear e
    go_wp2_with fail
    exact⟨⟨k1,rfl,by rw[←HK1.out.1];exact HK1.out.2,hD0 ⟨HT.out,HNb.out⟩⟩,by rw[←HK1.out.1];exact Ye HK1.out.2⟩
  ·obtain rfl:k=n:=Nat.le_antisymm hk (Nat.le_of_not_lt hlt)
   have Yh:¬k<k:=Nat.lt_irrefl k
   have HT:=hD0 (show A=0 from by
    rw[←HA.out]
    refine Z5x fun e he=>?_
    obtain⟨j,hj,rfl⟩:=List.getElem_of_mem he
    exact HG.out.1 j hj (by rw[←HN.out];exact hj))
   clear hlt
   go_wp2_with fail
   go_ret
   exact⟨by rw[HT.out];rfl,HG.out.2⟩
theorem Z2j{w0:World}{v:Value}{ages:List (Int × Int)}(h:Zl w0 v ages)(hl:ages.length≤1000)(hf:∀e∈ages,Z6 e.1) :
  Calls prog 15 #[v] w0 fun e w'=>∃mb,e=.returned (.map (some mb))∧Zb w' mb (Yj ages) ages.length∧Nw w0 w':=by
 obtain⟨la,lc,rfl,hd⟩:=h
 have HD:=hD0 hd
 have HF:=hD0 hf
 have hmm:=@run_makeMap prog
 obtain⟨n,hn⟩:∃n,ages.length=n:=⟨_,rfl⟩
 have HN:=hD0 hn
 have HL:=hD0 hl
 have HM0:=hD0 (Zb.made w0)
 have HN0:=hD0 (show Nw w0 (w0.alloc (.map #[] 0)) from(Nw.refl w0).alloc _)
 rw[hn] at hl ⊢
 clear hd hn hf
 go_enter func15,ntmps15
 go_wp2_with fail
 obtain⟨mb,hmb⟩:∃b,w0.heap.size=b:=⟨_,rfl⟩
 have HB:=hD0 hmb
 have HM:=hD0 (show Zb (w0.alloc (.map #[] 0)) mb (fun _=>none) 0 from by rw[←HB.out];exact HM0.out)
 obtain⟨w1,hw1⟩:∃x,w0.alloc (.map #[] 0)=x:=⟨_,rfl⟩
 rw[hw1] at HM HN0 ⊢
 rw[hmb]
 clear hw1 hmb hmm HM0
 go_loopw [11] (fun v wr=>∃k:Nat,v=.int .i64 k∧k≤n∧Hid (Zb wr mb (Yj (ages.take k)) k∧Nw w0 wr)) (fun v _=>n-(intOf v).toNat)
 case atStart=>exact⟨0,rfl,Nat.zero_le _,hD0 ⟨HM.out,HN0.out⟩⟩
 case round =>
  clear HM HN0
  obtain⟨k,rfl,hk,HG⟩:=hrel
  by_cases hlt:k<n
  ·have hkl:k<ages.length:=by rw[HN.out];exact hlt
   rcases HD.out with⟨q,_⟩ | ⟨eb,eo,rfl,hrc⟩
   ·rw[q] at hkl;simp at hkl
   obtain⟨x0,x1⟩:=(hrc.nw HG.out.2).eg hkl
   have hebl:=(hrc.nw HG.out.2).lt
   obtain⟨s,hs⟩:∃s,ages[k]=s:=⟨_,rfl⟩
   have hfx:Z6 s.1:=hs▸HF.out _ (gM0 hkl)
   have hsn:ages.take (k+1)=ages.take k++[s]:=by rw[List.take_succ_eq_append_getElem hkl,hs]
   simp only[hs] at x0 x1
   obtain⟨x,y⟩:=s
   simp only at x0 x1 hfx
   have Yh:=Y6 hlt
   have hw:=Ya k (k+1) (by omega) rfl
   have hMb:=HG.out.1.nw ((Nw.refl wr).alloc (.cells #[.int .i64 x,.int .i64 y] 24))
   have HNb:=hD0 (HG.out.2.alloc (.cells #[.int .i64 x,.int .i64 y] 24))
   obtain⟨k1,hk1⟩:∃m,k+1=m:=⟨_,rfl⟩
   have HK1:=hD0 (aI0 hk1 hlt)
   rw[hk1] at hw
   cases hc:Yj (ages.take k) x with
   | some z =>
    have hlk:=hMb.look64_yes hfx hc
    have HT:=hD0 (show Zb (wr.alloc (.cells #[.int .i64 x,.int .i64 y] 24)) mb (Yj (ages.take k1)) k1 from by
     rw[←hk1,hsn,Z4z (l:=ages.take k) (e:=(x,y)) hc]
     exact hMb.le (Nat.le_succ k))
    clear hk1 hkl hrc hlt hs hMb hfx hsn hc HG
    go_wp2_with fail
    exact⟨⟨k1,rfl,by rw[←HK1.out.1];exact HK1.out.2,hD0 ⟨HT.out,HNb.out⟩⟩,by rw[←HK1.out.1];exact Ye HK1.out.2⟩
   | none =>
    have hlk:=hMb.look64_no hfx hc
    obtain⟨w3,hr3,hM3,hg3⟩:=hMb.put64 (Nat.lt_of_le_of_lt hk (Nat.lt_of_le_of_lt hl (by decide))) hfx y
    have HR3:=hD0 hr3
    have HT:=hD0 (show Zb w3 mb (Yj (ages.take k1)) k1∧Nw w0 w3 from by
     rw[←hk1,hsn,Z6g (l:=ages.take k) (e:=(x,y)) hc]
     exact⟨hM3,HNb.out.gro hg3 (fun b e=>by rw[←Option.some.inj e,←HB.out];exact Nat.le_refl _)⟩)
    clear hk1 hkl hrc hlt hs hMb hfx hsn hc HG hr3 hM3 hg3
    go_wp2_with (at_mapUpdate;refine Zp rfl (.tmp 24) (.tmp 26) (.tmp 28) 44 rfl _ _ _ _ rfl rfl rfl HR3.out ?_)
    exact⟨⟨k1,rfl,by rw[←HK1.out.1];exact HK1.out.2,hD0 ⟨HT.out.1,HT.out.2⟩⟩,by rw[←HK1.out.1];exact Ye HK1.out.2⟩
  ·obtain rfl:k=n:=Nat.le_antisymm hk (Nat.le_of_not_lt hlt)
   have Yh:¬k<k:=Nat.lt_irrefl k
   have HT:=hD0 (show Zb wr mb (Yj ages) k∧Nw w0 wr from⟨by
    have:=HG.out.1
    rwa [List.take_of_length_le (Nat.le_of_eq HN.out)] at this,HG.out.2⟩)
   clear hlt HG
   go_wp2_with fail
   go_ret
   exact⟨mb,by rfl,HT.out.1,HT.out.2⟩
theorem Vj(a:Int)(w:World):Calls prog 30 #[.int .i64 a] w fun e w'=>e=.returned (.bool false)∧w=w':=by
 go_enter func30,ntmps30
 go_wp2
 go_ret
 exact⟨rfl,rfl⟩
theorem Z61(a b:Int)(w:World):Calls prog 18 #[.int .i64 a,.int .i64 b] w fun e w'=>e=.returned (.int .i64 (cP a b))∧w=w':=by
 rcases Int.lt_trichotomy a b with h | h | h
 ·rw[Z4g a b h]
  have hd:decide (a<b)=true:=by simpa using h
  go_enter func18,ntmps18
  go_wp2_with (go_at_call 30;refine(Vj _ _).mono ?_;rintro e w' ⟨rfl,rfl⟩)
  go_ret
  exact⟨rfl,rfl⟩
 ·subst h
  rw[Z75 a]
  go_enter func18,ntmps18
  go_wp2_with (go_at_call 30;refine(Vj _ _).mono ?_;rintro e w' ⟨rfl,rfl⟩)
  go_ret
  exact⟨rfl,rfl⟩
 ·rw[Z76 a b h]
  have hd:decide (a<b)=false:=by simp;omega
  have hd2:decide (b<a)=true:=by simpa using h
  go_enter func18,ntmps18
  go_wp2_with (go_at_call 30;refine(Vj _ _).mono ?_;rintro e w' ⟨rfl,rfl⟩)
  go_ret
  exact⟨rfl,rfl⟩
def cmA(ages:List (Int × Int))(a b:Int):Int:=orP (cP (Yc ages a) (Yc ages b)) (cP a b)
theorem Z60(ages:List (Int × Int))(x y:Int):0<cmA ages x y↔Zv ages y x:=by
 unfold cmA orP cP Zv
 generalize Yc ages x=A
 generalize Yc ages y=B
 repeat' split
 all_goals omega
theorem Z2c{w:World}{p mb N:Nat}{ages:List (Int × Int)}{x y:Int}(hp:w.cell? ⟨p,0,none⟩=some (.map (some mb)))(hm:Zb w mb (Yj ages) N)(hx:Z6 x)(hy:Z6 y) :
  Calls prog 16 #[.int .i64 x,.int .i64 y,.pointer (some ⟨p,0,none⟩)] w fun e w'=>e=.returned (.int .i64 (cmA ages x y))∧Nw w w':=by
 have hpl:=World.block_lt_of_cell? _ _ hp
 have h1:=hm.look64 hx
 have h2:=hm.look64 hy
 rw[Z4y] at h1 h2
 unfold cmA
 generalize Yc ages x=A at *
 generalize Yc ages y=B at *
 clear hm hx hy
 go_enter func16,ntmps16
 go_wp2_with (first | (go_at_call 18;refine(Z61 _ _ _).mono ?_;rintro e w' ⟨rfl,rfl⟩) | (go_at_call 19;refine(U8 _ _ _).mono ?_;rintro e w' ⟨rfl,rfl⟩) | (go_at_call 17;refine(Z8r _ (cP A B) (cP x y) _ (by simp[go_sem]) (by simp[go_sem])).mono ?_;rintro e w' ⟨rfl,rfl⟩))
 go_ret
 exact⟨rfl,(Nw.refl _).alloc _⟩
def Z0j(w:World)(f:Value)(c:Int→Int→Int):Prop:=∃(g:Nat) (lb:Array Value),f=.func (.func g) #[] lb∧(∀args w,(callFunc g args).run prog w=.ok (.enter g args) w)∧∀(x y:Int) (w1:World),Z6 x→Z6 y→Nw w w1→Calls prog g (#[.int .i64 x,.int .i64 y]++lb) w1 fun e w'=>e=.returned (.int .i64 (c x y))∧Nw w1 w'
theorem Z0j.nw{w w':World}{f:Value}{c:Int→Int→Int}(h:Z0j w f c)(g:Nw w w'):Z0j w' f c:=by
 obtain⟨k,lb,e,eg,hc⟩:=h
 exact⟨k,lb,e,eg,fun x y w1 hx hy h1=>hc x y w1 hx hy (g.trans h1)⟩
theorem Z0j.age{w:World}{p mb N:Nat}{ages:List (Int × Int)}(hp:w.cell? ⟨p,0,none⟩=some (.map (some mb)))(hm:Zb w mb (Yj ages) N):Z0j w (.func (.func 16) #[] #[.pointer (some ⟨p,0,none⟩)]) (cmA ages) :=
 ⟨_,_,rfl,enters_of func16 (by kernel_rfl) rfl,fun x y w1 hx hy g=>Z2c (g.kp hp) (hm.nw g) hx hy⟩
theorem Z05{w0:World}{v:Value}{ages:List (Int × Int)}(h:Zl w0 v ages)(hl:ages.length≤1000)(hf:∀e∈ages,Z6 e.1) :
  Calls prog 11 #[v] w0 fun e w'=>∃f,e=.returned f∧Z0j w' f (cmA ages)∧Nw w0 w':=by
 have HC:=hD0 (Z2j h hl hf)
 obtain⟨la,lc,rfl,hd⟩:=h
 clear hd
 go_enter func11,ntmps11
 go_wp2_with fail
 refine HC.out.mono ?_
 rintro e w1 ⟨mb,rfl,hM,g1⟩
 have hal:=Z5 w1 (.cells #[.map (some mb)] 44)
 have g2:Nw w1 (w1.alloc (.cells #[.map (some mb)] 44)):=(Nw.refl _).alloc _
 have HR:=hD0 (aI0 (Z0j.age (Z2 (j:=0) hal) (hM.nw g2)) (g1.trans g2))
 clear hM g1 hal g2 HC
 go_wp2_with fail
 go_ret
 exact⟨_,rfl,HR.out.1,HR.out.2⟩
def bsF(ages:List (Int × Int)):List Int→Int
 | []=>0
 | a::r=>Zf ages a r
theorem Z4f{ages:List (Int × Int)}{l:List Int}(h:l≠[])(x:Int):bsF ages (l++[x])=Ys ages (bsF ages l) x:=by
 cases l with
 | nil=>exact absurd rfl h
 | cons a r=>exact V3 ages a r x
theorem Z5y{ages:List (Int × Int)}{l:List Int}(h:l≠[]):bsF ages l∈l:=by
 cases l with
 | nil=>exact absurd rfl h
 | cons a r=>exact(Vs ages a r).1
def Z7e(r:Rq):List Value:=[.int .i64 r.id,.int .i64 r.txn,.int .i64 r.md,.int .i64 r.wt,.int .i64 r.sn]
def U6(r:Rq):Value:=.agg #[.int .i64 r.id,.int .i64 r.txn,.int .i64 r.md,.int .i64 r.wt,.int .i64 r.sn]
def hdV(t r:Int)(v:Value)(W:Int):Value:=.agg #[.int .i64 t,.int .i64 r,v,.int .i64 W]
abbrev Z2b:=Rd 5 Z7e
abbrev Z8d(w:World)(g0:Nat)(v:Value)(q:List Rq):Prop:=Y4 63 5 Z7e w g0 v q
structure Z9o(w:World)(p:Nat)(t r:Int)(v:Value)(W:Int):Prop where
 lt:p<w.heap.size
 c0:w.cell? ⟨p,0,none⟩=some (.int .i64 t)
 c1:w.cell? ⟨p,1,none⟩=some (.int .i64 r)
 c2:w.cell? ⟨p,2,none⟩=some v
 c3:w.cell? ⟨p,3,none⟩=some (.int .i64 W)
end Go.Proofs.Ytbefaomgldckdaa
