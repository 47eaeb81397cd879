/- Texts merged: R1B, QuA, QuB -/
import Derived.Test.YtbnpnccpobkodaaGreatVictimCallsB3
set_option linter.unusedVariables false
set_option maxRecDepth 100000
set_option maxHeartbeats 16000000
namespace Go.Proofs.YtbnpnccpobkodaaGreat
open Go.RowKit _root_.Go.Proofs.Tryz
theorem Z7l(a b:Int)(w:World):Calls prog 27 #[.int .i64 a,.int .i64 b] w fun e w'=>e=.returned (.bool (cpI a b))∧Nw w w':=by
 cases ha:V9 a with
 | true =>
  cases hb:V9 b with
  | true=>exact Z65 a b ha hb w
  | false =>
   have hc:cpI a b=false:=by simp[cpI,hb]
   rw[hc]
   have HA:=hD0 (Z59 a ha)
   have HB:=hD0 (Z58 b hb)
   clear ha hb hc
   go_enter func27,ntmps27
   go_wp2_with fail
   refine(HA.out _).mono ?_
   rintro e w' ⟨rfl,rfl⟩
   go_wp2_with fail
   refine(HB.out _).mono ?_
   rintro e w' ⟨rfl,rfl⟩
   go_wp2
   go_ret
   exact⟨rfl,Nw.refl _⟩
 | false =>
  have hc:cpI a b=false:=by simp[cpI,ha]
  rw[hc]
  have HA:=hD0 (Z58 a ha)
  clear ha hc
  go_enter func27,ntmps27
  go_wp2_with fail
  refine(HA.out _).mono ?_
  rintro e w' ⟨rfl,rfl⟩
  go_wp2
  go_ret
  exact⟨rfl,Nw.refl _⟩
theorem Z7m(a b:Int)(ha:V9 a=true)(hb:V9 b=true)(w:World):Calls prog 46 #[.int .i64 a,.int .i64 b] w fun e w'=>e=.returned (.bool (cvI a b))∧Nw w w':=by
 have hr:=Z97 a ha
 rcases Yx ha with rfl | rfl | rfl | rfl | rfl | rfl | rfl<;>rcases Yx hb with rfl | rfl | rfl | rfl | rfl | rfl | rfl
 all_goals
  go_enter func46,ntmps46
  go_wp2_with (first | (go_at_call 45;refine(Z59 _ rfl _).mono ?_;rintro e w' ⟨rfl,rfl⟩) | (go_at_call 62;refine(hr _).mono ?_;rintro e w' ⟨rfl,hg⟩))
  go_ret
  exact⟨rfl,hg⟩
theorem Zbm(a b:Int)(w:World):Calls prog 46 #[.int .i64 a,.int .i64 b] w fun e w'=>e=.returned (.bool (cvI a b))∧Nw w w':=by
 cases ha:V9 a with
 | true =>
  cases hb:V9 b with
  | true=>exact Z7m a b ha hb w
  | false =>
   have hc:cvI a b=false:=by simp[cvI,hb]
   rw[hc]
   have HA:=hD0 (Z59 a ha)
   have HB:=hD0 (Z58 b hb)
   clear ha hb hc
   go_enter func46,ntmps46
   go_wp2_with fail
   refine(HA.out _).mono ?_
   rintro e w' ⟨rfl,rfl⟩
   go_wp2_with fail
   refine(HB.out _).mono ?_
   rintro e w' ⟨rfl,rfl⟩
   go_wp2
   go_ret
   exact⟨rfl,Nw.refl _⟩
 | false =>
  have hc:cvI a b=false:=by simp[cvI,ha]
  rw[hc]
  have HA:=hD0 (Z58 a ha)
  clear ha hc
  go_enter func46,ntmps46
  go_wp2_with fail
  refine(HA.out _).mono ?_
  rintro e w' ⟨rfl,rfl⟩
  go_wp2
  go_ret
  exact⟨rfl,Nw.refl _⟩
def Z0r(r:Rq):List Value:=[.int .i64 r.id,.int .i64 r.txn,.int .i64 r.md,.int .i64 r.wt,.int .i64 r.sn]
def rqV(r:Rq):Value:=.agg #[.int .i64 r.id,.int .i64 r.txn,.int .i64 r.md,.int .i64 r.wt,.int .i64 r.sn]
def hdV(t r:Int)(v:Value)(W:Int):Value:=.agg #[.int .i64 t,.int .i64 r,v,.int .i64 W]
abbrev RqC:=RdC 5 Z0r
abbrev Ur:=Rd 5 Z0r
abbrev Z9q(w:World)(g0:Nat)(v:Value)(q:List Rq):Prop:=Zu 56 5 Z0r w g0 v q
structure Z2g(w:World)(p:Nat)(t r:Int)(v:Value)(W:Int):Prop where
 lt:p<w.heap.size
 c0:w.cell? ⟨p,0,none⟩=some (.int .i64 t)
 c1:w.cell? ⟨p,1,none⟩=some (.int .i64 r)
 c2:w.cell? ⟨p,2,none⟩=some v
 c3:w.cell? ⟨p,3,none⟩=some (.int .i64 W)
theorem Z2g.nw{w w':World}{p:Nat}{t r:Int}{v:Value}{W:Int}(h:Z2g w p t r v W)(g:Nw w w'):Z2g w' p t r v W :=
 ⟨lL0 h.lt g.sz,(g.cell h.lt).trans h.c0,(g.cell h.lt).trans h.c1,(g.cell h.lt).trans h.c2,(g.cell h.lt).trans h.c3⟩
theorem Z2g.made(w:World)(t r:Int)(v:Value)(W:Int)(T:TypeId):Z2g (w.alloc (.cells #[.int .i64 t,.int .i64 r,v,.int .i64 W] T)) w.heap.size t r v W:=by
 have h:=Z4 w (.cells #[.int .i64 t,.int .i64 r,v,.int .i64 W] T)
 exact⟨hlt h,Z2 h,Z2 h,Z2 h,Z2 h⟩
theorem Zi(a b m wn s:Int)(w:World):Calls prog 26 #[.agg #[.int .i64 a,.int .i64 b,.int .i64 m,.int .i64 wn,.int .i64 s]] w fun e w'=>e=.returned (.bool (m != 0))∧Nw w w':=by
 go_enter func26,ntmps26
 go_wp2
 go_ret
 exact⟨rfl,(Nw.refl _).alloc _⟩
theorem Zg(a b m wn s:Int)(w:World):Calls prog 25 #[.agg #[.int .i64 a,.int .i64 b,.int .i64 m,.int .i64 wn,.int .i64 s]] w fun e w'=>e=.returned (.bool (decide (0<s)))∧Nw w w':=by
 go_enter func25,ntmps25
 go_wp2
 go_ret
 exact⟨rfl,(Nw.refl _).alloc _⟩
theorem Z99(a b m n s W:Int)(w:World):Calls prog 24 #[.agg #[.int .i64 a,.int .i64 b,.int .i64 m,.int .i64 n,.int .i64 s],.int .i64 W] w fun e w'=>e=.returned (.bool (rtB W ⟨a,b,m,n,s⟩))∧Nw w w':=by
 have hK1:=fun w=>Z07 m w
 have hK2:=fun w=>Z07 n w
 have hCV:=fun w=>Zbm m n w
 unfold rtB
 simp only
 generalize V9 m=k1 at *
 generalize V9 n=k2 at *
 generalize cvI m n=cv at *
 have K1:=hD0 hK1
 have K2:=hD0 hK2
 have CV:=hD0 hCV
 clear hK1 hK2 hCV
 by_cases h1:a<0
 ·rw[show(!(((((decide (a<0) || !k1) || !k2) || decide (s<0)) || decide (W<s)))&&(if 0<s then !cv else((m != 0)&&(n==m))))=false by simp[h1]]
  go_enter func24,ntmps24
  go_wp2
  go_ret
  exact⟨rfl,(Nw.refl _).alloc _⟩
 cases k1
 ·rw[show(!(((((decide (a<0) || !false) || !k2) || decide (s<0)) || decide (W<s)))&&(if 0<s then !cv else((m != 0)&&(n==m))))=false by simp]
  go_enter func24,ntmps24
  go_wp2_with fail
  refine(K1.out _).mono ?_
  rintro e w' ⟨rfl,rfl⟩
  go_wp2
  go_ret
  exact⟨rfl,(Nw.refl _).alloc _⟩
 cases k2
 ·rw[show(!(((((decide (a<0) || !true) || !false) || decide (s<0)) || decide (W<s)))&&(if 0<s then !cv else((m != 0)&&(n==m))))=false by simp]
  go_enter func24,ntmps24
  go_wp2_with fail
  refine(K1.out _).mono ?_
  rintro e w' ⟨rfl,rfl⟩
  go_wp2_with fail
  refine(K2.out _).mono ?_
  rintro e w' ⟨rfl,rfl⟩
  go_wp2
  go_ret
  exact⟨rfl,(Nw.refl _).alloc _⟩
 by_cases h4:s<0
 ·rw[show(!(((((decide (a<0) || !true) || !true) || decide (s<0)) || decide (W<s)))&&(if 0<s then !cv else((m != 0)&&(n==m))))=false by simp[h4]]
  go_enter func24,ntmps24
  go_wp2_with fail
  refine(K1.out _).mono ?_
  rintro e w' ⟨rfl,rfl⟩
  go_wp2_with fail
  refine(K2.out _).mono ?_
  rintro e w' ⟨rfl,rfl⟩
  go_wp2
  go_ret
  exact⟨rfl,(Nw.refl _).alloc _⟩
 by_cases h5:W<s
 ·rw[show(!(((((decide (a<0) || !true) || !true) || decide (s<0)) || decide (W<s)))&&(if 0<s then !cv else((m != 0)&&(n==m))))=false by simp[h5]]
  go_enter func24,ntmps24
  go_wp2_with fail
  refine(K1.out _).mono ?_
  rintro e w' ⟨rfl,rfl⟩
  go_wp2_with fail
  refine(K2.out _).mono ?_
  rintro e w' ⟨rfl,rfl⟩
  go_wp2
  go_ret
  exact⟨rfl,(Nw.refl _).alloc _⟩
 by_cases h6:0<s
 ·rw[show(!(((((decide (a<0) || !true) || !true) || decide (s<0)) || decide (W<s)))&&(if 0<s then !cv else((m != 0)&&(n==m))))=!cv by simp[h1,h4,h5,h6]]
  have d6:decide (0<s)=true:=by simpa using h6
  go_enter func24,ntmps24
  go_wp2_with fail
  refine(K1.out _).mono ?_
  rintro e w' ⟨rfl,rfl⟩
  go_wp2_with fail
  refine(K2.out _).mono ?_
  rintro e w' ⟨rfl,rfl⟩
  go_wp2_with fail
  refine(Zg _ _ _ _ _ _).mono ?_
  rintro e w2 ⟨rfl,g2⟩
  have hN:=((Nw.refl w).alloc (.cells #[.int .i64 a,.int .i64 b,.int .i64 m,.int .i64 n,.int .i64 s] 56)).trans g2
  have c2:w2.cell? ⟨w.heap.size,2,none⟩=some (.int .i64 m):=g2.kp (Z2 (Z4 w _))
  have c3:w2.cell? ⟨w.heap.size,3,none⟩=some (.int .i64 n):=g2.kp (Z2 (Z4 w _))
  clear g2
  go_wp2_with fail
  refine(CV.out _).mono ?_
  rintro e w4 ⟨rfl,g4⟩
  go_wp2
  go_ret
  exact⟨rfl,hN.trans g4⟩
 ·rw[show(!(((((decide (a<0) || !true) || !true) || decide (s<0)) || decide (W<s)))&&(if 0<s then !cv else((m != 0)&&(n==m))))=((m != 0)&&(n==m))by simp[h1,h4,h5,h6]]
  have d6:decide (0<s)=false:=by simpa using h6
  cases h7:(m != 0)
  ·go_enter func24,ntmps24
   go_wp2_with fail
   refine(K1.out _).mono ?_
   rintro e w' ⟨rfl,rfl⟩
   go_wp2_with fail
   refine(K2.out _).mono ?_
   rintro e w' ⟨rfl,rfl⟩
   go_wp2_with fail
   refine(Zg _ _ _ _ _ _).mono ?_
   rintro e w2 ⟨rfl,g2⟩
   have hN:=((Nw.refl w).alloc (.cells #[.int .i64 a,.int .i64 b,.int .i64 m,.int .i64 n,.int .i64 s] 56)).trans g2
   have c0:w2.cell? ⟨w.heap.size,0,none⟩=some (.int .i64 a):=g2.kp (Z2 (Z4 w _))
   have c1:w2.cell? ⟨w.heap.size,1,none⟩=some (.int .i64 b):=g2.kp (Z2 (Z4 w _))
   have c2:w2.cell? ⟨w.heap.size,2,none⟩=some (.int .i64 m):=g2.kp (Z2 (Z4 w _))
   have c3:w2.cell? ⟨w.heap.size,3,none⟩=some (.int .i64 n):=g2.kp (Z2 (Z4 w _))
   have c4:w2.cell? ⟨w.heap.size,4,none⟩=some (.int .i64 s):=g2.kp (Z2 (Z4 w _))
   clear g2
   go_wp2_with fail
   refine(Zi _ _ _ _ _ _).mono ?_
   rintro e w4 ⟨rfl,g4⟩
   go_wp2
   go_ret
   exact⟨rfl,hN.trans g4⟩
  ·go_enter func24,ntmps24
   go_wp2_with fail
   refine(K1.out _).mono ?_
   rintro e w' ⟨rfl,rfl⟩
   go_wp2_with fail
   refine(K2.out _).mono ?_
   rintro e w' ⟨rfl,rfl⟩
   go_wp2_with fail
   refine(Zg _ _ _ _ _ _).mono ?_
   rintro e w2 ⟨rfl,g2⟩
   have hN:=((Nw.refl w).alloc (.cells #[.int .i64 a,.int .i64 b,.int .i64 m,.int .i64 n,.int .i64 s] 56)).trans g2
   have c0:w2.cell? ⟨w.heap.size,0,none⟩=some (.int .i64 a):=g2.kp (Z2 (Z4 w _))
   have c1:w2.cell? ⟨w.heap.size,1,none⟩=some (.int .i64 b):=g2.kp (Z2 (Z4 w _))
   have c2:w2.cell? ⟨w.heap.size,2,none⟩=some (.int .i64 m):=g2.kp (Z2 (Z4 w _))
   have c3:w2.cell? ⟨w.heap.size,3,none⟩=some (.int .i64 n):=g2.kp (Z2 (Z4 w _))
   have c4:w2.cell? ⟨w.heap.size,4,none⟩=some (.int .i64 s):=g2.kp (Z2 (Z4 w _))
   clear g2
   go_wp2_with fail
   refine(Zi _ _ _ _ _ _).mono ?_
   rintro e w4 ⟨rfl,g4⟩
   replace c2:=g4.kp c2
   replace c3:=g4.kp c3
   replace hN:=hN.trans g4
   go_wp2
   go_ret
   exact⟨rfl,hN⟩
end Go.Proofs.YtbnpnccpobkodaaGreat
