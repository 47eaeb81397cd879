/- Texts merged: StripeA, TbJ, QvA, QvC, QvM, QvN -/
import Derived.Test.YtpffldfpabglbaaGreatDoorTableScriptB8
set_option linter.unusedVariables false
set_option maxRecDepth 100000
set_option maxHeartbeats 16000000
namespace Go.Proofs.YtpffldfpabglbaaGreatDoor
open Go.RowKit _root_.Go.Proofs.Tryz
section
open Go.ChangeShapes Go.WideShapes Go.ChangeAt Go.RowKit
theorem Zqf(t r:Int):(Z8j t r).length≤1000:=by
 rcases Zhu t r with⟨rfl,rfl⟩ | ⟨h0,h1,rfl⟩ | ⟨h0,h1,h2,h3⟩ | h
 ·decide
 ·unfold Z8j;rw[Z4g t h0 h1];have:=Z08 t h0 h1;simp;omega
 ·unfold Z8j;rw[Z4f t r h0 h1 h2 h3];have:=Z08 t h0 h1;have:=Z08 r h2 h3;simp;omega
 ·unfold Z8j;rw[h];simp
theorem Zeg(t r:Int):(txt t r).size≤100000:=by
 have:=Zqf t r
 have e:(txt t r).size=(Z8j t r).length:=by unfold txt;simp[ByteArray.size]
 omega
theorem Z8k(t r:Int):(txt t r).data.toList=Z8j t r:=by unfold txt;rfl
def hsh(t r:Int):Int:=fnv (Z8j t r)
theorem Z93(t r:Int):0≤hsh t r∧hsh t r<4294967296:=Zjr _
theorem Zn2(t r:Int)(w:World) :
  Calls prog 113 #[.agg #[.int .i64 t,.int .i64 r]] w fun e w'=>e=.returned (.int .u32 (hsh t r))∧Nw w w':=by
 have HT:=hD0 (Zq3 t r)
 have HS:=hD0 (fun w=>Ztr (txt t r) w (Zeg t r))
 have ht:=Z8k t r
 generalize txt t r=T at HT HS ht
 have Ht:=hD0 ht
 clear ht
 go_enter func113,ntmps113
 go_wp2_with fail
 refine(HT.out _).mono ?_
 rintro e w1 ⟨rfl,hg⟩
 go_wp2_with fail
 refine(HS.out _).mono ?_
 rintro e w2 ⟨rfl,hg2⟩
 go_wp2
 go_ret
 exact⟨by rw[Ht.out];rfl,(((Nw.refl _).alloc _).trans hg).trans hg2⟩
theorem Zg8(s:ByteArray)(w:World)(hs:s.size≤100000) :
  Calls prog 164 #[.string s] w fun e w'=>e=.returned (.int .u32 (fnv s.data.toList))∧Nw w w':=by
 have hl:s.data.toList.length=s.size:=by simp
 have HL:=hD0 hl
 clear hl
 have hs':(s.size:Int)≤100000:=by omega
 go_enter func164,ntmps164
 go_wp2
 go_loop [3,4] (fun h i=>∃k:Nat,k≤s.size∧i=.int .i64 k∧h=.int .u32 (fnv (s.data.toList.take k))) (fun _ i=>s.size-(intOf i).toNat)
 case atStart=>exact⟨0,Nat.zero_le _,rfl,rfl⟩
 case round =>
  obtain⟨k,hk,rfl,rfl⟩:=hrel
  by_cases h:k<s.size
  ·have e:fnv (s.data.toList.take (k+1))=Zak (fnv (s.data.toList.take k)) s[k]:=by
    rw[Z9w _ k (by rw[HL.out];exact h),Z7k]
    congr 1
    simp[List.getD,h]
    rfl
   have E:=hD0 e
   generalize fnv (s.data.toList.take k)=H at *
   clear e
   go_wp2
   go_round
   case rel=>exact⟨k+1,by omega,by go_num,by rw[E.out,Zak,Zcj]⟩
   case measure=>simp[intOf];omega
  ·have hk':k=s.size:=by omega
   have ht:s.data.toList.take k=s.data.toList:=by rw[hk',←HL.out];exact List.take_length
   rw[ht]
   clear ht
   go_wp2
   go_ret
   exact⟨rfl,Nw.refl _⟩
theorem Zdk(t r:Int)(w:World) :
  Calls prog 114 #[.agg #[.int .i64 t,.int .i64 r]] w fun e w'=>e=.returned (.int .u32 (hsh t r))∧Nw w w':=by
 have HT:=hD0 (Zdq t r)
 have HS:=hD0 (fun w=>Zg8 (txt t r) w (Zeg t r))
 have ht:=Z8k t r
 generalize txt t r=T at HT HS ht
 have Ht:=hD0 ht
 clear ht
 go_enter func114,ntmps114
 go_wp2_with fail
 refine(HT.out _).mono ?_
 rintro e w1 ⟨rfl,hg⟩
 go_wp2_with fail
 refine(HS.out _).mono ?_
 rintro e w2 ⟨rfl,hg2⟩
 go_wp2
 go_ret
 exact⟨by rw[Ht.out];rfl,(((Nw.refl _).alloc _).trans hg).trans hg2⟩
def ofS(t r n:Int):Int:=if (1≤n∧n≤16)∧Uk t r≠-1 then hsh t r%n else -1
theorem Zb5(t r n:Int)(h0:1≤n)(h1:n≤16)(h:Uk t r≠-1):ofS t r n=hsh t r%n:=if_pos ⟨⟨h0,h1⟩,h⟩
theorem Zb4(t r n:Int)(h:Uk t r = -1):ofS t r n = -1:=if_neg (fun e=>e.2 h)
theorem Zi2(t r n:Int)(h:¬(1≤n∧n≤16)):ofS t r n = -1:=if_neg (fun e=>h e.1)
theorem Z1k(t r n:Int):ofS t r n = -1∨(0≤ofS t r n∧ofS t r n<n):=by
 by_cases h:(1≤n∧n≤16)∧Uk t r≠-1
 ·rw[Zb5 t r n h.1.1 h.1.2 h.2]
  exact .inr ⟨Int.emod_nonneg _ (by omega),Int.emod_lt_of_pos _ (by omega)⟩
 ·exact .inl (if_neg h)
theorem Z4k(n:Int)(w:World)(h0:1≤n)(h1:n≤16) :
  Calls prog 111 #[.int .i64 n] w fun e w'=>e=.returned (.bool true)∧w=w':=by
 go_enter func111,ntmps111
 go_wp2
 go_ret
 exact⟨rfl,rfl⟩
theorem Zdg(n:Int)(w:World)(h:¬(1≤n∧n≤16)) :
  Calls prog 111 #[.int .i64 n] w fun e w'=>e=.returned (.bool false)∧w=w':=by
 by_cases h0:1≤n
 ·have h1:16<n:=by omega
  have hd:decide (n≤16)=false:=by simp;omega
  clear h
  go_enter func111,ntmps111
  go_wp2
  go_ret
  exact⟨rfl,rfl⟩
 ·have hd:decide (1≤n)=false:=by simp;omega
  clear h
  go_enter func111,ntmps111
  go_wp2
  go_ret
  exact⟨rfl,rfl⟩
theorem Zx9(t r n:Int)(w:World)(h0:1≤n)(h1:n≤16)(h:Uk t r≠-1) :
  Calls prog 68 #[.agg #[.int .i64 t,.int .i64 r],.int .i64 n] w fun e w'=>e=.returned (.int .i64 (hsh t r%n))∧Nw w w':=by
 have HC:=hD0 (fun w=>Zlx t r w h)
 have HH:=hD0 (fun w=>Zn2 t r w)
 obtain⟨r0,r1⟩:=Z93 t r
 generalize hsh t r=H at *
 have m0:0≤H%n:=Int.emod_nonneg _ (by omega)
 have m1:H%n<16:=Int.lt_of_lt_of_le (Int.emod_lt_of_pos _ (by omega)) h1
 have m2:=hD0 (show H.tmod n=H%n from Int.tmod_eq_emod_of_nonneg r0)
 have m3:=hD0 (show n%4294967296=n by omega)
 clear h
 go_enter func68,ntmps68
 go_wp2_with fail
 refine(Z4k _ _ h0 h1).mono ?_
 rintro e w1 ⟨rfl,rfl⟩
 go_wp2_with fail
 refine(HC.out _).mono ?_
 rintro e w2 ⟨rfl,hg⟩
 obtain⟨hc,hf⟩:=hg.rules
 go_wp2_with fail
 refine(HH.out _).mono ?_
 rintro e w3 ⟨rfl,hg3⟩
 clear hc hf
 go_wp2
 go_ret
 exact⟨rfl,(((Nw.refl _).alloc _).trans hg).trans hg3⟩
theorem Zx6(t r n:Int)(w:World)(h0:1≤n)(h1:n≤16)(h:Uk t r = -1) :
  Calls prog 68 #[.agg #[.int .i64 t,.int .i64 r],.int .i64 n] w fun e w'=>e=.returned (.int .i64 (-1))∧Nw w w':=by
 have HC:=hD0 (fun w=>Zlw t r w h)
 clear h
 go_enter func68,ntmps68
 go_wp2_with fail
 refine(Z4k _ _ h0 h1).mono ?_
 rintro e w1 ⟨rfl,rfl⟩
 go_wp2_with fail
 refine(HC.out _).mono ?_
 rintro e w2 ⟨rfl,hg⟩
 go_wp2
 go_ret
 exact⟨rfl,((Nw.refl _).alloc _).trans hg⟩
theorem Zx8(t r n:Int)(w:World)(h:¬(1≤n∧n≤16)) :
  Calls prog 68 #[.agg #[.int .i64 t,.int .i64 r],.int .i64 n] w fun e w'=>e=.returned (.int .i64 (-1))∧Nw w w':=by
 have H:=hD0 h
 clear h
 go_enter func68,ntmps68
 go_wp2_with fail
 refine(Zdg _ _ H.out).mono ?_
 rintro e w1 ⟨rfl,rfl⟩
 go_wp2
 go_ret
 exact⟨rfl,(Nw.refl _).alloc _⟩
theorem Zoo(t r n:Int)(w:World) :
  Calls prog 68 #[.agg #[.int .i64 t,.int .i64 r],.int .i64 n] w fun e w'=>e=.returned (.int .i64 (ofS t r n))∧Nw w w':=by
 by_cases hn:1≤n∧n≤16
 ·by_cases h:Uk t r = -1
  ·rw[Zb4 t r n h];exact Zx6 t r n w hn.1 hn.2 h
  ·rw[Zb5 t r n hn.1 hn.2 h];exact Zx9 t r n w hn.1 hn.2 h
 ·rw[Zi2 t r n hn];exact Zx8 t r n w hn
theorem Zke(t r n:Int)(w:World)(h0:1≤n)(h1:n≤16)(h:Uk t r≠-1) :
  Calls prog 69 #[.agg #[.int .i64 t,.int .i64 r],.int .i64 n] w fun e w'=>e=.returned (.int .i64 (hsh t r%n))∧Nw w w':=by
 have HC:=hD0 (fun w=>Z60 t r w h)
 have HH:=hD0 (fun w=>Zdk t r w)
 obtain⟨r0,r1⟩:=Z93 t r
 generalize hsh t r=H at *
 have m0:0≤H%n:=Int.emod_nonneg _ (by omega)
 have m1:H%n<16:=Int.lt_of_lt_of_le (Int.emod_lt_of_pos _ (by omega)) h1
 clear h
 go_enter func69,ntmps69
 go_wp2_with fail
 refine(HC.out _).mono ?_
 rintro e w2 ⟨rfl,hg⟩
 obtain⟨hc,hf⟩:=hg.rules
 go_wp2_with fail
 refine(HH.out _).mono ?_
 rintro e w3 ⟨rfl,hg3⟩
 clear hc hf
 go_wp2
 go_ret
 exact⟨rfl,(((Nw.refl _).alloc _).trans hg).trans hg3⟩
theorem Zkc(t r n:Int)(w:World)(h:Uk t r = -1) :
  Calls prog 69 #[.agg #[.int .i64 t,.int .i64 r],.int .i64 n] w fun e w'=>e=.returned (.int .i64 (-1))∧Nw w w':=by
 have HC:=hD0 (fun w=>Zdj t r w h)
 clear h
 go_enter func69,ntmps69
 go_wp2_with fail
 refine(HC.out _).mono ?_
 rintro e w2 ⟨rfl,hg⟩
 go_wp2
 go_ret
 exact⟨rfl,((Nw.refl _).alloc _).trans hg⟩
theorem Zkd(t r n:Int)(w:World)(hn:¬(1≤n∧n≤16))(h:Uk t r≠-1) :
  Calls prog 69 #[.agg #[.int .i64 t,.int .i64 r],.int .i64 n] w fun e w'=>e=.returned (.int .i64 (-1))∧Nw w w':=by
 have HC:=hD0 (fun w=>Z60 t r w h)
 clear h
 by_cases h0:n<1
 ·clear hn
  go_enter func69,ntmps69
  go_wp2_with fail
  refine(HC.out _).mono ?_
  rintro e w2 ⟨rfl,hg⟩
  go_wp2
  go_ret
  exact⟨rfl,((Nw.refl _).alloc _).trans hg⟩
 ·have h2:16<n:=by omega
  have hd:decide (n<1)=false:=by simp;omega
  have hd2:decide (16<n)=true:=by simp;omega
  clear hn
  go_enter func69,ntmps69
  go_wp2_with fail
  refine(HC.out _).mono ?_
  rintro e w2 ⟨rfl,hg⟩
  go_wp2
  go_ret
  exact⟨rfl,((Nw.refl _).alloc _).trans hg⟩
theorem Z9o(t r n:Int)(w:World) :
  Calls prog 69 #[.agg #[.int .i64 t,.int .i64 r],.int .i64 n] w fun e w'=>e=.returned (.int .i64 (ofS t r n))∧Nw w w':=by
 by_cases h:Uk t r = -1
 ·rw[Zb4 t r n h];exact Zkc t r n w h
 ·by_cases hn:1≤n∧n≤16
  ·rw[Zb5 t r n hn.1 hn.2 h];exact Zke t r n w hn.1 hn.2 h
  ·rw[Zi2 t r n hn];exact Zkd t r n w hn h
end
theorem Zdc{hs:List Hq}{x y:Hq}(h:y∈Yh hs x):y=x∨y∈hs:=by
 induction hs with
 | nil=>exact .inl (by simpa [Yh] using h)
 | cons a l ih =>
  unfold Yh at h
  split at h
  ·rcases List.mem_cons.1 h with q | q
   ·exact .inr (by rw[q];simp)
   ·exact(ih q).imp id (List.mem_cons_of_mem _)
  ·split at h
   ·rcases List.mem_cons.1 h with q | q
    ·exact .inl q
    ·exact .inr (List.mem_cons_of_mem _ q)
   ·rcases List.mem_cons.1 h with q | q
    ·exact .inl q
    ·exact .inr q
def Z0h(hs hs':List Hq):Prop:=∀y∈hs',∃x∈hs,Z9 y=Z9 x
theorem Z0h.refl(hs:List Hq):Z0h hs hs:=fun y hy=>⟨y,hy,rfl⟩
theorem Zft{hs:List Hq}{a x:Hq}(ha:a∈hs)(e:Z9 x=Z9 a):Z0h hs (Yh hs x):=fun y hy=>by
 rcases Zdc hy with rfl | q
 ·exact⟨a,ha,e⟩
 ·exact⟨y,q,rfl⟩
theorem Zon{hs:List Hq}{a:Hq}(ha:a∈hs){W:Int}{q:List Rq}:Z0h hs (Yy hs ⟨a.t,a.r,W,q⟩):=fun y hy=>by
 unfold Yy at hy
 split at hy
 ·exact⟨y,(List.mem_filter.1 hy).1,rfl⟩
 ·exact Zft (x:=scH ⟨a.t,a.r,W,q⟩) ha rfl y hy
theorem Zz9(hs:List Hq)(id m:Int):Z0h hs (Z22 hs id m):=by
 unfold Z22
 split
 ·rename_i he
  unfold Z0u at he
  cases e:Zt hs id with
  | none=>exact Z0h.refl hs
  | some h =>
   rw[e] at he
   by_cases hb:Z07 m
   ·rw[if_pos hb] at he;cases he
   ·rw[if_neg hb] at he
    obtain⟨h1,h2⟩:=Zqi h id m he
    exact Zft (Z0c e).1 (Prod.ext h1 h2)
 ·exact Z0h.refl hs
theorem Zz8(hs:List Hq)(L:List Bool)(id:Int):Z0h hs (Vy hs L id).1:=by
 unfold Vy
 cases e:Zt hs id with
 | none=>exact Z0h.refl hs
 | some h=>exact Zon (Z0c e).1
theorem Zz6(hs:List Hq)(L:List Bool)(id:Int):Z0h hs (Vb hs L id).1:=by
 unfold Vb
 cases e:Zt hs id with
 | none=>exact Z0h.refl hs
 | some h =>
  simp only
  split
  ·exact Zon (Z0c e).1
  ·exact Z0h.refl hs
theorem Zz7(hs:List Hq)(id txn:Int):Z0h hs (Z1t hs id txn):=by
 unfold Z1t
 split
 ·rename_i he
  unfold Z1s at he
  cases e:Zt hs id with
  | none=>exact Z0h.refl hs
  | some h =>
   rw[e] at he
   obtain⟨h1,h2⟩:=Znc h id txn he
   exact Zft (Z0c e).1 (Prod.ext h1 h2)
 ·exact Z0h.refl hs
theorem Zx4(n:Nat)(hs:List Hq)(L:List Bool)(t r txn m:Int):∀y∈(V9 n hs L t r txn m).1,Z9 y=(t,r)∨∃x∈hs,Z9 y=Z9 x:=fun y hy=>by
 unfold V9 at hy
 split at hy
 ·rcases Zdc hy with rfl | q
  ·exact .inl rfl
  ·exact .inr ⟨y,q,rfl⟩
 ·exact .inr ⟨y,hy,rfl⟩
theorem Zso(hs:List Hq)(L:List Bool)(id:Int):(Vy hs L id).2.length=L.length:=by
 unfold Vy
 cases e:Zt hs id with
 | none=>rfl
 | some h=>exact Zhl L id
theorem Zvk(hs:List Hq)(L:List Bool)(id:Int):(Vb hs L id).2.length=L.length:=by
 unfold Vb
 cases e:Zt hs id with
 | none=>rfl
 | some h =>
  simp only
  split
  ·show(if (rqB h id).md=0 then gvL L id else L).length=_
   split
   ·exact Zhl L id
   ·rfl
  ·rfl
theorem Zlk(n:Nat)(hs:List Hq)(L:List Bool)(t r txn m:Int):(V9 n hs L t r txn m).2.length=L.length:=by
 unfold V9
 split
 ·exact Us L
 ·rfl
structure Y1(S n N k:Nat)(hss:List (List Hq))(L:List Bool):Prop where
 inv:Z0i n k hss L
 sl:hss.length=S
 ll:L.length=N
 st:∀i (hi:i<hss.length),∀x∈hss[i],ofS x.t x.r S=i
theorem Zec(S n N:Nat):Y1 S n N 0 (List.replicate S []) (List.replicate N false):=by
 refine⟨Zky n S N,by simp,by simp,fun i hi x hx=>?_⟩
 rw[List.getElem_replicate] at hx
 cases hx
section
variable {S n N k:Nat} {hss:List (List Hq)} {L L':List Bool}
theorem Y1.more{k':Nat}(h:Y1 S n N k hss L)(hk:k≤k'):Y1 S n N k' hss L:=⟨h.inv.more hk,h.sl,h.ll,h.st⟩
theorem Y1.put(h:Y1 S n N k hss L){i:Nat}(hi:i<hss.length){hs:List Hq}(b:Zs n (k+1) hs (Z68 hss i) L')(hl:L'.length=L.length)(hn:∀y∈hs,ofS y.t y.r S=i∨∃x∈hss[i],Z9 y=Z9 x):Y1 S n N (k+1) (hss.set i hs) L':=by
 refine⟨h.inv.put hi b,by rw[List.length_set];exact h.sl,hl.trans h.ll,fun j hj x hx=>?_⟩
 rw[List.length_set] at hj
 by_cases e:i=j
 ·subst e
  rw[List.getElem_set_self] at hx
  rcases hn x hx with q | ⟨y,hy,q⟩
  ·exact q
  ·have h1:=h.st i hi y hy
   have h2:x.t=y.t:=congrArg Prod.fst q
   have h3:x.r=y.r:=congrArg Prod.snd q
   rw[h2,h3]
   exact h1
 ·rw[List.getElem_set_ne e] at hx
  exact h.st j hj x hx
theorem Y1.srt(h:Y1 S n N k hss L):∀l∈hss,Y9 l:=fun l hl=>(h.inv.part l hl).srt
theorem Y1.apart(h:Y1 S n N k hss L):Vv hss.flatten :=
 Zlh h.srt (fun nm=>(ofS nm.1 nm.2 S).toNat) fun i hi x hx=>by
  show(ofS x.t x.r S).toNat=i
  rw[h.st i hi x hx]
  rfl
end
def V3(hss:List (List Hq))(id:Int):Nat:=(atT hss id).getD 0
def V6(hss:List (List Hq))(i:Nat):List Hq:=hss.getD i []
def Z0v(n:Nat)(hss:List (List Hq))(L:List Bool)(t r txn m:Int):Int × Bool × Int:=if ofS t r hss.length = -1 then(0,false,2)else Uu n (V6 hss (ofS t r hss.length).toNat) L t r txn m
def U0(n:Nat)(hss:List (List Hq))(L:List Bool)(t r txn m:Int):List (List Hq) × List Bool:=if ofS t r hss.length = -1 then(hss,L) else(hss.set (ofS t r hss.length).toNat (V9 n (V6 hss (ofS t r hss.length).toNat) L t r txn m).1,(V9 n (V6 hss (ofS t r hss.length).toNat) L t r txn m).2)
def Z3t(hss:List (List Hq))(id m:Int):Int:=Z0u (V6 hss (V3 hss id)) id m
def Zbp(hss:List (List Hq))(id m:Int):Bool:=Z3c (V6 hss (V3 hss id)) id m
def Z5o(hss:List (List Hq))(id m:Int):List (List Hq):=hss.set (V3 hss id) (Z22 (V6 hss (V3 hss id)) id m)
def Z4e(hss:List (List Hq))(id:Int):List Int × Int:=Z1w (V6 hss (V3 hss id)) id
def Z2c(hss:List (List Hq))(L:List Bool)(id:Int):List (List Hq) × List Bool:=(hss.set (V3 hss id) (Vy (V6 hss (V3 hss id)) L id).1,(Vy (V6 hss (V3 hss id)) L id).2)
def Z3w(hss:List (List Hq))(id:Int):List Int × Int:=Z1a (V6 hss (V3 hss id)) id
def Z2a(hss:List (List Hq))(L:List Bool)(id:Int):List (List Hq) × List Bool:=(hss.set (V3 hss id) (Vb (V6 hss (V3 hss id)) L id).1,(Vb (V6 hss (V3 hss id)) L id).2)
def Zaq(hss:List (List Hq))(id txn:Int):Int:=Z1s (V6 hss (V3 hss id)) id txn
def Z5b(hss:List (List Hq))(id txn:Int):List (List Hq):=hss.set (V3 hss id) (Z1t (V6 hss (V3 hss id)) id txn)
theorem Ve{hss:List (List Hq)}{i:Nat}(hi:i<hss.length):V6 hss i=hss[i]:=by unfold V6;rw[List.getD_eq_getElem?_getD,List.getElem?_eq_getElem hi];rfl
theorem Z24{hss:List (List Hq)}(h:0<hss.length)(id:Int):V3 hss id<hss.length:=by
 unfold V3
 cases e:atT hss id with
 | none=>exact h
 | some i=>exact(Z3z e).1
section
variable {S n N k:Nat} {hss:List (List Hq)} {L:List Bool}
theorem Y1.ask(h:Y1 S n N k hss L)(hS:S≤16)(hk:k≤1000)(t r txn m:Int):Y1 S n N (k+1) (U0 n hss L t r txn m).1 (U0 n hss L t r txn m).2:=by
 unfold U0
 by_cases e:ofS t r hss.length = -1
 ·rw[if_pos e]
  exact h.more (Nat.le_succ k)
 ·rw[if_neg e]
  have hr:=Z1k t r hss.length
  have hi:(ofS t r hss.length).toNat<hss.length:=by omega
  have b:=h.inv.get hi
  rw[Ve hi]
  refine h.put hi (Z76 b hk t r txn m) (Zlk _ _ _ _ _ _ _) fun y hy=>?_
  rcases Zx4 _ _ _ _ _ _ _ y hy with q | q
  ·refine .inl ?_
   rw[show y.t=t from congrArg Prod.fst q,show y.r=r from congrArg Prod.snd q,←h.sl]
   omega
  ·exact .inr q
theorem Y1.up(h:Y1 S n N k hss L)(hS:0<S)(hk:k≤1000)(id m:Int):Y1 S n N (k+1) (Z5o hss id m) L:=by
 have hi:=Z24 (by rw[h.sl];exact hS) id
 unfold Z5o
 rw[Ve hi]
 exact h.put hi (Zgz (h.inv.get hi) hk id m) rfl fun y hy=>.inr (Zz9 _ _ _ y hy)
theorem Y1.lv(h:Y1 S n N k hss L)(hS:0<S)(id:Int):Y1 S n N (k+1) (Z2c hss L id).1 (Z2c hss L id).2:=by
 have hi:=Z24 (by rw[h.sl];exact hS) id
 unfold Z2c
 rw[Ve hi]
 exact h.put hi (Za6 (h.inv.get hi) id) (Zso _ _ _) fun y hy=>.inr (Zz8 _ _ _ y hy)
theorem Y1.ab(h:Y1 S n N k hss L)(hS:0<S)(id:Int):Y1 S n N (k+1) (Z2a hss L id).1 (Z2a hss L id).2:=by
 have hi:=Z24 (by rw[h.sl];exact hS) id
 unfold Z2a
 rw[Ve hi]
 exact h.put hi (Za5 (h.inv.get hi) id) (Zvk _ _ _) fun y hy=>.inr (Zz6 _ _ _ y hy)
theorem Y1.hn(h:Y1 S n N k hss L)(hS:0<S)(id txn:Int):Y1 S n N (k+1) (Z5b hss id txn) L:=by
 have hi:=Z24 (by rw[h.sl];exact hS) id
 unfold Z5b
 rw[Ve hi]
 exact h.put hi (Zgy (h.inv.get hi) id txn) rfl fun y hy=>.inr (Zz7 _ _ _ y hy)
end
theorem Z7o{most most' k k':Nat}{hs hs':List Hq}{X:List Int}{L:List Bool}(b:Zs most k hs X L)(b':Zs most' k' hs' X L):(Za hs').Perm (Za hs):=(List.perm_append_right_iff X).1 (b'.ids.trans b.ids.symm)
theorem Znp{most most' k k':Nat}{hs hs':List Hq}{X:List Int}{L:List Bool}(b:Zs most k hs X L)(h:Zo L<L.length)(b':Zs most' k' hs' X (tkL L)):(Za hs').Perm ((Zo L:Int)::Za hs):=by
 refine(List.perm_append_right_iff X).1 ((b'.ids.trans (Zd8 h)).trans ?_)
 rw[List.cons_append]
 exact(b.ids.symm).cons _
theorem Znm{most most' k k':Nat}{hs hs':List Hq}{X:List Int}{L:List Bool}(b:Zs most k hs X L){i:Nat}(hi:i<L.length)(e:L[i]=true)(b':Zs most' k' hs' X (gvL L (i:Int))):(Za hs).Perm ((i:Int)::Za hs'):=by
 have hg:gvL L (i:Int)=L.set i false:=Z48 L i (by rw[Ye hi];exact e)
 rw[hg] at b'
 refine(List.perm_append_right_iff X).1 (b.ids.trans ?_)
 rw[List.cons_append]
 exact(Zd6 hi e).symm.trans ((b'.ids.symm).cons _)
theorem Z7d(R:Rq)(w:World):Calls prog 185 #[rqV R] w fun e w'=>e=.returned (.bool (R.md != 0))∧Nw w w':=by
 obtain⟨a,b,m,n,s⟩:=R
 unfold rqV
 go_enter func185,ntmps185
 go_wp2
 go_ret
 exact⟨rfl,(Nw.refl _).alloc _⟩
theorem Z7e(R:Rq)(w:World):Calls prog 179 #[rqV R] w fun e w'=>e=.returned (.bool (decide (0<R.sn)))∧Nw w w':=by
 obtain⟨a,b,m,n,s⟩:=R
 unfold rqV
 go_enter func179,ntmps179
 go_wp2
 go_ret
 exact⟨rfl,(Nw.refl _).alloc _⟩
theorem Zvz(m:Int)(w:World):Calls prog 208 #[.int .i64 m] w fun e w'=>e=.returned (.bool (Zr m))∧Nw w w':=by
 by_cases h:0≤m∧m<7
 ·refine(Z2x m w h.1 h.2).mono ?_
  rintro e w' ⟨rfl,rfl⟩
  exact⟨by rw[(Va m).2 h],Nw.refl _⟩
 ·refine(Zd2 m w (by omega)).mono ?_
  rintro e w' ⟨rfl,rfl⟩
  have:Zr m=false:=by
   cases e:Zr m with
   | false=>rfl
   | true=>exact absurd ((Va m).1 e) h
  exact⟨by rw[this],Nw.refl _⟩
theorem Z8w(m:Int)(w:World):Calls prog 170 #[.int .i64 m] w fun e w'=>e=.returned (.bool ((m != 0)&&Zr m))∧Nw w w':=by
 cases h:(m != 0) with
 | false =>
  go_enter func170,ntmps170
  go_wp2
  go_ret
  exact⟨rfl,Nw.refl _⟩
 | true =>
  have HK:=hD0 (Zvz m)
  go_enter func170,ntmps170
  go_wp2_with (go_at_call 208;refine(HK.out _).mono ?_;rintro e w' ⟨rfl,hN⟩)
  go_ret
  exact⟨rfl,hN⟩
def Yb(w:World)(f:Value)(p:Rq→Bool):Prop:=∃(g:Nat) (lb:Array Value),f=.func (.func g) #[] lb∧(∀args w,(callFunc g args).run prog w=.ok (.enter g args) w)∧∀(R:Rq) (w1:World),Nw w w1→Calls prog g (#[rqV R]++lb) w1 fun e w'=>e=.returned (.bool (p R))∧Nw w1 w'
theorem Yb.nw{w w':World}{f:Value}{p:Rq→Bool}(h:Yb w f p)(g:Nw w w'):Yb w' f p:=by
 obtain⟨k,lb,e,eg,hc⟩:=h
 exact⟨k,lb,e,eg,fun R w1 h1=>hc R w1 (g.trans h1)⟩
theorem Zmc(i:Int)(R:Rq)(p:Nat)(w:World)(h:w.cell? ⟨p,0,none⟩=some (.int .i64 i)):Calls prog 207 #[rqV R,.pointer (some ⟨p,0,none⟩)] w fun e w'=>e=.returned (.bool (R.id==i))∧Nw w w':=by
 obtain⟨a,b,m,n,s⟩:=R
 unfold rqV
 have hp:=World.block_lt_of_cell? _ _ h
 go_enter func207,ntmps207
 go_wp2
 go_ret
 exact⟨rfl,(Nw.refl _).alloc _⟩
theorem Zrc(i:Int)(R:Rq)(p:Nat)(w:World)(h:w.cell? ⟨p,0,none⟩=some (.int .i64 i)):Calls prog 209 #[rqV R,.pointer (some ⟨p,0,none⟩)] w fun e w'=>e=.returned (.bool (R.txn==i))∧Nw w w':=by
 obtain⟨a,b,m,n,s⟩:=R
 unfold rqV
 have hp:=World.block_lt_of_cell? _ _ h
 go_enter func209,ntmps209
 go_wp2
 go_ret
 exact⟨rfl,(Nw.refl _).alloc _⟩
theorem Z2w(i:Int)(w:World):Calls prog 167 #[.int .i64 i] w fun e w'=>∃p,e=.returned (.func (.func 207) #[] #[.pointer (some ⟨p,0,none⟩)])∧Nw w w'∧w'.cell? ⟨p,0,none⟩=some (.int .i64 i):=by
 go_enter func167,ntmps167
 go_wp2
 go_ret
 exact⟨_,rfl,(Nw.refl _).alloc _,Z0 (Z1 w _)⟩
theorem Zm9(i:Int)(w:World):Calls prog 171 #[.int .i64 i] w fun e w'=>∃p,e=.returned (.func (.func 209) #[] #[.pointer (some ⟨p,0,none⟩)])∧Nw w w'∧w'.cell? ⟨p,0,none⟩=some (.int .i64 i):=by
 go_enter func171,ntmps171
 go_wp2
 go_ret
 exact⟨_,rfl,(Nw.refl _).alloc _,Z0 (Z1 w _)⟩
theorem Yb.withID{w:World}{i:Int}{p:Nat}(h:w.cell? ⟨p,0,none⟩=some (.int .i64 i)):Yb w (.func (.func 207) #[] #[.pointer (some ⟨p,0,none⟩)]) (fun R=>R.id==i) :=
 ⟨_,_,rfl,enters_of func207 (by kernel_rfl) rfl,fun R w1 g=>Zmc i R p w1 (g.kp h)⟩
theorem Yb.ofTxn{w:World}{i:Int}{p:Nat}(h:w.cell? ⟨p,0,none⟩=some (.int .i64 i)):Yb w (.func (.func 209) #[] #[.pointer (some ⟨p,0,none⟩)]) (fun R=>R.txn==i) :=
 ⟨_,_,rfl,enters_of func209 (by kernel_rfl) rfl,fun R w1 g=>Zrc i R p w1 (g.kp h)⟩
def hoI(a b:Rq):Int:=if (a.md != 0)=(b.md != 0)then 0 else if (a.md != 0)=true then -1 else 1
def cmI(a b:Int):Int:=if a<b then -1 else if b<a then 1 else 0
def toI(a b:Rq):Int:=if hoI a b≠0 then hoI a b else cmI a.sn b.sn
theorem nwS{w:World}:∀a b,Nw w a→Nw a b→Nw w b:=fun _ _ h g=>h.trans g
theorem Nw.drewQ{w a:World}(h:Nw w a):Nw w a.drew:=h.drewN 1
theorem Zf0(A B:Rq)(w:World):Calls prog 235 #[rqV A,rqV B] w fun e w'=>e=.returned (.int .i64 (hoI A B))∧Nw w w':=by
 have HA:=hD0 (Z7d A)
 have HB:=hD0 (Z7d B)
 obtain⟨V,hV⟩:∃V,hoI A B=V:=⟨_,rfl⟩
 have hV2:=hV
 rw[hV]
 unfold hoI at hV2
 generalize (A.md != 0)=x at *
 generalize (B.md != 0)=y at *
 clear hV
 have HV:=hD0 hV2
 clear hV2
 obtain⟨a,b,m,n,s⟩:=A
 obtain⟨a',b',m',n',s'⟩:=B
 unfold rqV at *
 have HX:=hD0 (Zx w (.cells #[.int .i64 a,.int .i64 b,.int .i64 m,.int .i64 n,.int .i64 s] 50) (.cells #[.int .i64 a',.int .i64 b',.int .i64 m',.int .i64 n',.int .i64 s'] 50))
 go_enter func235,ntmps235
 go_wp2_with fail
 generalize (w.alloc (.cells #[.int .i64 a,.int .i64 b,.int .i64 m,.int .i64 n,.int .i64 s] 50)).alloc (.cells #[.int .i64 a',.int .i64 b',.int .i64 m',.int .i64 n',.int .i64 s'] 50)=w1 at *
 obtain⟨p,hp⟩:∃p,w.heap.size=p:=⟨_,rfl⟩
 rw[hp] at HX ⊢
 have hl1:=hlt HX.out.1
 have hl2:=hlt HX.out.2.1
 have c0:=Z0 (j:=0) HX.out.1
 have c1:=Z0 (j:=1) HX.out.1
 have c2:=Z0 (j:=2) HX.out.1
 have c3:=Z0 (j:=3) HX.out.1
 have c4:=Z0 (j:=4) HX.out.1
 have d0:=Z0 (j:=0) HX.out.2.1
 have d1:=Z0 (j:=1) HX.out.2.1
 have d2:=Z0 (j:=2) HX.out.2.1
 have d3:=Z0 (j:=3) HX.out.2.1
 have d4:=Z0 (j:=4) HX.out.2.1
 have HN:=hD0 HX.out.2.2.1
 clear HX hp hl1 hl2
 refine Zf (Nw w1) (by kernel_rfl) (by kernel_rfl) (Nw.refl _).drewQ ?_
 have e0:∀d:Wd (Nw w1),d.w.cell? _=_:=fun d=>d.h.kp c0
 have e1:∀d:Wd (Nw w1),d.w.cell? _=_:=fun d=>d.h.kp c1
 have e2:∀d:Wd (Nw w1),d.w.cell? _=_:=fun d=>d.h.kp c2
 have e3:∀d:Wd (Nw w1),d.w.cell? _=_:=fun d=>d.h.kp c3
 have e4:∀d:Wd (Nw w1),d.w.cell? _=_:=fun d=>d.h.kp c4
 have f0:∀d:Wd (Nw w1),d.w.cell? _=_:=fun d=>d.h.kp d0
 have f1:∀d:Wd (Nw w1),d.w.cell? _=_:=fun d=>d.h.kp d1
 have f2:∀d:Wd (Nw w1),d.w.cell? _=_:=fun d=>d.h.kp d2
 have f3:∀d:Wd (Nw w1),d.w.cell? _=_:=fun d=>d.h.kp d3
 have f4:∀d:Wd (Nw w1),d.w.cell? _=_:=fun d=>d.h.kp d4
 have hne:Nonempty (Wd (Nw w1)):=⟨⟨_,Nw.refl w1⟩⟩
 repeat (first | go_big_quiet_step ((first | (with_reducible exact Zd nwS (HA.out _)) | (with_reducible exact Zd nwS (HB.out _)))) | quiet_step ((first | (with_reducible exact Zd nwS (HA.out _)) | (with_reducible exact Zd nwS (HB.out _)))))
 refine wpQuiet_nil ?_
 intro d
 have h6:=d.h
 clear e0 e1 e2 e3 e4 f0 f1 f2 f3 f4 hne
 revert h6
 generalize d.w=w6
 intro h6
 replace c0:=h6.kp c0
 replace c1:=h6.kp c1
 replace c2:=h6.kp c2
 replace c3:=h6.kp c3
 replace c4:=h6.kp c4
 replace HN:=hD0 (HN.out.trans h6)
 clear h6 d0 d1 d2 d3 d4
 cases x<;>cases y
 ·have e:V=0:=by simpa using HV.out.symm
  subst e
  go_wp2
  go_ret
  exact⟨rfl,HN.out⟩
 ·have e:V=1:=by simpa using HV.out.symm
  subst e
  go_wp2_with (go_at_call 185;refine(HA.out _).mono ?_;rintro e w' ⟨rfl,g⟩)
  go_ret
  exact⟨rfl,HN.out.trans g⟩
 ·have e:V = -1:=by simpa using HV.out.symm
  subst e
  go_wp2_with (go_at_call 185;refine(HA.out _).mono ?_;rintro e w' ⟨rfl,g⟩)
  go_ret
  exact⟨rfl,HN.out.trans g⟩
 ·have e:V=0:=by simpa using HV.out.symm
  subst e
  go_wp2
  go_ret
  exact⟨rfl,HN.out⟩
theorem Zzo(a:Int)(w:World):Calls prog 159 #[.int .i64 a] w fun e w'=>e=.returned (.bool false)∧w=w':=by
 go_enter func159,ntmps159
 go_wp2
 go_ret
 exact⟨rfl,rfl⟩
theorem Zm7(a b:Int)(w:World):Calls prog 108 #[.int .i64 a,.int .i64 b] w fun e w'=>e=.returned (.int .i64 (cmI a b))∧Nw w w':=by
 have HN:=hD0 Zzo
 unfold cmI
 by_cases h1:a<b
 ·rw[if_pos h1]
  go_enter func108,ntmps108
  go_wp2_with (go_at_call 159;refine(HN.out _ _).mono ?_;rintro e w' ⟨rfl,rfl⟩)
  go_ret
  exact⟨rfl,Nw.refl _⟩
 rw[if_neg h1]
 by_cases h2:b<a
 ·rw[if_pos h2]
  go_enter func108,ntmps108
  go_wp2_with (go_at_call 159;refine(HN.out _ _).mono ?_;rintro e w' ⟨rfl,rfl⟩)
  go_ret
  exact⟨rfl,Nw.refl _⟩
 ·rw[if_neg h2]
  go_enter func108,ntmps108
  go_wp2_with (go_at_call 159;refine(HN.out _ _).mono ?_;rintro e w' ⟨rfl,rfl⟩)
  go_ret
  exact⟨rfl,Nw.refl _⟩
theorem dOr(x y:Int)(b:Nat)(w:World)(h0:w.cell? ⟨b,0,none⟩=some (.int .i64 x))(h1:w.cell? ⟨b,1,none⟩=some (.int .i64 y)) :
  Calls prog 107 #[.slice (some ⟨b,0,none⟩) 2 2] w fun e w'=>e=.returned (.int .i64 (if x≠0 then x else y))∧Nw w w':=by
 have hp:=World.block_lt_of_cell? _ _ h0
 by_cases hx:x=0
 ·have dx:(x != 0)=false:=by simpa using hx
  rw[if_neg (by simpa using hx)]
  by_cases hy:y=0
  ·have dy:(y != 0)=false:=by simpa using hy
   subst hx hy
   go_enter func107,ntmps107
   go_wp2
   refine wp_loop_rounds 3 ?_
   repeat (rw[rounds_succ];go_wp2)
   go_ret
   exact⟨rfl,Nw.refl _⟩
  ·have dy:(y != 0)=true:=by simpa using hy
   clear hy
   go_enter func107,ntmps107
   go_wp2
   refine wp_loop_rounds 3 ?_
   repeat (rw[rounds_succ];go_wp2)
   go_ret
   exact⟨rfl,Nw.refl _⟩
 ·have dx:(x != 0)=true:=by simpa using hx
  rw[if_pos (by simpa using hx)]
  clear hx
  go_enter func107,ntmps107
  go_wp2
  refine wp_loop_rounds 3 ?_
  repeat (rw[rounds_succ];go_wp2)
  go_ret
  exact⟨rfl,Nw.refl _⟩
theorem Zh9(A B:Rq)(w:World):Calls prog 228 #[rqV A,rqV B] w fun e w'=>e=.returned (.int .i64 (toI A B))∧Nw w w':=by
 have HH:=hD0 (Zf0 A B)
 have HC:=hD0 (Zm7 A.sn B.sn)
 unfold toI
 generalize hoI A B=x at *
 obtain⟨y,hy⟩:∃y,cmI A.sn B.sn=y:=⟨_,rfl⟩
 rw[hy] at HC ⊢
 clear hy
 obtain⟨V,hV⟩:∃V,(if x≠0 then x else y)=V:=⟨_,rfl⟩
 have HO:=hD0 (dOr x y)
 rw[hV] at HO ⊢
 clear hV
 obtain⟨a,b,m,n,s⟩:=A
 obtain⟨a',b',m',n',s'⟩:=B
 unfold rqV at *
 simp only at HC
 have HX:=hD0 (Zx w (.cells #[.int .i64 a,.int .i64 b,.int .i64 m,.int .i64 n,.int .i64 s] 50) (.cells #[.int .i64 a',.int .i64 b',.int .i64 m',.int .i64 n',.int .i64 s'] 50))
 go_enter func228,ntmps228
 go_wp2_with fail
 generalize (w.alloc (.cells #[.int .i64 a,.int .i64 b,.int .i64 m,.int .i64 n,.int .i64 s] 50)).alloc (.cells #[.int .i64 a',.int .i64 b',.int .i64 m',.int .i64 n',.int .i64 s'] 50)=w1 at *
 obtain⟨p,hp⟩:∃p,w.heap.size=p:=⟨_,rfl⟩
 rw[hp] at HX ⊢
 have c0:=Z0 (j:=0) HX.out.1
 have c1:=Z0 (j:=1) HX.out.1
 have c2:=Z0 (j:=2) HX.out.1
 have c3:=Z0 (j:=3) HX.out.1
 have c4:=Z0 (j:=4) HX.out.1
 have d0:=Z0 (j:=0) HX.out.2.1
 have d1:=Z0 (j:=1) HX.out.2.1
 have d2:=Z0 (j:=2) HX.out.2.1
 have d3:=Z0 (j:=3) HX.out.2.1
 have d4:=Z0 (j:=4) HX.out.2.1
 have HN:=hD0 HX.out.2.2.1
 clear HX hp
 have e0:∀d,Nw w1 d→d.cell? _=_:=fun d h=>h.kp c0
 have e1:∀d,Nw w1 d→d.cell? _=_:=fun d h=>h.kp c1
 have e2:∀d,Nw w1 d→d.cell? _=_:=fun d h=>h.kp c2
 have e3:∀d,Nw w1 d→d.cell? _=_:=fun d h=>h.kp c3
 have e4:∀d,Nw w1 d→d.cell? _=_:=fun d h=>h.kp c4
 have f0:∀d,Nw w1 d→d.cell? _=_:=fun d h=>h.kp d0
 have f1:∀d,Nw w1 d→d.cell? _=_:=fun d h=>h.kp d1
 have f2:∀d,Nw w1 d→d.cell? _=_:=fun d h=>h.kp d2
 have f3:∀d,Nw w1 d→d.cell? _=_:=fun d h=>h.kp d3
 have f4:∀d,Nw w1 d→d.cell? _=_:=fun d h=>h.kp d4
 clear c0 c1 c2 c3 c4 d0 d1 d2 d3 d4
 refine Z8 [some true,some true,some false,some true,some true,some true,some true,none,some false,none,some false,none,some false,none,some true] (Nw w1) (by kernel_rfl) (by kernel_rfl) (by kernel_rfl) (Nw.refl _).drewQ ?_
 have g1:=(Nw.refl w1).drewQ
 obtain⟨w2,hw2⟩:∃w2,w1.drew=w2:=⟨_,rfl⟩
 rw[hw2] at g1 ⊢
 clear hw2
 repeat (first
  | (refine HW.off ?_)
  | (refine HW.go (fun K hK=>?_);go_simp;(first | (go_at_call 235;(with_reducible refine(HH.out _).mono ?_);rintro e wy ⟨rfl,g2⟩) | (go_at_call 108;(with_reducible refine(HC.out _).mono ?_);rintro e wy ⟨rfl,g2⟩));refine hK.out _ _ (g1.trans g2) ?_;intro _;replace g1:=g1.trans g2;clear hK K g2)
  | (refine HW.take' ?_;apply Exists.intro;refine⟨Or.inl ⟨by rfl,?_⟩,?_⟩;(intro x hx;go_simp;first | done | with_reducible rfl);(try simp only[Act.put,List.setIfInBounds_toArray,List.set_cons_zero,List.set_cons_succ])))
 refine HW.go (fun K hK=>?_)
 go_simp
 have hb:=Z1 wy (.cells #[.int .i64 x,.int .i64 y] 3)
 have g3:=g1.alloc (.cells #[.int .i64 x,.int .i64 y] 3)
 have o0:=Z0 (j:=0) hb
 have o1:=Z0 (j:=1) hb
 refine hK.out _ _ g3 ?_
 intro _
 clear hK K
 refine HW.off ?_
 refine HW.go (fun K hK=>?_)
 go_simp
 go_at_call 107
 refine(HO.out _ _ o0 o1).mono ?_
 rintro e wz ⟨rfl,g4⟩
 have g5:=g3.trans g4
 refine hK.out _ _ g5 ?_
 intro _
 clear hK K
 refine HW.take' ?_
 apply Exists.intro
 refine⟨Or.inl ⟨by rfl,?_⟩,?_⟩
 ·(intro x hx;go_simp;first | done | with_reducible rfl)
 (try simp only[Act.put,List.setIfInBounds_toArray,List.set_cons_zero,List.set_cons_succ])
 refine HW.end_ ?_
 refine NoPanic.normal ?_
 go_wp2
 go_ret
 exact⟨rfl,HN.out.trans g5⟩
structure RqB(w:World)(p:Nat)(a b m n s:Int):Prop where
 lt:p<w.heap.size
 c0:w.cell? ⟨p,0,none⟩=some (.int .i64 a)
 c1:w.cell? ⟨p,1,none⟩=some (.int .i64 b)
 c2:w.cell? ⟨p,2,none⟩=some (.int .i64 m)
 c3:w.cell? ⟨p,3,none⟩=some (.int .i64 n)
 c4:w.cell? ⟨p,4,none⟩=some (.int .i64 s)
theorem RqB.nw{w w':World}{p:Nat}{a b m n s:Int}(h:RqB w p a b m n s)(g:Nw w w'):RqB w' p a b m n s :=
 ⟨lL0 h.lt g.sz,g.kp h.c0,g.kp h.c1,g.kp h.c2,g.kp h.c3,g.kp h.c4⟩
theorem RqB.of{w:World}{p:Nat}{a b m n s:Int}{T:TypeId}{fr:Nat × Nat}(h:w.heap[p]?=some (.cells #[.int .i64 a,.int .i64 b,.int .i64 m,.int .i64 n,.int .i64 s] T fr)):RqB w p a b m n s :=
 ⟨hlt h,Z0 h,Z0 h,Z0 h,Z0 h,Z0 h⟩
theorem RqB.made(w:World)(a b m n s:Int)(T:TypeId):RqB (w.alloc (.cells #[.int .i64 a,.int .i64 b,.int .i64 m,.int .i64 n,.int .i64 s] T)) w.heap.size a b m n s:=RqB.of (Z1 w _)
theorem RqB.cells{w:World}{p:Nat}{a b m n s:Int}(h:RqB w p a b m n s):∀j u,(Zk ⟨a,b,m,n,s⟩)[j]?=some u→w.cell? ⟨p,j,none⟩=some u:=by
 intro j u hu
 have hj:j<5:=by have:=(List.getElem?_eq_some_iff.1 hu).1;simpa [Zk] using this
 rcases j with _ | _ | _ | _ | _ | j
 ·exact h.c0.trans hu
 ·exact h.c1.trans hu
 ·exact h.c2.trans hu
 ·exact h.c3.trans hu
 ·exact h.c4.trans hu
 ·omega
theorem Zra(S R:Rq)(p:Nat)(w:World)(h:RqB w p S.id S.txn S.md S.wt S.sn):Calls prog 227 #[rqV R,.pointer (some ⟨p,0,none⟩)] w fun e w'=>e=.returned (.bool (decide (0<R.sn)&&decide (toI R S<0)))∧Nw w w':=by
 have HWt:=hD0 (Z7e R)
 have HT:=hD0 (Zh9 R S)
 generalize toI R S=x at *
 obtain⟨y,hd⟩:∃y,decide (x<0)=y:=⟨_,rfl⟩
 rw[hd]
 generalize decide (0<R.sn)=z at *
 obtain⟨a,b,m,n,s⟩:=R
 obtain⟨a',b',m',n',s'⟩:=S
 unfold rqV at *
 simp only at h
 have hl:w.heap.size<(w.alloc (.cells #[.int .i64 a,.int .i64 b,.int .i64 m,.int .i64 n,.int .i64 s] 50)).heap.size:=by simp
 have hb:=RqB.made w a b m n s 50
 have hN:=(Nw.refl w).alloc (.cells #[.int .i64 a,.int .i64 b,.int .i64 m,.int .i64 n,.int .i64 s] 50)
 obtain⟨w1,hw1⟩:∃w1,w.alloc (.cells #[.int .i64 a,.int .i64 b,.int .i64 m,.int .i64 n,.int .i64 s] 50)=w1:=⟨_,rfl⟩
 rw[hw1] at hb hN hl
 have HW1:=hD0 hw1
 clear hw1
 obtain⟨hl0,c0,c1,c2,c3,c4⟩:=h.nw hN
 have hBB:=hD0 (aI0 (h.nw hN) hb)
 obtain⟨hl2,d0,d1,d2,d3,d4⟩:=hb
 have HN:=hD0 hN
 clear hN h
 cases z
 ·go_enter func227,ntmps227
  go_wp2_with fail
  rw[HW1.out]
  go_wp2_with (go_at_call 179;refine(HWt.out _).mono ?_;rintro e w2 ⟨rfl,g⟩)
  go_ret
  exact⟨rfl,HN.out.trans g⟩
 ·go_enter func227,ntmps227
  go_wp2_with fail
  rw[HW1.out]
  go_wp2_with fail
  go_at_call 179
  refine(HWt.out _).mono ?_
  rintro e w2 ⟨rfl,g⟩
  clear hl0 c0 c1 c2 c3 c4 hl2 d0 d1 d2 d3 d4
  obtain⟨hl0,c0,c1,c2,c3,c4⟩:=hBB.out.1.nw g
  obtain⟨hl2,d0,d1,d2,d3,d4⟩:=hBB.out.2.nw g
  have HN2:=hD0 (HN.out.trans g)
  clear HN hl g hBB
  go_wp2_with (go_at_call 228;refine(HT.out _).mono ?_;rintro e w3 ⟨rfl,g3⟩)
  go_ret
  exact⟨rfl,HN2.out.trans g3⟩
theorem Zm6(S:Rq)(w:World):Calls prog 212 #[rqV S] w fun e w'=>∃p,e=.returned (.func (.func 227) #[] #[.pointer (some ⟨p,0,none⟩)])∧Nw w w'∧RqB w' p S.id S.txn S.md S.wt S.sn:=by
 obtain⟨a',b',m',n',s'⟩:=S
 unfold rqV
 go_enter func212,ntmps212
 go_wp2
 go_ret
 exact⟨_,rfl,(Nw.refl _).alloc _,RqB.made _ _ _ _ _ _ _⟩
theorem Yb.ahead{w:World}{S:Rq}{p:Nat}(h:RqB w p S.id S.txn S.md S.wt S.sn):Yb w (.func (.func 227) #[] #[.pointer (some ⟨p,0,none⟩)]) (fun R=>decide (0<R.sn)&&decide (toI R S<0)) :=
 ⟨_,_,rfl,enters_of func227 (by kernel_rfl) rfl,fun R w1 g=>Zra S R p w1 (h.nw g)⟩
def Z28(w:World)(f:Value)(gi:Nat)(c:Int→Int→Int)(P:Int→Prop):Prop:=∃(g:Nat) (lb:Array Value),f=.func (.func g) #[] lb∧(∀args w,(callFunc g args).run prog w=.ok (.enter g args) w) ∧
 ∀(x y:Int) (w1:World),P x→P y→Z4 (fun k=>k=gi) w w1→Calls prog g (#[.int .i64 x,.int .i64 y]++lb) w1 fun e w'=>e=.returned (.int .i64 (c x y))∧Nw w1 w'
def Z3m(c:Int→Int→Int)(a:Nat):Nat→List Int→List Int
 | 0,L=>L
 | j+1,L=>if a<j+1∧c (L.getD (j+1) 0) (L.getD j 0)<0 then Z3m c a j ((L.set (j+1) (L.getD j 0)).set j (L.getD (j+1) 0))else L
def Z8q(c:Int→Int→Int)(a:Nat):Nat→Nat→List Int→List Int
 | 0,_,L=>L
 | n+1,i,L=>Z8q c a n (i+1) (Z3m c a i L)
theorem Z9a{c:Int→Int→Int}{a j:Nat}{L:List Int}(h:¬a<j):Z3m c a j L=L:=by
 cases j with
 | zero=>rfl
 | succ j=>unfold Z3m;rw[if_neg (fun e=>h e.1)]
theorem Z98{c:Int→Int→Int}{a j:Nat}{L:List Int}(h:¬c (L.getD (j+1) 0) (L.getD j 0)<0):Z3m c a (j+1) L=L:=by
 unfold Z3m;rw[if_neg (fun e=>h e.2)]
theorem Zhr{c:Int→Int→Int}{a j:Nat}{L:List Int}(h1:a<j+1)(h:c (L.getD (j+1) 0) (L.getD j 0)<0):Z3m c a (j+1) L=Z3m c a j ((L.set (j+1) (L.getD j 0)).set j (L.getD (j+1) 0)):=by
 conv=>lhs;unfold Z3m
 rw[if_pos ⟨h1,h⟩]
theorem Zpl{P:Int→Prop}{L:List Int}(h:∀x∈L,P x){x y:Int}(hx:P x)(hy:P y){m m1:Nat}:∀z∈(L.set m y).set m1 x,P z:=by
 intro z hz
 rcases List.mem_or_eq_of_mem_set hz with hz | rfl
 ·rcases List.mem_or_eq_of_mem_set hz with hz | rfl
  ·exact h z hz
  ·exact hy
 ·exact hx
theorem Z4.st'{S:Nat→Prop}{a b:World}(h:Z4 S a b){p:Nat}(hp:S p)(j:Nat)(u:Value):Z4 S a (b.setCell ⟨p,j,none⟩ u):=h.set (p:=⟨p,j,none⟩) (.inl hp) u
theorem Zax(f:Value)(c:Int→Int→Int)(P:Int→Prop)(g cap:Nat)(l:List Int)(a b:Nat)(w:World)(hl:l.length≤1000)(hab:a≤b)(hb:b≤l.length)(h:IS w (.slice (some ⟨g,0,none⟩) l.length cap) l)(hP:∀x∈l,P x)(hf:Z28 w f g c P) :
  Calls prog 258 #[.slice (some ⟨g,0,none⟩) l.length cap,.int .i64 a,.int .i64 b,f] w fun e w'=>e=.returned (.tuple #[])∧IS w' (.slice (some ⟨g,0,none⟩) l.length cap) (Z8q c a (b-(a+1)) (a+1) l)∧Z4 (fun k=>k=g) w w':=by
 obtain⟨gf,lb,rfl,eg,hT⟩:=hf
 have HT:=hD0 hT
 have H:=hD0 (aI0 h hP)
 obtain⟨n,hn⟩:∃n,l.length=n:=⟨_,rfl⟩
 rw[hn] at hl hb H ⊢
 obtain⟨R,hR⟩:∃R,Z8q c a (b-(a+1)) (a+1) l=R:=⟨_,rfl⟩
 rw[hR]
 have HR:=hD0 (aI0 hR hn)
 clear hT h hP hR hn
 go_enter func258,ntmps258
 go_wp2
 go_loopw [8] (fun i wr=>∃(k:Nat) (L:List Int),i=.int .i64 k∧a<k∧(k≤b∨k=a+1)∧Z8q c a (b-k) k L=R∧L.length=n∧IS wr (.slice (some ⟨g,0,none⟩) n cap) L∧(∀x∈L,P x)∧Z4 (fun k=>k=g) w wr) (fun i _=>b-(intOf i).toNat)
 case atStart=>exact⟨a+1,l,by go_num,by omega,.inr rfl,HR.out.1,HR.out.2,H.out.1,H.out.2,Z4.refl _ _⟩
 case round =>
  obtain⟨k,L,rfl,hak,hkb,hS,hLn,hI,hPL,hTc⟩:=hrel
  by_cases hlt:k<b
  ·have hS2:Z8q c a (b-(k+1)) (k+1) (Z3m c a k L)=R:=by
    rw[show b-k=(b-(k+1))+1 by omega] at hS
    exact hS
   obtain⟨M,hM⟩:∃M,Z3m c a k L=M:=⟨_,rfl⟩
   rw[hM] at hS2
   have HM:=hD0 (aI0 hM (aI0 hI (aI0 hPL (aI0 hTc hLn))))
   have HS:=hD0 hS2
   clear hS hS2 hM hI hPL hTc hLn
   go_wp2
   go_loopw [9] (fun j wr=>∃(m:Nat) (L:List Int),j=.int .i64 m∧a≤m∧m≤k∧Z3m c a m L=M∧L.length=n∧IS wr (.slice (some ⟨g,0,none⟩) n cap) L∧(∀x∈L,P x)∧Z4 (fun k=>k=g) w wr) (fun j _=>(intOf j).toNat)
   case atStart=>exact⟨k,L,rfl,by omega,Nat.le_refl _,HM.out.1,HM.out.2.2.2.2,HM.out.2.1,HM.out.2.2.1,HM.out.2.2.2.1⟩
   case round =>
    obtain⟨m,L,rfl,ham,hmk,hF,hLn,hI,hPL,hTc⟩:=hrel
    have q1:=(Nw.refl wr).drewQ
    obtain⟨wc,hwc⟩:∃wc,wr.drew=wc:=⟨_,rfl⟩
    have hgl:=hI.glt
    by_cases hm:a<m
    ·obtain⟨m1,hm1⟩:∃m1,m=m1+1:=⟨m-1,by omega⟩
     have dm:decide ((a:Int)<(m:Int))=true:=by rw[decide_eq_true_iff];omega
     have c1:=hI.cell m (by omega)
     have c0:=hI.cell m1 (by omega)
     have px:P (L.getD m 0):=by
      rw[show L.getD m 0=L[m]'(by omega)by simp[List.getD,show m<L.length by omega]]
      exact hPL _ (gM0 _)
     have py:P (L.getD m1 0):=by
      rw[show L.getD m1 0=L[m1]'(by omega)by simp[List.getD,show m1<L.length by omega]]
      exact hPL _ (gM0 _)
     have HC:=hD0 (fun(w1:World) (hN:Nw wr w1)=>HT.out _ _ w1 px py (hTc.trans (Z4.nw hN)))
     have hw1:IntKind.i64.wrap ((m:Int)-1)=(m1:Int):=by rw[IntKind.wrap_i64];omega
     have hi1:(m:Int)<(n:Int):=by omega
     have hi0:(m1:Int)<(n:Int):=by omega
     have hkn1:m<n:=by omega
     have hkn0:m1<n:=by omega
     have HGo:Hid (c (L.getD m 0) (L.getD m1 0)<0→Z3m c a m1 ((L.set m (L.getD m1 0)).set m1 (L.getD m 0))=M):=hD0 (by subst hm1;exact fun e=>(Zhr (L:=L) hm e).symm.trans hF)
     have HKe:Hid (¬c (L.getD m 0) (L.getD m1 0)<0→L=M):=hD0 (by subst hm1;exact fun e=>(Z98 (a:=a) (L:=L) e).symm.trans hF)
     have HM1:=hD0 hm1
     clear hm1
     have fz:=fun j=>hI.frozen j
     have HI:=hD0 (aI0 hI (aI0 hPL (aI0 hTc hLn)))
     have hpx:=hD0 px
     have hpy:=hD0 py
     clear px py hI hPL hTc hF hLn
     generalize hxe:L.getD m 0=x at *
     generalize hye:L.getD m1 0=y at *
     obtain⟨z,hz⟩:∃z,c x y=z:=⟨_,rfl⟩
     rw[hz] at HC HGo HKe
     clear hz hxe hye
     have s1:∀u,Nw wr u→u.cell? ⟨g,m,none⟩=some (.int .i64 x):=fun u hu=>hu.kp c1
     have s0:∀u,Nw wr u→u.cell? ⟨g,m1,none⟩=some (.int .i64 y):=fun u hu=>hu.kp c0
     by_cases hz0:z<0
     ·have dz:decide (z<0)=true:=by simpa using hz0
      have HF:=hD0 (HGo.out hz0)
      clear HGo HKe hz0 c1 c0
      go_wp2
      refine Z8 [some true,some true,some true,some true,some true,some true,some true,some true,some true,some true,some true,some true,some true,some true,some false,none,some true,some true] (Nw wr) (by kernel_rfl) (by kernel_rfl) (by kernel_rfl) q1 ?_
      rw[hwc] at q1 ⊢
      clear hwc
      repeat (first
       | (refine HW.off ?_)
       | (refine HW.take' ?_;(first | (refine⟨undef,Or.inr ⟨by rfl,rfl⟩,?_⟩) | (apply Exists.intro;refine⟨Or.inl ⟨by rfl,?_⟩,?_⟩;(intro x hx;go_simp;first | done | with_reducible rfl)));(try simp only[Act.put,List.setIfInBounds_toArray,List.set_cons_zero,List.set_cons_succ]))
       | (refine HW.go (fun K hK=>?_);go_simp;(first
        | (go_at_fn gf;(with_reducible refine(HC.out _ q1).mono ?_);rintro e wy ⟨rfl,g2⟩;refine hK.out _ _ (q1.trans g2) ?_;intro _;replace q1:=q1.trans g2;clear hK K g2)
        | (refine hK.out _ _ q1 ?_;intro _;clear hK K))))
      refine HW.end_ ?_
      refine NoPanic.normal ?_
      have t1:=s1 _ q1
      have t0:=s0 _ q1
      have hgl2:=lL0 hgl q1.sz
      have fz2:=fun j=>(q1.froz (o:=j) hgl).trans (fz j)
      have HQ:=hD0 q1
      clear s1 s0 q1 fz hgl
      go_wp2
      have hn1:¬m1=m:=by have:=HM1.out;omega
      have hn2:¬m=m1:=by have:=HM1.out;omega
      go_region
      go_wp2
      go_roundw
      case rel=>exact⟨m1,_,by go_num,by have:=HM1.out;omega,by have:=HM1.out;omega,HF.out,by rw[List.length_set,List.length_set];exact HI.out.2.2.2,(((HI.out.1.nw HQ.out).set m y).set m1 x).nw (Nw.refl _).drewQ,Zpl HI.out.2.1 hpx.out hpy.out,(((HI.out.2.2.1.trans (Z4.nw HQ.out)).st' rfl m _).st' rfl m1 _).drewN 1⟩
      case measure=>have:=HM1.out;simp[intOf];omega
     ·have dz:decide (z<0)=false:=by simpa using hz0
      have HF:=hD0 (HKe.out hz0)
      clear HGo HKe hz0 c1 c0
      go_wp2
      refine Z8 [some true,some true,some true,some true,some true,some true,some true,some true,some true,some true,some true,some true,some true,some true,some false,none,some true,some true] (Nw wr) (by kernel_rfl) (by kernel_rfl) (by kernel_rfl) q1 ?_
      rw[hwc] at q1 ⊢
      clear hwc
      repeat (first
       | (refine HW.off ?_)
       | (refine HW.take' ?_;(first | (refine⟨undef,Or.inr ⟨by rfl,rfl⟩,?_⟩) | (apply Exists.intro;refine⟨Or.inl ⟨by rfl,?_⟩,?_⟩;(intro x hx;go_simp;first | done | with_reducible rfl)));(try simp only[Act.put,List.setIfInBounds_toArray,List.set_cons_zero,List.set_cons_succ]))
       | (refine HW.go (fun K hK=>?_);go_simp;(first
        | (go_at_fn gf;(with_reducible refine(HC.out _ q1).mono ?_);rintro e wy ⟨rfl,g2⟩;refine hK.out _ _ (q1.trans g2) ?_;intro _;replace q1:=q1.trans g2;clear hK K g2)
        | (refine hK.out _ _ q1 ?_;intro _;clear hK K))))
      refine HW.end_ ?_
      refine NoPanic.normal ?_
      have HQ:=hD0 q1
      clear s1 s0 q1 fz hgl
      go_wp2
      go_roundw
      case rel=>exact⟨k+1,L,by go_num,by omega,.inl (by omega),by rw[HF.out];exact HS.out,HI.out.2.2.2,HI.out.1.nw HQ.out,HI.out.2.1,HI.out.2.2.1.trans (Z4.nw HQ.out)⟩
      case measure=>simp[intOf];omega
    ·have dm:decide ((a:Int)<(m:Int))=false:=by rw[decide_eq_false_iff_not];omega
     have HF:=hD0 ((Z9a (c:=c) (L:=L) hm).symm.trans hF)
     have HI:=hD0 (aI0 hI (aI0 hPL (aI0 hTc hLn)))
     clear hI hPL hTc hLn hF
     go_wp2
     refine Z8 [some true,some true,some true,some true,some true,some true,some true,some true,some true,some true,some true,some true,some true,some true,some false,none,some true,some true] (Nw wr) (by kernel_rfl) (by kernel_rfl) (by kernel_rfl) q1 ?_
     rw[hwc] at q1 ⊢
     clear hwc
     repeat (first
      | (refine HW.off ?_)
      | (refine HW.take' ?_;(first | (refine⟨undef,Or.inr ⟨by rfl,rfl⟩,?_⟩) | (apply Exists.intro;refine⟨Or.inl ⟨by rfl,?_⟩,?_⟩;(intro x hx;go_simp;first | done | with_reducible rfl)));(try simp only[Act.put,List.setIfInBounds_toArray,List.set_cons_zero,List.set_cons_succ]))
      | (refine HW.go (fun K hK=>?_);go_simp;((refine hK.out _ _ q1 ?_;intro _;clear hK K))))
     refine HW.end_ ?_
     refine NoPanic.normal ?_
     have HQ:=hD0 q1
     clear q1 hgl
     go_wp2
     go_roundw
     case rel=>exact⟨k+1,L,by go_num,by omega,.inl (by omega),by rw[HF.out];exact HS.out,HI.out.2.2.2,HI.out.1.nw HQ.out,HI.out.2.1,HI.out.2.2.1.trans (Z4.nw HQ.out)⟩
     case measure=>simp[intOf];omega
  ·have HF:=hD0 (show L=R by rw[←hS,show b-k=0 by omega];rfl)
   have HI:=hD0 (aI0 hI hTc)
   clear hS hI hTc hPL hLn
   go_wp2
   exact bodyPost_end (results_none rfl _ _ _) rfl ⟨rfl,by rw[←HF.out];exact HI.out.1,HI.out.2⟩
def Z1u(c:Int→Int→Int)(v:Int):List Int→List Int
 | []=>[v]
 | x::r=>if c v x<0 then x::Z1u c v r else v::x::r
def Z27(c:Int→Int→Int)(S:List Int):List Int:=(S.foldl (fun acc v=>Z1u c v acc) []).reverse
theorem Zco{P:List Int}(x:Int)(Q:List Int){k:Nat}(h:P.length=k):(P++x::Q).getD k 0=x:=by subst h;simp[List.getD]
theorem Zin{P:List Int}(x y:Int)(Q:List Int){k:Nat}(h:P.length=k):(P++x::Q).set k y=P++y::Q:=by
 subst h
 rw[List.set_append_right _ _ (Nat.le_refl _),Nat.sub_self,List.set_cons_zero]
theorem Z99(c:Int→Int→Int)(v:Int)(P:List Int)(a:Nat)(hP:P.length=a):∀(X Q:List Int),Z3m c a (a+X.length) (P++X.reverse++v::Q)=P++(Z1u c v X).reverse++Q
 | [],Q=>by
  rw[Z9a (by simp)]
  simp[Z1u]
 | x::X,Q=>by
  have hl:(P++X.reverse).length=a+X.length:=by simp[hP]
  have hl2:(P++X.reverse++[x]).length=a+X.length+1:=by simp[hP];omega
  have e0:P++(x::X).reverse++v::Q=(P++X.reverse)++x::(v::Q):=by simp
  have e1:P++(x::X).reverse++v::Q=(P++X.reverse++[x])++v::Q:=by simp
  have g1:(P++(x::X).reverse++v::Q).getD (a+X.length+1) 0=v:=by rw[e1];exact Zco v Q hl2
  have g0:(P++(x::X).reverse++v::Q).getD (a+X.length) 0=x:=by rw[e0];exact Zco x _ hl
  rw[show a+(x::X).length=a+X.length+1 by simp;omega]
  unfold Z1u
  by_cases h:c v x<0
  ·rw[if_pos h,Zhr (by omega) (by rw[g1,g0];exact h),g1,g0]
   have s1:((P++(x::X).reverse++v::Q).set (a+X.length+1) x).set (a+X.length) v=P++X.reverse++v::(x::Q):=by
    rw[e1,Zin v x Q hl2]
    have:P++X.reverse++[x]++x::Q=(P++X.reverse)++x::(x::Q):=by simp
    rw[this,Zin x v _ hl]
   rw[s1,Z99 c v P a hP X (x::Q)]
   simp
  ·rw[if_neg h,Z98 (by rw[g1,g0];exact h)]
   simp
theorem Z9v(c:Int→Int→Int)(P:List Int)(a:Nat)(hP:P.length=a):∀(S X Q:List Int),Z8q c a S.length (a+X.length) (P++X.reverse++S++Q)=P++(S.foldl (fun acc v=>Z1u c v acc) X).reverse++Q
 | [],X,Q=>by simp[Z8q]
 | v::S,X,Q=>by
  have hx:∀l:List Int,(Z1u c v l).length=l.length+1:=by
   intro l
   induction l with
   | nil=>rfl
   | cons x r ih=>unfold Z1u;split<;>simp[ih]
  show Z8q c a S.length (a+X.length+1) (Z3m c a (a+X.length) (P++X.reverse++v::S++Q))=_
  have e:P++X.reverse++v::S++Q=P++X.reverse++v::(S++Q):=by simp
  rw[e,Z99 c v P a hP X (S++Q)]
  have:=Z9v c P a hP S (Z1u c v X) Q
  rw[hx X,show a+(X.length+1)=a+X.length+1 by omega] at this
  rw[show P++(Z1u c v X).reverse++(S++Q)=P++(Z1u c v X).reverse++S++Q by simp,this]
  rfl
theorem Z8c(c:Int→Int→Int)(l:List Int)(a b:Nat)(hab:a≤b)(hb:b≤l.length):Z8q c a (b-(a+1)) (a+1) l=l.take a++Z27 c ((l.drop a).take (b-a))++l.drop b:=by
 have hsp:l=l.take a++((l.drop a).take (b-a)++l.drop b):=by
  have h1:l.drop b=(l.drop a).drop (b-a):=by rw[List.drop_drop,show a+(b-a)=b by omega]
  rw[h1,List.take_append_drop,List.take_append_drop]
 obtain⟨S,hS⟩:∃S,(l.drop a).take (b-a)=S:=⟨_,rfl⟩
 have hSl:S.length=b-a:=by rw[←hS];simp;omega
 rw[hS] at hsp ⊢
 have hPl:(l.take a).length=a:=by simp;omega
 generalize l.take a=P at *
 generalize l.drop b=Q at *
 subst hsp
 cases S with
 | nil =>
  have:b-(a+1)=0:=by simp at hSl;omega
  rw[this]
  simp[Z8q,Z27]
 | cons v S =>
  have h1:b-(a+1)=S.length:=by simp at hSl;omega
  rw[h1]
  have:=Z9v c P a hPl S [v] Q
  rw[show P++[v].reverse++S++Q=P++(v::S++Q)by simp] at this
  rw[show a+1=a+[v].length by rfl,this]
  rfl
theorem Z1g(c:Int→Int→Int)(v:Int):∀l:List Int,(Z1u c v l).Perm (v::l)
 | []=>.refl _
 | x::r=>by
  unfold Z1u
  split
  ·exact(List.Perm.cons x (Z1g c v r)).trans (List.Perm.swap v x r)
  ·exact .refl _
theorem Z91(c:Int→Int→Int):∀(S X:List Int),(S.foldl (fun acc v=>Z1u c v acc) X).Perm (X++S)
 | [],X=>by simp
 | v::S,X=>by
  rw[List.foldl_cons]
  refine(Z91 c S (Z1u c v X)).trans ?_
  refine((Z1g c v X).append_right S).trans ?_
  exact(List.perm_middle (l₁:=X) (a:=v) (l₂:=S)).symm
theorem Z89(c:Int→Int→Int)(S:List Int):(Z27 c S).Perm S:=by
 unfold Z27
 exact(List.reverse_perm _).trans ((Z91 c S []).trans (by simp))
theorem Z5x(c:Int→Int→Int)(M:Int→Prop)(tr:∀x y z,M x→M y→M z→c x y<0→c y z<0→c x z<0)(tot:∀x y,M x→M y→x≠y→c x y<0∨c y x<0)(v:Int)(hv:M v):∀l:List Int,(∀x∈l,M x∧x≠v)→l.Pairwise (fun x y=>c y x<0)→(Z1u c v l).Pairwise (fun x y=>c y x<0)
 | [],_,_=>by simp[Z1u]
 | x::r,h,hp=>by
  have hx:=h x (by simp)
  have hr:∀y∈r,M y∧y≠v:=fun y hy=>h y (List.mem_cons_of_mem _ hy)
  rw[List.pairwise_cons] at hp
  unfold Z1u
  split
  ·rename_i hc
   rw[List.pairwise_cons]
   refine⟨fun y hy=>?_,Z5x c M tr tot v hv r hr hp.2⟩
   rcases List.mem_cons.1 ((Z1g c v r).mem_iff.1 hy)with rfl | hy
   ·exact hc
   ·exact hp.1 y hy
  ·rename_i hc
   have hxv:c x v<0:=(tot v x hv hx.1 (fun e=>hx.2 e.symm)).resolve_left hc
   rw[List.pairwise_cons]
   refine⟨fun y hy=>?_,by rw[List.pairwise_cons];exact hp⟩
   rcases List.mem_cons.1 hy with rfl | hy
   ·exact hxv
   ·exact tr y x v (hr y hy).1 hx.1 hv (hp.1 y hy) hxv
theorem Z5u(c:Int→Int→Int)(M:Int→Prop)(tr:∀x y z,M x→M y→M z→c x y<0→c y z<0→c x z<0)(tot:∀x y,M x→M y→x≠y→c x y<0∨c y x<0):∀(S X:List Int),(∀x∈S,M x)→(∀x∈X,M x)→(X++S).Nodup→X.Pairwise (fun x y=>c y x<0)→(S.foldl (fun acc v=>Z1u c v acc) X).Pairwise (fun x y=>c y x<0)
 | [],X,_,_,_,h=>h
 | v::S,X,hS,hX,hn,h=>by
  rw[List.foldl_cons]
  have hn':=List.nodup_append.1 hn
  refine Z5u c M tr tot S _ (fun x hx=>hS x (List.mem_cons_of_mem _ hx)) (fun x hx=>?_) ?_ (Z5x c M tr tot v (hS v (by simp)) X (fun x hx=>⟨hX x hx,fun e=>hn'.2.2 x hx v (by simp) e⟩) h)
  ·rcases List.mem_cons.1 ((Z1g c v X).mem_iff.1 hx)with rfl | hx
   ·exact hS _ (by simp)
   ·exact hX x hx
  ·refine(((Z1g c v X).append_right S).trans ?_).nodup_iff.2 hn
   exact(List.perm_middle (l₁:=X) (a:=v) (l₂:=S)).symm
theorem Z4x(c:Int→Int→Int)(M:Int→Prop)(tr:∀x y z,M x→M y→M z→c x y<0→c y z<0→c x z<0)(tot:∀x y,M x→M y→x≠y→c x y<0∨c y x<0)(S:List Int)(hS:∀x∈S,M x)(hn:S.Nodup):(Z27 c S).Pairwise (fun x y=>c x y<0):=by
 unfold Z27
 rw[List.pairwise_reverse]
 exact Z5u c M tr tot S [] hS (by simp) (by simpa using hn) .nil
theorem Z7r(v f:Value)(n:Nat)(ao:Option Addr)(cap a b:Nat)(w:World)(hv:v=.slice ao n cap)(hab:b≤a)(ha:a≤1000)(gf:Nat)(lb:Array Value)(hf:f=.func (.func gf) #[] lb) :
  Calls prog 258 #[v,.int .i64 a,.int .i64 b,f] w fun e w'=>e=.returned (.tuple #[])∧w=w':=by
 subst hv hf
 have d:decide (((a:Int)+1)<(b:Int))=false:=by rw[decide_eq_false_iff_not];omega
 go_enter func258,ntmps258
 go_wp2
 refine wp_loop_rounds 1 ?_
 repeat (rw[rounds_succ];go_wp2)
 exact bodyPost_end (results_none rfl _ _ _) rfl ⟨rfl,rfl⟩
theorem Zpp(f:Value)(c:Int→Int→Int)(P:Int→Prop)(v:Value)(l:List Int)(w:World)(gi:Nat)(hl:l.length≤20)(h:IS w v l)(hP:∀x∈l,P x)(hf:Z28 w f gi c P)(hgi:∀g,v.ownBlock=some g→g=gi) :
  Calls prog 250 #[v,.int .i64 l.length,f] w fun e w'=>e=.returned (.tuple #[])∧IS w' v (Z27 c l)∧Z4 (fun k=>v.ownBlock=some k) w w':=by
 rcases h.form with⟨rfl,rfl⟩ | ⟨g,cap,rfl⟩
 ·obtain⟨gf,lb,rfl,_⟩:=hf
  have HN:=hD0 (Z7r (.slice none 0 0) (.func (.func gf) #[] lb) 0 none 0 0 0 w rfl (Nat.le_refl _) (by omega) gf lb rfl)
  clear hP hgi hl
  have H:=hD0 h
  clear h
  go_enter func250,ntmps250
  go_wp2
  refine wp_loop_rounds 1 ?_
  rw[rounds_succ]
  go_wp2_with (go_at_call 258;refine HN.out.mono ?_;rintro e w1 ⟨rfl,rfl⟩)
  refine wp_loop_rounds 1 ?_
  repeat (rw[rounds_succ];go_wp2)
  exact bodyPost_end (results_none rfl _ _ _) rfl ⟨rfl,H.out,Z4.refl _ _⟩
 ·obtain rfl:=hgi g rfl
  by_cases hn:l.length=20
  ·have h1:=Zax f c P g cap l 0 20 w (by omega) (by omega) (by omega) h hP hf
   rw[Z8c c l 0 20 (by omega) (by omega)] at h1
   rw[show l.take 0++Z27 c ((l.drop 0).take (20-0))++l.drop 20=Z27 c l by
    rw[List.take_zero,List.drop_zero,List.nil_append,List.drop_of_length_le (by omega),List.append_nil,show 20-0=l.length by omega,List.take_length]] at h1
   obtain⟨gf,lb,rfl,_⟩:=hf
   rw[hn] at h1 ⊢
   have HS:=hD0 h1
   have HN:=hD0 (fun w1=>Z7r (.slice (some ⟨g,0,none⟩) 20 cap) (.func (.func gf) #[] lb) 20 (some ⟨g,0,none⟩) cap 20 20 w1 rfl (Nat.le_refl _) (by omega) gf lb rfl)
   clear h1 h hP hn hl hgi
   go_enter func250,ntmps250
   go_wp2
   refine wp_loop_rounds 2 ?_
   rw[rounds_succ]
   go_wp2_with (go_at_call 258;refine HS.out.mono ?_;rintro e w1 ⟨rfl,hI,hT⟩)
   have HI:=hD0 (aI0 hI hT)
   clear hI hT
   rw[rounds_succ]
   go_wp2_with (go_at_call 258;refine(HN.out _).mono ?_;rintro e w2 ⟨rfl,rfl⟩)
   refine wp_loop_rounds 1 ?_
   repeat (rw[rounds_succ];go_wp2)
   exact bodyPost_end (results_none rfl _ _ _) rfl ⟨rfl,HI.out.1,HI.out.2.mono fun i _ e=>by rw[e];rfl⟩
  ·have h1:=Zax f c P g cap l 0 l.length w (by omega) (by omega) (Nat.le_refl _) h hP hf
   rw[Z8c c l 0 l.length (by omega) (Nat.le_refl _)] at h1
   rw[show l.take 0++Z27 c ((l.drop 0).take (l.length-0))++l.drop l.length=Z27 c l by
    rw[List.take_zero,List.drop_zero,List.nil_append,List.drop_length,List.append_nil,Nat.sub_zero,List.take_length]] at h1
   obtain⟨gf,lb,rfl,_⟩:=hf
   have d1:decide ((20:Int)≤(l.length:Int))=false:=by rw[decide_eq_false_iff_not];omega
   have d2:decide ((20:Int)<(l.length:Int))=false:=by rw[decide_eq_false_iff_not];omega
   have HS:=hD0 h1
   clear h1 h hP hn hl hgi
   generalize l.length=n at *
   go_enter func250,ntmps250
   go_wp2
   refine wp_loop_rounds 1 ?_
   rw[rounds_succ]
   go_wp2_with (go_at_call 258;refine HS.out.mono ?_;rintro e w1 ⟨rfl,hI,hT⟩)
   have HI:=hD0 (aI0 hI hT)
   clear hI hT
   refine wp_loop_rounds 1 ?_
   repeat (rw[rounds_succ];go_wp2)
   exact bodyPost_end (results_none rfl _ _ _) rfl ⟨rfl,HI.out.1,HI.out.2.mono fun i _ e=>by rw[e];rfl⟩
theorem Zkp(f:Value)(c:Int→Int→Int)(P:Int→Prop)(v:Value)(l:List Int)(w:World)(gi:Nat)(hl:l.length≤20)(h:IS w v l)(hP:∀x∈l,P x)(hf:Z28 w f gi c P)(hgi:∀g,v.ownBlock=some g→g=gi) :
  Calls prog 236 #[v,f] w fun e w'=>e=.returned (.tuple #[])∧IS w' v (Z27 c l)∧Z4 (fun k=>v.ownBlock=some k) w w':=by
 have HS:=hD0 (Zpp f c P v l w gi hl h hP hf hgi)
 obtain⟨ao,cap,rfl,_⟩:=h.box
 obtain⟨gf,lb,rfl,_⟩:=hf
 clear h hP hgi hl
 go_enter func236,ntmps236
 go_wp2_with (go_at_call 250;refine HS.out.mono ?_;rintro e w1 ⟨rfl,hI,hT⟩)
 exact bodyPost_end (results_none rfl _ _ _) rfl ⟨rfl,hI,hT⟩
end Go.Proofs.YtpffldfpabglbaaGreatDoor
