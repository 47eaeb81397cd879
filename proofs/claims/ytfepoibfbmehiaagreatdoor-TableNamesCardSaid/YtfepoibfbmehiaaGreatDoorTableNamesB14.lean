/- Texts merged: SmE, SmG, SmF, SmT, SmR, BdL, QuU, BdM, BdN -/
import Derived.Test.YtfepoibfbmehiaaGreatDoorTableNamesB13
set_option linter.unusedVariables false
set_option maxRecDepth 100000
set_option maxHeartbeats 16000000
namespace Go.Proofs.YtfepoibfbmehiaaGreatDoor
open Go.RowKit _root_.Go.Proofs.Tryz
theorem Zj9(f:Value)(c:Int→Int→Int)(M:Int→Prop)(o:Z22 c M)(g cap n:Nat)(hn:n≤1000):∀S,Z8o f c M g cap n S
 | 0=>fun P A B Q z a m b hS=>by omega
 | S+1=>fun P A B Q z a m b hS hA hB h mA mB sA sB nd hf ha hm hb=>by
  have ih:Z8o f c M g cap n (A.length+B.length):=fun P' A' B' Q' z' a' m' b' hS'=>Zj9 f c M o g cap n hn S P' A' B' Q' z' a' m' b' (by omega)
  have ndd:=List.nodup_append.1 nd
  by_cases h1:A.length=1
  ·obtain⟨x,rfl⟩:=List.length_eq_one_iff.1 h1
   exact Zmf f c M o g cap n P B Q x z hn (by simpa using h) mB (mA x (by simp)) (fun hx=>ndd.2.2 x (by simp) x hx rfl) sB hB hf a m b ha (by simpa using hm) hb
  ·by_cases h2:B.length=1
   ·obtain⟨x,rfl⟩:=List.length_eq_one_iff.1 h2
    exact Zjb f c M o g cap n P A Q x z hn (by simpa using h) mA (mB x (by simp)) (fun hx=>ndd.2.2 x hx x (by simp) rfl) sA (by omega) hf a m b ha hm (by simpa using hb)
   ·by_cases h3:(a+b)/2<m
    ·exact Zme f c M o g cap n P A B Q z hn h mA mB sA sB nd hf ih a m b _ ha hm hb rfl (by omega) (by omega) h3
    ·exact Zja f c M o g cap n P A B Q z hn h mA mB sA sB nd hf ih a m b _ ha hm hb rfl (by omega) (by omega) h3
def Zdr(c:Int→Int→Int)(D:List Int)(s:Nat):Prop:=∀j,Sd c ((D.drop (j*s)).take s)
def Mix(c:Int→Int→Int)(D:List Int)(s j:Nat):Prop:=(∀i,i<j→Sd c ((D.drop (i*(2*s))).take (2*s)))∧(∀i,2*j≤i→Sd c ((D.drop (i*s)).take s))
def Blk(c:Int→Int→Int)(D:List Int)(k:Nat):Prop:=∀i,i<k→Sd c ((D.drop (i*20)).take 20)
theorem Z2k(D M R:List Int){a t u:Nat}(ha:a≤D.length)(h:t+u≤a):((D.take a++M++R).drop t).take u=(D.drop t).take u:=by
 have l:(D.take a).length=a:=by simp;omega
 rw[List.append_assoc,List.drop_append_of_le_length (by omega),List.take_append_of_le_length (by rw[List.length_drop];omega)]
 rw[List.drop_take,List.take_take]
 congr 1
 omega
theorem Zf2(D M:List Int){a b t:Nat}(hb:a+M.length=b)(hbD:b≤D.length)(h:b≤t):(D.take a++M++D.drop b).drop t=D.drop t:=by
 have l:(D.take a++M).length=b:=by simp;omega
 rw[List.drop_append,l,List.drop_of_length_le (by omega),List.nil_append,List.drop_drop]
 congr 1
 omega
theorem Z4b(D M R:List Int){a:Nat}(ha:a≤D.length):((D.take a++M++R).drop a).take M.length=M:=by
 have l:(D.take a).length=a:=by simp;omega
 rw[List.append_assoc,List.drop_append_of_le_length (by omega),List.drop_of_length_le (by omega),List.nil_append,List.take_append_of_le_length (Nat.le_refl _),List.take_length]
theorem Z89{c:Int→Int→Int}{D:List Int}{t u:Nat}(h:D.length≤t):Sd c ((D.drop t).take u):=by
 rw[List.drop_of_length_le h]
 simp[Sd]
theorem Zeq{c:Int→Int→Int}{D:List Int}{s:Nat}(h:Zdr c D s):Mix c D s 0:=⟨fun i hi=>by omega,fun i _=>h i⟩
theorem Z86{i j s:Nat}(h:i<j):i*s+s≤j*s:=by
 have:=Nat.mul_le_mul_right s (show i+1≤j from h)
 rwa [Nat.succ_mul] at this
theorem Zia{c:Int→Int→Int}{D M:List Int}{s j a b:Nat}(h:Mix c D s j)(ha:a=j*(2*s))(hb:b=a+2*s)(hbD:b≤D.length)(hM:M.length=2*s)(sM:Sd c M):Mix c (D.take a++M++D.drop b) s (j+1):=by
 refine⟨fun i hi=>?_,fun i hi=>?_⟩
 ·by_cases e:i=j
  ·subst e
   rw[←ha,←hM,Z4b D M _ (by omega)]
   exact sM
  ·have:=Z86 (s:=2*s) (show i<j by omega)
   rw[Z2k D M _ (by omega) (by omega)]
   exact h.1 i (by omega)
 ·have:=Nat.mul_le_mul_right s hi
  have e:2*(j+1)*s=b:=by
   rw[hb,ha]
   have h1:2*(j+1)*s=(j+1)*(2*s):=by rw[Nat.mul_comm 2 (j+1),Nat.mul_assoc]
   rw[h1,Nat.succ_mul]
  rw[e] at this
  rw[Zf2 D M (by omega) hbD this]
  exact h.2 i (by omega)
theorem Zib{c:Int→Int→Int}{D M:List Int}{s j a:Nat}(h:Mix c D s j)(ha:a=j*(2*s))(haD:a≤D.length)(hn:D.length<a+2*s)(hM:a+M.length=D.length)(sM:Sd c M):Zdr c (D.take a++M) (2*s):=by
 intro i
 have e:D.take a++M=D.take a++M++[]:=by simp
 have l:(D.take a++M).length=D.length:=by simp;omega
 by_cases e1:i=j
 ·subst e1
  have q:=Z4b D M [] haD
  rw[←e] at q
  have:((D.take a++M).drop (i*(2*s))).take (2*s)=M:=by
   rw[←ha]
   have hl:((D.take a++M).drop a).length=M.length:=by rw[List.length_drop,l];omega
   rw[List.take_of_length_le (by omega)]
   rw[List.take_of_length_le (by omega)] at q
   exact q
  rw[this]
  exact sM
 ·rcases Nat.lt_or_ge i j with e2 | e2
  ·have:=Z86 (s:=2*s) e2
   rw[e,Z2k D M [] haD (by omega)]
   exact h.1 i e2
  ·have:=Z86 (s:=2*s) (show j<i by omega)
   exact Z89 (by omega)
theorem Zi9{c:Int→Int→Int}{D:List Int}{s j a:Nat}(h:Mix c D s j)(ha:a=j*(2*s))(hn:D.length≤a+s):Zdr c D (2*s):=by
 intro i
 rcases Nat.lt_trichotomy i j with e | e | e
 ·exact h.1 i e
 ·subst e
  rw[←ha]
  have h2:=h.2 (2*i) (Nat.le_refl _)
  have e2:2*i*s=a:=by rw[ha,Nat.mul_comm 2 i,Nat.mul_assoc]
  rw[e2] at h2
  rw[List.take_of_length_le (by rw[List.length_drop];omega)] at h2 ⊢
  exact h2
 ·have:=Z86 (s:=2*s) e
  exact Z89 (by omega)
theorem Ziv{c:Int→Int→Int}{D:List Int}{s:Nat}(h:Zdr c D s)(hs:D.length≤s):Sd c D:=by
 have:=h 0
 rw[Nat.zero_mul,List.drop_zero,List.take_of_length_le hs] at this
 exact this
theorem Zfx{c:Int→Int→Int}{D M:List Int}{k a b:Nat}(h:Blk c D k)(ha:a=k*20)(hb:b=a+20)(hbD:b≤D.length)(hM:M.length=20)(sM:Sd c M):Blk c (D.take a++M++D.drop b) (k+1):=by
 intro i hi
 by_cases e:i=k
 ·subst e
  have q:=Z4b D M (D.drop b) (a:=a) (by omega)
  rw[hM] at q
  rw[←ha,q]
  exact sM
 ·rw[Z2k D M _ (by omega) (by omega)]
  exact h i (by omega)
theorem Zk7{c:Int→Int→Int}{D M:List Int}{k a:Nat}(h:Blk c D k)(ha:a=k*20)(haD:a≤D.length)(hn:D.length<a+20)(hM:a+M.length=D.length)(sM:Sd c M):Zdr c (D.take a++M) 20:=by
 intro i
 have e:D.take a++M=D.take a++M++[]:=by simp
 have l:(D.take a++M).length=D.length:=by simp;omega
 rcases Nat.lt_trichotomy i k with e1 | e1 | e1
 ·rw[e,Z2k D M [] haD (by omega)]
  exact h i e1
 ·subst e1
  have q:=Z4b D M [] haD
  rw[←e] at q
  rw[←ha]
  have hl:((D.take a++M).drop a).length=M.length:=by rw[List.length_drop,l];omega
  rw[List.take_of_length_le (by omega)] at q ⊢
  rw[q]
  exact sM
 ·exact Z89 (by omega)
theorem Zqb(D:List Int)(a m b:Nat)(h1:a≤m)(h2:m≤b):D=D.take a++(D.drop a).take (m-a)++(D.drop m).take (b-m)++D.drop b:=by
 have e1:D.take a++(D.drop a).take (m-a)=D.take m:=by
  rw[←List.take_add];congr 1;omega
 have e2:D.take m++(D.drop m).take (b-m)=D.take b:=by
  rw[←List.take_add];congr 1;omega
 rw[e1,e2,List.take_append_drop]
theorem Z3o{P M X Q l:List Int}(h:M.Perm X)(k:(P++X++Q).Perm l):(P++M++Q).Perm l:=((h.append_left P).append_right Q).trans k
def StP(w:World)(v:Value)(l:List Int)(c:Int→Int→Int)(e:Ending)(w':World):Prop:=e=.returned (.tuple #[])∧∃D,IS w' v D∧D.Perm l∧Sd c D∧Z3 (fun k=>v.ownBlock=some k) w w'
structure StI(w:World)(g cap n:Nat)(l D:List Int)(wr:World):Prop where
 row:Y1 wr g cap n D
 perm:D.Perm l
 tch:Z3 (fun k=>k=g) w wr
theorem StI.len{w wr:World}{g cap n:Nat}{l D:List Int}(h:StI w g cap n l D wr):n=D.length:=h.row.nlen
theorem Zpn(f:Value)(c:Int→Int→Int)(M:Int→Prop)(o:Z22 c M)(g cap n:Nat)(l D:List Int)(w wr:World)(hn:n≤1000)(h:StI w g cap n l D wr)(hM:∀x∈l,M x)(nd:l.Nodup)(hf:Z0r w f g c M)(a b:Nat)(hab:a≤b)(hb:b≤n) :
  Calls prog 172 #[.slice (some ⟨g,0,none⟩) n cap,.int .i64 a,.int .i64 b,f] wr fun e w'=>e=.returned (.tuple #[])∧∃S,S.length=b-a∧Sd c S∧StI w g cap n l (D.take a++S++D.drop b) w':=by
 have hl:=h.len
 have hMD:∀x∈D,M x:=fun x hx=>hM x (h.perm.mem_iff.1 hx)
 have q:=Z7x f c M g cap D a b wr (by omega) hab (by omega) (by rw[←hl];exact h.row) hMD (hf.later h.tch)
 rw[Z5m c D a b hab (by omega),←hl] at q
 refine q.mono ?_
 rintro e w' ⟨rfl,h1,h2⟩
 have hp:=Z5j c ((D.drop a).take (b-a))
 refine⟨rfl,_,by rw[hp.length_eq,List.length_take,List.length_drop];omega,?_,⟨h1,?_,h.tch.trans h2⟩⟩
 ·exact Z2n c M (fun x y z=>o.tr x y z) (fun x y=>o.tot x y) _ (fun x hx=>hMD x (List.mem_of_mem_drop (List.mem_of_mem_take hx))) ((nd.perm h.perm.symm).sublist ((List.take_sublist _ _).trans (List.drop_sublist _ _)))
 ·refine Z3o hp ?_
  have e:=Zqb D a b b hab (Nat.le_refl _)
  rw[Nat.sub_self,List.take_zero,List.append_nil] at e
  rw[←e]
  exact h.perm
theorem Zpo(f:Value)(c:Int→Int→Int)(M:Int→Prop)(o:Z22 c M)(g cap n:Nat)(l D:List Int)(w wr:World)(hn:n≤1000)(h:StI w g cap n l D wr)(hM:∀x∈l,M x)(nd:l.Nodup)(hf:Z0r w f g c M)(a m b:Nat)(ham:a<m)(hmb:m<b)(hb:b≤n)
  (s1:Sd c ((D.drop a).take (m-a))) (s2:Sd c ((D.drop m).take (b-m))) :
  Calls prog 173 #[.slice (some ⟨g,0,none⟩) n cap,.int .i64 a,.int .i64 m,.int .i64 b,f] wr fun e w'=>e=.returned (.tuple #[])∧∃S,S.length=b-a∧Sd c S∧StI w g cap n l (D.take a++S++D.drop b) w':=by
 have hl:=h.len
 have hMD:∀x∈D,M x:=fun x hx=>hM x (h.perm.mem_iff.1 hx)
 have e:=Zqb D a m b (by omega) (by omega)
 have l1:((D.drop a).take (m-a)).length=m-a:=by rw[List.length_take,List.length_drop];omega
 have l2:((D.drop m).take (b-m)).length=b-m:=by rw[List.length_take,List.length_drop];omega
 have ndD:=nd.perm h.perm.symm
 have ndE:((D.drop a).take (m-a)++(D.drop m).take (b-m)).Nodup:=by
  rw[e] at ndD
  exact ndD.sublist (by rw[List.append_assoc (D.take a)];exact(List.sublist_append_right _ _).trans (List.sublist_append_left _ _))
 refine(Zj9 f c M o g cap n hn _ (D.take a) _ _ (D.drop b) wr a m b (Nat.lt_succ_self _) (by omega) (by omega) (by rw[←e];exact h.row) (fun x hx=>hMD x (List.mem_of_mem_drop (List.mem_of_mem_take hx))) (fun x hx=>hMD x (List.mem_of_mem_drop (List.mem_of_mem_take hx))) s1 s2 ndE (hf.later h.tch) (by rw[List.length_take];omega) (by omega) (by omega)).mono ?_
 rintro e' w' ⟨rfl,S,h1,h2,h3,h4⟩
 refine⟨rfl,S,by rw[h2.length_eq,List.length_append];omega,h3,⟨h1,?_,h.tch.trans h4⟩⟩
 refine Z3o h2 ?_
 rw[←List.append_assoc (D.take a),←e]
 exact h.perm
def L1(w:World)(g cap n:Nat)(l:List Int)(c:Int→Int→Int)(a b:Nat)(wr:World):Prop:=∃k D,a=k*20∧b=a+20∧StI w g cap n l D wr∧Blk c D k
def L2(w:World)(g cap n:Nat)(l:List Int)(c:Int→Int→Int)(s:Nat)(wr:World):Prop:=∃D,StI w g cap n l D wr∧Zdr c D s
def L3(w:World)(g cap n:Nat)(l:List Int)(c:Int→Int→Int)(s a b:Nat)(wr:World):Prop:=∃j D,a=j*(2*s)∧b=a+2*s∧StI w g cap n l D wr∧Mix c D s j
theorem Zma(f:Value)(c:Int→Int→Int)(M:Int→Prop)(o:Z22 c M)(g cap n:Nat)(l:List Int)(w:World)(hn:n≤1000)(hln:l.length=n)(h:Y1 w g cap n l)(hM:∀x∈l,M x)(nd:l.Nodup)(hf:Z0r w f g c M) :
  Calls prog 159 #[.slice (some ⟨g,0,none⟩) n cap,.int .i64 n,f] w (StP w (.slice (some ⟨g,0,none⟩) n cap) l c):=by
 have HI:=hD0 (fun D wr (q:StI w g cap n l D wr) a b hab hb=>Zpn f c M o g cap n l D w wr hn q hM nd hf a b hab hb)
 have HS:=hD0 (fun D wr (q:StI w g cap n l D wr) a m b ham hmb hb s1 s2=>Zpo f c M o g cap n l D w wr hn q hM nd hf a m b ham hmb hb s1 s2)
 have H0:=hD0 (show L1 w g cap n l c 0 20 w from⟨0,l,rfl,rfl,⟨h,.refl _,Z3.refl _ _⟩,fun i hi=>by omega⟩)
 obtain⟨gf,lb,rfl,eg,hT⟩:=hf
 clear hT h hM nd hln
 go_enter func159,ntmps159
 go_wp2
 go_loopw [7,8] (fun va vb wr=>∃a b:Nat,va=.int .i64 a∧vb=.int .i64 b∧a≤n∧b≤n+20∧a≤b∧b≤a+20∧Hid (L1 w g cap n l c a b wr)) (fun va _ _=>n-(intOf va).toNat)
 case atStart=>exact⟨0,20,rfl,rfl,Nat.zero_le _,by omega,by omega,by omega,H0⟩
 case round =>
  clear H0
  obtain⟨a,b,rfl,rfl,han,hbn,hab,hba,HL⟩:=hrel
  obtain⟨k,D,ea,eb,hSt,hB⟩:=HL.out
  by_cases hle:b≤n
  ·have dle:decide ((b:Int)≤(n:Int))=true:=by rw[decide_eq_true_iff];omega
   have hX:=HI.out D wr hSt a b hab hle
   have HX:=hD0 hX
   obtain⟨b2,hb2⟩:∃b2,b+20=b2:=⟨_,rfl⟩
   have w1:IntKind.i64.wrap ((b:Int)+20)=(b2:Int):=by rw[IntKind.wrap_i64];omega
   have HN:=hD0 (fun w' S (q1:S.length=b-a) (q2:Sd c S) (q3:StI w g cap n l (D.take a++S++D.drop b) w')=>show L1 w g cap n l c b b2 w' from
    ⟨k+1,_,by omega,by omega,q3,Zfx hB ea eb (by rw[←hSt.len];exact hle) (by omega) q2⟩)
   have hb2n:b2≤n+20:=by omega
   have hb2a:b<b2:=by omega
   have hb2b:b2≤b+20:=by omega
   have hab':a<b:=by omega
   clear hX HL ea eb hSt hB hb2
   go_wp2_with fail
   refine HX.out.mono ?_
   rintro e w5 ⟨rfl,S,q1,q2,q3⟩
   have HQ:=hD0 (HN.out w5 S q1 q2 q3)
   clear q1 q2 q3 HX HN
   go_wp2
   go_roundw
   case rel=>exact⟨b,b2,rfl,by go_num,hle,hb2n,by omega,hb2b,HQ⟩
   case measure=>simp[intOf];omega
  ·have dle:decide ((b:Int)≤(n:Int))=false:=by rw[decide_eq_false_iff_not];omega
   have hX:=HI.out D wr hSt a n han (Nat.le_refl _)
   have HX:=hD0 hX
   have HN:=hD0 (fun w' S (q1:S.length=n-a) (q2:Sd c S) (q3:StI w g cap n l (D.take a++S++D.drop n) w')=>show L2 w g cap n l c 20 w' from by
    have hd:D.drop n=[]:=List.drop_of_length_le (by rw[←hSt.len];exact Nat.le_refl _)
    rw[hd,List.append_nil] at q3
    have hl:=hSt.len
    exact⟨_,q3,Zk7 hB ea (by omega) (by omega) (by omega) q2⟩)
   clear hX HL ea eb hSt hB
   go_wp2_with fail
   refine HX.out.mono ?_
   rintro e w5 ⟨rfl,S,q1,q2,q3⟩
   have HQ:=hD0 (HN.out w5 S q1 q2 q3)
   clear q1 q2 q3 HX HN
   go_wp2
   go_loopw [6] (fun vs wr=>∃s:Nat,vs=.int .i64 s∧20≤s∧s≤2000∧Hid (L2 w g cap n l c s wr)) (fun vs _=>2000-(intOf vs).toNat)
   case atStart=>exact⟨20,rfl,Nat.le_refl _,by omega,HQ⟩
   case round =>
    clear HQ
    generalize wr=w6 at *
    obtain⟨s,rfl,hs0,hs1,HL⟩:=hrel
    by_cases hsn:s<n
    ·have dsn:decide ((s:Int)<(n:Int))=true:=by rw[decide_eq_true_iff];omega
     obtain⟨s2,hs2⟩:∃x,x=2*s:=⟨_,rfl⟩
     have w2:IntKind.i64.wrap (2*(s:Int))=(s2:Int):=by rw[IntKind.wrap_i64];omega
     have w3:IntKind.i64.wrap ((s:Int)*2)=(s2:Int):=by rw[IntKind.wrap_i64];omega
     have hs2a:40≤s2:=by omega
     have hs2b:s2≤2000:=by omega
     have hs2c:s<s2:=by omega
     have H3:=hD0 (show L3 w g cap n l c s 0 s2 w6 from by
      obtain⟨D,h1,h2⟩:=HL.out
      exact⟨0,D,by simp,by omega,h1,Zeq h2⟩)
     have HS2:=hD0 hs2
     clear HL hs2
     go_wp2
     go_loopw [7,8] (fun va vb wr=>∃a b:Nat,va=.int .i64 a∧vb=.int .i64 b∧a≤n∧b≤n+s2∧a<b∧Hid (b=a+s2)∧Hid (L3 w g cap n l c s a b wr)) (fun _ vb _=>4000-(intOf vb).toNat)
     case atStart=>exact⟨0,s2,rfl,by go_num,Nat.zero_le _,by omega,by omega,hD0 (by omega),H3⟩
     case round =>
      clear H3
      generalize wr=w7 at *
      obtain⟨a,b,rfl,rfl,han,hbn,hab,HAB,HL⟩:=hrel
      obtain⟨j,D,ea,eb,hSt,hMx⟩:=HL.out
      have eS:=HS2.out
      obtain⟨m,hm⟩:∃m,a+s=m:=⟨_,rfl⟩
      have w4:IntKind.i64.wrap ((a:Int)+(s:Int))=(m:Int):=by rw[Yk a s (by omega) (by omega),hm]
      have m1:=hMx.2 (2*j) (Nat.le_refl _)
      have m2:=hMx.2 (2*j+1) (by omega)
      have ej:2*j*s=a:=by rw[ea,Nat.mul_comm 2 j,Nat.mul_assoc]
      rw[ej] at m1
      rw[Nat.succ_mul,ej,hm] at m2
      by_cases hle:b≤n
      ·have dle:decide ((b:Int)≤(n:Int))=true:=by rw[decide_eq_true_iff];omega
       have HX:=hD0 (HS.out D w7 hSt a m b (by omega) (by omega) hle (by rw[show m-a=s by omega];exact m1) (by rw[show b-m=s by omega];exact m2))
       obtain⟨b2,hb2⟩:∃b2,b+s2=b2:=⟨_,rfl⟩
       have w5:IntKind.i64.wrap ((b:Int)+(s2:Int))=(b2:Int):=by rw[Yk b s2 (by omega) (by omega),hb2]
       have HN:=hD0 (fun w' S (q1:S.length=b-a) (q2:Sd c S) (q3:StI w g cap n l (D.take a++S++D.drop b) w')=>show L3 w g cap n l c s b b2 w' from
        ⟨j+1,_,by rw[Nat.succ_mul];omega,by omega,q3,Zia hMx ea eb (by rw[←hSt.len];exact hle) (by omega) q2⟩)
       have hb2n:b2≤n+s2:=by omega
       have hb2a:b<b2:=by omega
       have HB2:=hD0 hb2.symm
       clear HL ea eb hSt hMx hb2 m1 m2 ej eS hm
       go_wp2_with fail
       refine HX.out.mono ?_
       rintro e w8 ⟨rfl,S,q1,q2,q3⟩
       have HQ:=hD0 (HN.out w8 S q1 q2 q3)
       clear q1 q2 q3 HX HN
       go_wp2
       go_roundw
       case rel=>exact⟨b,b2,rfl,by go_num,hle,hb2n,hb2a,HB2,HQ⟩
       case measure=>simp[intOf];omega
      ·have dle:decide ((b:Int)≤(n:Int))=false:=by rw[decide_eq_false_iff_not];omega
       have hl:=hSt.len
       by_cases hmn:m<n
       ·have dmn:decide ((m:Int)<(n:Int))=true:=by rw[decide_eq_true_iff];omega
        have HX:=hD0 (HS.out D w7 hSt a m n (by omega) hmn (Nat.le_refl _) (by rw[show m-a=s by omega];exact m1) (by
         rw[List.take_of_length_le (by rw[List.length_drop];omega)] at m2 ⊢
         exact m2))
        have HN:=hD0 (fun w' S (q1:S.length=n-a) (q2:Sd c S) (q3:StI w g cap n l (D.take a++S++D.drop n) w')=>show L2 w g cap n l c s2 w' from by
         have hd:D.drop n=[]:=List.drop_of_length_le (by omega)
         rw[hd,List.append_nil] at q3
         rw[eS]
         exact⟨_,q3,Zib hMx ea (by omega) (by omega) (by omega) q2⟩)
        clear HL ea eb hSt hMx m1 m2 ej eS hl hm
        go_wp2_with fail
        refine HX.out.mono ?_
        rintro e w8 ⟨rfl,S,q1,q2,q3⟩
        have HQ:=hD0 (HN.out w8 S q1 q2 q3)
        clear q1 q2 q3 HX HN
        go_wp2
        go_roundw
        case rel=>exact⟨s2,by go_num,by omega,by omega,HQ⟩
        case measure=>simp[intOf];omega
       ·have dmn:decide ((m:Int)<(n:Int))=false:=by rw[decide_eq_false_iff_not];omega
        have HQ:=hD0 (show L2 w g cap n l c s2 w7 from by rw[eS];exact⟨D,hSt,Zi9 hMx ea (by omega)⟩)
        clear HL ea eb hSt hMx m1 m2 ej eS hl hm
        go_wp2
        go_roundw
        case rel=>exact⟨s2,by go_num,by omega,by omega,HQ⟩
        case measure=>simp[intOf];omega
    ·have dsn:decide ((s:Int)<(n:Int))=false:=by rw[decide_eq_false_iff_not];omega
     have HE:=hD0 (show StP w (.slice (some ⟨g,0,none⟩) n cap) l c (.returned (.tuple #[])) w6 from by
      obtain⟨D,h1,h2⟩:=HL.out
      exact⟨rfl,D,h1.row,h1.perm,Ziv h2 (by rw[←h1.len];omega),h1.tch.mono fun i _ e=>by rw[e];rfl⟩)
     clear HL
     go_wp2
     exact bodyPost_end (results_none rfl _ _ _) rfl HE.out
theorem Zgf(f:Value)(c:Int→Int→Int)(M:Int→Prop)(o:Z22 c M)(v:Value)(l:List Int)(w:World)(gi:Nat)(hl:l.length≤1000)(h:IS w v l)(hM:∀x∈l,M x)(nd:l.Nodup)(hf:Z0r w f gi c M)(hgi:∀g,v.ownBlock=some g→g=gi) :
  Calls prog 153 #[v,f] w (StP w v l c):=by
 by_cases h20:l.length≤20
 ·refine(Zf4 f c M v l w gi h20 h hM hf hgi).mono ?_
  rintro e w' ⟨rfl,h1,h2⟩
  exact⟨rfl,_,h1,Z5j c l,Z2n c M (fun x y z=>o.tr x y z) (fun x y=>o.tot x y) l hM nd,h2⟩
 ·rcases h.form with⟨rfl,rfl⟩ | ⟨g,cap,rfl⟩
  ·simp at h20
  ·obtain rfl:=hgi g rfl
   have HS:=hD0 (Zma f c M o g cap l.length l w hl rfl h hM nd hf)
   obtain⟨gf,lb,rfl,_⟩:=hf
   clear h hM nd hgi hl h20
   generalize l.length=n at *
   go_enter func153,ntmps153
   go_wp2_with (go_at_call 159;refine HS.out.mono ?_;rintro e w1 ⟨rfl,hX⟩)
   exact bodyPost_end (results_none rfl _ _ _) rfl ⟨rfl,hX⟩
theorem Zpt{W:Int}{q:List Rq}(h:Ok W q){x y:Int}(h1:tC q x y<0):¬tC q y x<0:=fun h2=>by
 have:=Znh h x y x h1 h2
 unfold tC at this
 rw[Zo] at this
 generalize V7 q x=a at this
 by_cases za:a.md=0<;>simp[za] at this
theorem Zpu{W:Int}{q:List Rq}(h:Ok W q):Z22 (tC q) (fun x=>∃k:Nat,k<q.length∧x=k∧0<(V7 q x).sn) :=
 ⟨fun x y z _ _ _=>Znh h x y z,fun x y hx hy=>Zpv h x y hx hy,fun x y _ _ h1=>Zpt h h1⟩
theorem Z8g{W:Int}{q:List Rq}{wr:World}{f v:Value}{gi:Nat}(hok:Ok W q)(hl:q.length≤1000)(hI:IS wr v (wpl q q.length))(hC:Z0r wr f gi (tC q) (Zhs q))(hgi:∀g,v.ownBlock=some g→g=gi) :
  Calls prog 153 #[v,f] wr fun e w'=>e=.returned (.tuple #[])∧∃T,IS w' v T∧TOk q T∧T.length≤1000∧Z3 (fun k=>v.ownBlock=some k) wr w':=by
 have hm:∀x,x∈wpl q q.length↔∃k:Nat,k<q.length∧x=k∧0<(V7 q x).sn:=fun x=>Z2t q x _
 have hwl:=Z8j q q.length
 obtain⟨gf,lb,rfl,eg,hT⟩:=hC
 refine(Zgf _ (tC q) _ (Zpu hok) v (wpl q q.length) wr gi (by omega) hI (fun x hx=>(hm x).1 hx) (Z1d q _) ⟨gf,lb,rfl,eg,fun x y w1 hx hy=>hT x y w1 (Zjt q x ((hm x).2 hx)) (Zjt q y ((hm y).2 hy))⟩ hgi).mono ?_
 rintro e w' ⟨rfl,D,h1,h2,h3,h4⟩
 exact⟨rfl,D,h1,⟨h3,fun x=>h2.mem_iff.trans (hm x),h2.nodup_iff.2 (Z1d q _)⟩,by rw[h2.length_eq];omega,h4⟩
theorem Zkj{w:World}{g0 p b n:Nat}{t r W:Int}{v:Value}{q:List Rq}{c:Int→Int}(h:Ln w g0 p t r W v b n q c)(hl:q.length≤1000)(hok:Ok W q) :
  Calls prog 143 #[.pointer (some ⟨p,0,none⟩)] w fun e w'=>∃v' T,e=.returned v'∧Nw w w'∧IS w' v' T∧TOk q T∧T.length≤1000∧∀g,v'.ownBlock=some g→w.heap.size≤g:=by
 have hWt:=Z4u
 have HOK:=hD0 hok
 have hB:(w.alloc (.cells #[.pointer (some ⟨p,0,none⟩)] 134)).cell? ⟨w.heap.size,0,none⟩=some (.pointer (some ⟨p,0,none⟩)):=Z0 (j:=0) (Z2 w _)
 have hN1:Nw w (w.alloc (.cells #[.pointer (some ⟨p,0,none⟩)] 134)):=(Nw.refl w).alloc _
 obtain⟨w1,hw1⟩:∃w1,w.alloc (.cells #[.pointer (some ⟨p,0,none⟩)] 134)=w1:=⟨_,rfl⟩
 have hs1:w1.heap.size=w.heap.size+1:=by rw[←hw1];simp
 rw[hw1] at hB hN1
 have hL1:=h.nw hN1
 have HW1:=hD0 hw1
 have HL:=hD0 (aI0 hL1 (aI0 hN1 (aI0 hs1 hB)))
 obtain⟨a0,c0,rfl⟩:=(Z7.rd h.own).form
 have hp0:=Z1 h.obj
 have m20:=Z0 (j:=2) h.obj
 have hpb:=World.block_lt_of_cell? _ _ hB
 have hB0:=hB
 clear h hw1 hL1 hs1 hN1 hok
 go_enter func143,ntmps143
 go_wp2
 rw[HW1.out]
 have HW:=hD0 hWt
 clear hWt hp0 m20 HW1 hpb hB hB0
 go_loopw [3,12] (fun x i wr=>∃(k:Nat),k≤q.length∧i=.int .i64 k∧IS wr x (wpl q k)∧Nw w1 wr∧∀g,x.ownBlock=some g→w1.heap.size≤g) (fun _ i _=>q.length-(intOf i).toNat)
 case atStart=>exact⟨0,Nat.zero_le _,rfl,IS.nil _,Nw.refl _,fun g e=>by simp[Value.ownBlock] at e⟩
 case round =>
  obtain⟨k,hk,rfl,hI,hN,hfr⟩:=hrel
  by_cases Z1:k<q.length
  ·obtain⟨g,cap,e,_,hgl,hce⟩:=Z7.at (onw HL.out.1.own hN) Z1
   simp only[Value.slice.injEq,true_and] at e
   obtain⟨rfl,rfl⟩:=e
   have hki:(k:Int)<(q.length:Int):=by omega
   have hstep:wpl q (k+1)=if 0<(q[k]).sn then wpl q k++[(k:Int)] else wpl q k:=by
    show(if 0<(V7 q k).sn then wpl q k++[(k:Int)] else wpl q k)=_
    rw[Yr q k Z1]
   have HWk:=hD0 (HW.out q[k])
   generalize q[k]=R at *
   obtain⟨b0,b1,b2,b3,b4⟩:=R
   have e0:=hce 0 _ rfl
   have e1:=hce 1 _ rfl
   have e2:=hce 2 _ rfl
   have e3:=hce 3 _ rfl
   have e4:=hce 4 _ rfl
   simp only[Nat.add_zero] at e0
   have g6:Nw wr (wr.alloc (.cells #[.int .i64 b0,.int .i64 b1,.int .i64 b2,.int .i64 b3,.int .i64 b4] 43)):=(Nw.refl wr).alloc _
   unfold rqV at HWk
   simp only at HWk hstep
   obtain⟨w6,hw6⟩:∃w6,wr.alloc (.cells #[.int .i64 b0,.int .i64 b1,.int .i64 b2,.int .i64 b3,.int .i64 b4] 43)=w6:=⟨_,rfl⟩
   have hq6:=RqB.made wr b0 b1 b2 b3 b4 43
   rw[hw6] at g6 hq6
   obtain⟨hlq,y0,y1,y2,y3,y4⟩:=hq6
   have HI:=hD0 (aI0 (hI.nw g6) (aI0 (hN.trans g6) hfr))
   have HW6:=hD0 hw6
   clear hce hI hN hfr g6 hw6
   by_cases hs:0<b4
   ·have ds:decide (0<b4)=true:=by simpa using hs
    rw[ds] at HWk
    rw[if_pos hs] at hstep
    have HS:=hD0 hstep
    clear hs ds hstep
    go_wp2_with fail
    rw[HW6.out]
    go_wp2_with fail
    go_at_call 86
    refine(HWk.out _).mono ?_
    rintro e w7 ⟨rfl,g7⟩
    have hI7:=HI.out.1.nw g7
    obtain⟨v',w8,hr,q1,q2,q3,⟨g',cap',hv'⟩⟩:=IS.push w7 _ (wpl q k) k hI7 (by have:=Z8j q k;omega)
    have HR:=hD0 hr
    have HE:Hid (IS w8 v' (wpl q (k+1))∧Nw w1 w8∧∀g,v'.ownBlock=some g→w1.heap.size≤g):=hD0 ⟨by rw[HS.out];exact q1,Yu (HI.out.2.1.trans g7) q2 (fun i e=>HI.out.2.2 i e),fun g e=>by
     rcases q3 g e with h | h
     ·exact HI.out.2.2 g h
     ·have:=(HI.out.2.1.trans g7).sz;omega⟩
    clear hr q1 q2 q3 hI7 g7 y0 y1 y2 y3 y4 hlq e0 e1 e2 e3 e4 hv'
    go_wp2_with (at_builtin;(refine Z2s (by rfl) (.tmp 19) (.tmp 21) 38 rfl _ _ _ _ rfl rfl HR.out ?_))
    go_roundw
    case rel=>exact⟨k+1,by omega,by go_num,HE.out⟩
    case measure=>simp[intOf];omega
   ·have ds:decide (0<b4)=false:=by simpa using hs
    rw[ds] at HWk
    rw[if_neg hs] at hstep
    have HS:=hD0 hstep
    clear hs ds hstep
    go_wp2_with fail
    rw[HW6.out]
    go_wp2_with fail
    go_at_call 86
    refine(HWk.out _).mono ?_
    rintro e w7 ⟨rfl,g7⟩
    have HE:=hD0 g7
    clear g7 y0 y1 y2 y3 y4 hlq e0 e1 e2 e3 e4
    go_wp2
    go_roundw
    case rel=>exact⟨k+1,by omega,by go_num,by rw[HS.out];exact HI.out.1.nw HE.out,HI.out.2.1.trans HE.out,HI.out.2.2⟩
    case measure=>simp[intOf];omega
  ·obtain rfl:k=q.length:=by omega
   obtain⟨gi,hgi,hge⟩:=Zpe hI hfr
   have hCm:Z0r wr (.func (.func 154) #[] #[.pointer (some ⟨w.heap.size,0,none⟩)]) gi (tC q) (Zhs q) :=
    ⟨_,_,rfl,Zgo,fun x y w2 hx hy hT=>by
     have hN2:=Yu hN hT (fun i e=>by subst e;exact hge)
     exact Zki (HL.out.1.nw hN2) w.heap.size (hN2.kp HL.out.2.2.2) x y hx hy⟩
   have HS:=hD0 (Z8g HOK.out hl hI hCm hgi)
   have HE:=hD0 (aI0 hN hfr)
   clear hI hN hfr hgi hge hCm
   go_wp2_with (go_at_call 153;refine HS.out.mono ?_;rintro e w9 ⟨rfl,T9,hI9,hO9,hL9,hT9⟩)
   go_ret
   exact⟨_,T9,rfl,HL.out.2.1.trans (Yu HE.out.1 hT9 (fun i e=>HE.out.2 i e)),hI9,hO9,hL9,fun g e=>by have:=HE.out.2 g e;have:=HL.out.2.2.1;omega⟩
section
open Go.RowKit Go.Shelf Go.Maps Go.ChangeMaps
attribute [local go_sem] Oper.semAt_some
theorem Zbi(m:Nat)(hm:1≤m)(g0 p b n:Nat)(t r W:Int)(v:Value)(q:List Rq)(w:World)(h:Ln w g0 p t r W v b n q (Zk q))(hok:Ok W q)(hl:q.length≤1000)(hn:n≤2000) :
  Zaz Fence.wide m prog 118 #[.pointer (some ⟨p,0,none⟩)] #[] (Zc q).1 (SL p b v) (Zdp g0 p t r W v b (Zc q).2) w:=by
 intro L J Jx W0 hW hJ hJx hY h0
 have hL0:=h.nw hW
 have HTu:=hD0 (Zkj hL0 hl hok)
 have HJ:=hD0 hJ
 have HY:=hD0 hY
 have H00:=hD0 (aI0 h0 (aI0 hL0 hok))
 clear h hW hJ hJx hY h0 hL0 hok
 refine callsIn_of_wp func118 rfl trivial ?_ rfl
 simp only[ntmps118,List.size_toArray,List.length_cons,List.length_nil,Nat.reduceAdd,Nat.reduceSub,Array.replicate_succ,Array.replicate_zero,List.push_toArray,List.append_toArray,List.nil_append,List.cons_append]
 gi_wp2_with fail
 refine⟨trivial,(callsIn_wide.2 HTu.out).mono ?_⟩
 rintro e w1 ⟨vt,T,rfl,g1,hIT,hTk,hTl,hfT⟩
 have H0:=hD0 (aI0 H00.out.1 (aI0 H00.out.2.1 (aI0 H00.out.2.2 hTk)))
 clear hTk H00
 obtain⟨S,hS⟩:∃S:Nat→Prop,(fun k=>SL p b v k∨(W0.heap.size≤k∧k<w1.heap.size))=S:=⟨_,rfl⟩
 have hSL:∀k,SL p b v k→S k:=fun k e=>by rw[←hS];exact .inl e
 have hST:∀g,vt.ownBlock=some g→S g:=fun g e=>by rw[←hS];exact .inr ⟨hfT g e,hIT.lt e⟩
 have hbd1:∀k,S k→k<w1.heap.size:=fun k e=>by
  rw[←hS] at e
  rcases e with e | e
  ·exact lL0 (H0.out.2.1.bound k e) g1.sz
  ·exact e.2
 have hG0:GrI J S g0 p t r W v b n q T vt 0 [] q w1 :=
  ⟨HJ.out (SL p b v) S [] W0 w1 H0.out.1 (Z3.nw g1) hSL (fun k e=>by rw[←hS] at e;rcases e with e | e;exact .inl e;exact .inr e.1) hbd1,hbd1,hIT,.refl,Zjm H0.out.2.2.2,n,by omega,H0.out.2.1.nw g1⟩
 have HG:=hD0 hG0
 have HS:=hD0 (aI0 hSL hST)
 obtain⟨at1,ct,hvt,_⟩:=hIT.box
 subst hvt
 clear hG0 hSL hST hbd1 hS g1 hIT hfT HTu
 gi_wp2
 gi_loopw [10] (fun x wr=>∃(i:Nat) (pre:List Int) (q':List Rq),x=.int .i64 i∧i≤T.length∧Hid (GrI J S g0 p t r W v b n q T (.slice at1 T.length ct) i pre q' wr)) (fun x _=>T.length-(intOf x).toNat)
 case atStart=>exact⟨0,[],q,rfl,Nat.zero_le _,HG⟩
 case round =>
  obtain⟨i,pre,q',rfl,hi,HR⟩:=hrel
  by_cases Z1:i<T.length
  ·obtain⟨k,eT,hk,hqk,hsn,hfy,hfn⟩:=Zfg H0.out.2.2.1 HR.out.st H0.out.2.2.2 HR.out.ti Z1
   obtain⟨n',hn',hLn⟩:=HR.out.ln
   have hlen:=Z1b HR.out.st H0.out.2.2.1
   have okq:=HR.out.st.ok H0.out.2.2.1
   obtain⟨g,cap,hv,hg0,hgl,hce⟩:=Z7.at hLn.own hk
   subst hv
   obtain⟨ao,c2,hvv,hbx⟩:=HR.out.row.box
   obtain⟨gt,rfl,_⟩:=hbx (by omega)
   simp only[Value.slice.injEq,true_and] at hvv
   obtain⟨rfl,rfl⟩:=hvv
   have hTc:=HR.out.row.cell i Z1
   rw[show T.getD i 0=(k:Int)by rw[←eT];simp[List.getD,Z1]] at hTc
   have hTl2:=HR.out.row.glt
   have hii:(i:Int)<(T.length:Int):=by omega
   have hkk:(k:Int)<(q'.length:Int):=by omega
   have hpl:=Z9g hLn.obj
   have m2:=Z0 (j:=2) hLn.obj
   have hrt:=okq.rt _ (gM0 hk)
   have hcb:=Z28 q'
   have hql:q'.length≤1000:=by omega
   have hts:=fun hc=>Zfh H0.out.2.2.1 HR.out.st H0.out.2.2.2 HR.out.ti Z1 eT hk hc
   have hgr:=fun(w7:World) (hN:Nw wr w7)=>Zgd (hLn.nw hN) k hk hrt.md hrt.wt (fun y=>by have:=hcb y;omega) (by omega) hql
   have hcs:=Z4q q' k hk (U9 q'[k])
   generalize hR:q'[k]=R at *
   obtain⟨b0,b1,b2,b3,b4⟩:=R
   have e0:=hce 0 _ rfl
   have e1:=hce 1 _ rfl
   have e2:=hce 2 _ rfl
   have e3:=hce 3 _ rfl
   have e4:=hce 4 _ rfl
   simp only[Nat.add_zero] at e0
   simp only at hrt hfy hfn hts hgr hcs hsn
   have g6:Nw wr (wr.alloc (.cells #[.int .i64 b0,.int .i64 b1,.int .i64 b2,.int .i64 b3,.int .i64 b4] 43)):=(Nw.refl wr).alloc _
   have hq6:=RqB.made wr b0 b1 b2 b3 b4 43
   obtain⟨w6,hw6⟩:∃w6,wr.alloc (.cells #[.int .i64 b0,.int .i64 b1,.int .i64 b2,.int .i64 b3,.int .i64 b4] 43)=w6:=⟨_,rfl⟩
   rw[hw6] at g6 hq6
   have hF:=Zn4 p b n' (Zk q') b2 b3 _ _ _ _ _ w6 (hLn.nw g6).obj (hLn.nw g6).map (fun y=>by have:=hcb y;omega) hrt.wt
   obtain⟨hlq,y0,y1,y2,y3,y4⟩:=hq6
   obtain⟨B,hB⟩:∃B,Z0x (Zk q') b2 b3=B:=⟨_,rfl⟩
   rw[hB] at hF hfy hfn
   have HW6:=hD0 hw6
   have HF:=hD0 hF
   have HGr:=hD0 hgr
   have HTs:=hD0 (aI0 hts (aI0 hcs (aI0 hn' g6)))
   have HY0:=hD0 (aI0 y0 (aI0 hlq (aI0 hLn.map.lt hgl)))
   cases B
   ·have hd:=hfn rfl
    have hsc:=HR.out.st.scan H0.out.2.2.1 hd
    have HSc:=hD0 hsc
    clear hce hrt hfy hfn hts hgr hcs hR hF hB hw6 hLn hlen okq hcb hd hsc eT hqk hsn
    gi_wp2_with fail
    rw[HW6.out]
    gi_wp2_with fail
    refine⟨trivial,(callsIn_wide.2 HF.out).mono ?_⟩
    rintro e w7 ⟨rfl,g7⟩
    have HE:Hid ((∃S,J S (Zc q).1 w7∧Zdp g0 p t r W (.slice (some ⟨g,0,none⟩) q'.length cap) b (Zc q).2 w7)∨∃S pre,pre <+: (Zc q).1∧Jx S pre w7):=hD0 (by
     rw[HSc.out]
     have hN:=HTs.out.2.2.2.trans g7
     obtain⟨n'',_,hl2⟩:=HR.out.ln
     exact .inl ⟨S,HJ.out S S pre wr w7 HR.out.j (Z3.nw hN) (fun _ e=>e) (fun _ e=>.inl e) (fun k e=>lL0 (HR.out.bd k e) hN.sz),n'',hl2.nw hN⟩)
    clear g7 y0 y1 y2 y3 y4 hlq
    gi_wp2
    refine bodyPost_ret (results_none rfl _ _ _) rfl ?_
    exact⟨⟨_,rfl⟩,HE.out⟩
   ·have hst2:=hts (hfy rfl)
    have HSt:=hD0 hst2
    have HC:=hD0 hcs
    clear hce hrt hfy hfn hts hgr hcs hR hF hB hw6 hLn hlen okq hcb eT hqk hsn hst2
    gi_wp2_with fail
    rw[HW6.out]
    gi_wp2_with fail
    refine⟨trivial,(callsIn_wide.2 HF.out).mono ?_⟩
    rintro e w7 ⟨rfl,g7⟩
    have HG7:=hD0 (HTs.out.2.2.2.trans g7)
    have HK7:=hD0 g7
    clear g7 y0 y1 y2 y3 y4 hlq
    gi_wp2_with fail
    refine⟨trivial,(callsIn_wide.2 (HGr.out w7 HG7.out)).mono ?_⟩
    rintro e w8 ⟨rfl,hL8,hT8⟩
    have hbxl:wr.heap.size<w7.heap.size:=lL0 HY0.out.2.1 HK7.out.sz
    have z0:w8.cell? ⟨wr.heap.size,0,none⟩=some (.int .i64 b0):=(hT8.cell hbxl (fun e=>by have:=HY0.out.2.2;omega)).trans (HK7.out.kp HY0.out.1)
    have hz0:=World.block_lt_of_cell? _ _ z0
    have hTS:Z3 S wr w8:=(Z3.nw HG7.out).trans' hT8 (fun i _ e=>by
     rcases e with rfl | rfl
     ·exact HS.out.1 _ (.inr (.inl rfl))
     ·exact HS.out.1 _ (.inr (.inr rfl)))
    have hbd8:∀k,S k→k<w8.heap.size:=fun k e=>lL0 (HR.out.bd k e) hTS.size
    have hJ8:J S pre w8:=HJ.out S S pre wr w8 HR.out.j hTS (fun _ e=>e) (fun _ e=>.inl e) hbd8
    have hpre:=Zf5 HSt.out.1 H0.out.2.2.1
    obtain⟨fn,tmps,assign,body,hy,hRd⟩:=HY.out S pre b0 w8 hJ8 HS.out.1 hbd8 hpre
    have hI8:IS w8 (.slice (some ⟨gt,0,none⟩) T.length ct) T:=(HR.out.row.nw HG7.out).tch hT8 (fun g' e q1=>by
     have hg':=HS.out.2 g' e
     have e1:=Option.some.inj e
     subst e1
     rcases q1 with q1 | q1
     ·obtain⟨es,cl,ob⟩:=(HR.out.ln.choose_spec.2).map.obj
      rcases HR.out.row.2 with⟨h',_⟩ | ⟨g2,cap2,cur,h',_,hg2,_⟩
      ·simp at h'
      ·simp only[Value.slice.injEq,Option.some.injEq,Addr.mk.injEq,and_true,true_and] at h'
       obtain⟨rfl,rfl⟩:=h'
       simp only at q1
       rw[q1,ob] at hg2;cases hg2
     ·obtain⟨cs,hc⟩:=Z6r (HR.out.ln.choose_spec.2).own (g:=g) rfl
      rcases HR.out.row.2 with⟨h',_⟩ | ⟨g2,cap2,cur,h',_,hg2,_⟩
      ·simp at h'
      ·simp only[Value.slice.injEq,Option.some.injEq,Addr.mk.injEq,and_true,true_and] at h'
       obtain⟨rfl,rfl⟩:=h'
       simp only at q1
       rw[q1,hc] at hg2
       injection hg2 with hg2
       injection hg2 with _ hg2
       exact absurd hg2 Zez)
    have HN8:=hD0 (aI0 hI8 (aI0 hL8 (aI0 hbd8 hpre)))
    clear hL8 hT8 hTS hbd8 hJ8 hpre hI8
    gi_wp2
    refine hRd.mono ?_
    rintro e w9 (⟨rfl,j2,k2⟩ | ⟨rfl,jx2,_⟩)
    ·have H2:Hid (GrI J S g0 p t r W (.slice (some ⟨g,0,none⟩) q'.length cap) b n q T (.slice (some ⟨gt,0,none⟩) T.length ct) (i+1) (pre++[b0]) (q'.set k (U9 ⟨b0,b1,b2,b3,b4⟩)) w9):=hD0
      ⟨j2,fun k e=>lL0 (HN8.out.2.2.1 k e) k2.size,HN8.out.1.kps k2 HS.out.2,HSt.out.1,HSt.out.2,n'+2,by have:=HTs.out.2.2.1;omega,(HN8.out.2.1.eq HC.out.symm).kps k2 HS.out.1⟩
     clear j2 k2 hy hRd
     gi_wp2
     go_roundw
     case rel=>exact⟨i+1,_,_,by go_num,by omega,H2⟩
     case measure=>simp[intOf];omega
    ·have H2:=hD0 jx2
     clear jx2 hy hRd
     gi_wp2
     refine bodyPost_ret (results_none rfl _ _ _) rfl ?_
     exact⟨⟨_,rfl⟩,.inr ⟨S,pre++[b0],HN8.out.2.2.2,H2.out⟩⟩
  ·have hd:=Zjn H0.out.2.2.1 HR.out.st HR.out.ti Z1
   have hsc:=HR.out.st.scan H0.out.2.2.1 hd
   have HE:Hid ((∃S,J S (Zc q).1 wr∧Zdp g0 p t r W v b (Zc q).2 wr)∨∃S pre,pre <+: (Zc q).1∧Jx S pre wr):=hD0 (by
    rw[hsc]
    obtain⟨n'',_,hl2⟩:=HR.out.ln
    exact .inl ⟨S,HR.out.j,n'',hl2⟩)
   obtain rfl:i=T.length:=by omega
   clear hd hsc
   gi_wp2
   refine bodyPost_end (results_none rfl _ _ _) rfl ?_
   exact⟨⟨_,rfl⟩,HE.out⟩
theorem Zo3(t r W:Int)(v:Value)(q:List Rq)(w:World)(hl:q.length≤1000)(hok:Ok W q)(h:Zu w v q) :
  Calls prog 85 #[Un t r v W] w fun e w'=>∃v' vi,e=.returned (.tuple #[Un t r v' W,vi])∧Nw w w'∧Zu w' v' (Zc q).2∧Z3e v'∧IS w' vi (Zc q).1∧Zx w v' (Zc q).2∧∀g,vi.ownBlock=some g→w.heap.size≤g:=by
 have HLi:=hD0 (fun(w1:World) (g:Nw w w1)=>Z7o t r W v q w1 hl (fun R hR=>(hok.rt R hR).md) (h.nw g))
 obtain⟨a,c,rfl⟩:=h.form
 unfold Un at HLi ⊢
 obtain⟨hx1,hx2,hx3,hx4⟩:=Y6 w (.cells #[.int .i64 t,.int .i64 r,.slice a q.length c,.int .i64 W] 83) (.cells #[.int .i64 0,.int .i64 0,.slice none 0 0,.int .i64 0] 83)
 obtain⟨w1,hw1⟩:∃w1,(w.alloc (.cells #[.int .i64 t,.int .i64 r,.slice a q.length c,.int .i64 W] 83)).alloc (.cells #[.int .i64 0,.int .i64 0,.slice none 0 0,.int .i64 0] 83)=w1:=⟨_,rfl⟩
 rw[hw1] at hx2 hx3
 have HX:=hD0 (aI0 hx2 hx3)
 have HW1:=hD0 hw1
 clear hx1 hx2 hx3 hx4 h hw1
 go_enter func85,ntmps85
 go_wp2_with fail
 rw[HW1.out]
 go_at_call 81
 refine(HLi.out _ HX.out.2).mono ?_
 rintro e w2 ⟨p,v1,b,n,rfl,g2,hL2,hnq⟩
 have hq2:=g2.at' HX.out.1
 have HQ:=hD0 (aI0 hq2 (aI0 (HX.out.2.trans g2) (aI0 hL2 (Z1 HX.out.1))))
 have hsl:=hL2.bound
 have hls:(Zc q).1.length≤100000:=by
  have hw:=(U7 hok).1.wtg hok
  have:wtg q≤q.length:=List.countP_le_length
  omega
 have hC:=Z8v _ #[.pointer (some ⟨p,0,none⟩)] #[] Zgn (Zc q).1 (SL p b v1) (Zdp w1.heap.size p t r W v1 b (Zc q).2) w2 hls hsl (Zbi 4 (by omega) w1.heap.size p b n t r W v1 q w2 hL2 hok hl (by omega)) (fun A l o o' h1 _ _ h2=>Zgs hsl A l o o' h1 h2)
 have HC:=hD0 hC
 have HSL:=hD0 (aI0 hsl (fun k (e:SL p b v1 k)=>show w1.heap.size≤k by
  rcases e with rfl | rfl | e
  ·exact hL2.gp
  ·exact hL2.gb
  ·exact oge hL2.own e))
 clear hq2 g2 hL2 hsl hls hC HLi HX
 go_wp2_with fail
 go_at_call 117
 refine HC.out.mono ?_
 rintro e w3 ⟨vi,rfl,hIi,hif,⟨n3,hL3⟩,hT3⟩
 have hq3:=(hT3.block (w.heap.size+1) (Z1 HQ.out.1) (fun e=>by have:=HSL.out.2 _ e;have:=HQ.out.2.2.2;omega)).trans HQ.out.1
 have hN3:Nw w w3:=Yu HQ.out.2.1 hT3 (fun k e=>by have:=HSL.out.2 k e;have:=HQ.out.2.2.2;omega)
 obtain⟨a2,k2,hv2⟩:=(Z7.rd hL3.own).form
 obtain⟨n2,hn2⟩:∃n,(Zc q).2.length=n:=⟨_,rfl⟩
 rw[hn2] at hv2
 subst hv2
 obtain⟨ai,ci,hvi,_⟩:=hIi.box
 obtain⟨ni,hni⟩:∃n,(Zc q).1.length=n:=⟨_,rfl⟩
 rw[hni] at hvi
 subst hvi
 have HE:=hD0 (aI0 hN3 (aI0 hL3 (aI0 hIi (aI0 hif HQ.out.2.2.2))))
 have hpl:=Z1 hL3.obj
 have e0:=Z0 (j:=0) hL3.obj
 have e1:=Z0 (j:=1) hL3.obj
 have e2:=Z0 (j:=2) hL3.obj
 have e3:=Z0 (j:=3) hL3.obj
 have d0:=Z0 (j:=0) hq3
 have d1:=Z0 (j:=1) hq3
 have d2:=Z0 (j:=2) hq3
 have d3:=Z0 (j:=3) hq3
 have fz:=fun k=>hfz (j:=k) hq3
 have hsl2:=Z1 hq3
 have HS2:=hD0 (Z1 HQ.out.1)
 have HQF:Hid (w.heap.size≤w1.heap.size):=hD0 (by have:=HQ.out.2.2.2;omega)
 clear hL3 hT3 hN3 hq3 hIi hif hn2 hni HC HSL HQ
 go_wp2
 exact bodyPost_ret (v:=.tuple #[.agg #[.int .i64 t,.int .i64 r,.slice a2 n2 k2,.int .i64 W],.slice ai ni ci]) (by simp only[results,results85];simp[go_sem, *]) rfl ⟨_,_,rfl,Zh HE.out.1 (Nat.le_succ _) _ _ _ _,(HE.out.2.1.done HE.out.2.2.2.2 _ _ _ _).1,HE.out.2.1.own.cap,Zli HE.out.2.2.1 (fun g e=>by have:=HE.out.2.2.2.1 g e;have:=HS2.out;omega) _ _ _ _,HE.out.2.1.own.fresh HQF.out,fun g e=>by have:=HE.out.2.2.2.1 g e;have:=HS2.out;omega⟩
end
open Go.Shelf
theorem Zos:(prog.info? 98).isSome=true:=by kernel_rfl
theorem Zdw(a:Addr)(w:World):Sem.run prog (binOp .eql 70 (.pointer (some a)) (.pointer (some a))) w=.ok (.bool true) w:=by
 obtain⟨j,hj⟩:=Option.isSome_iff_exists.1 Zos
 exact run_eql_ptr_same w a underlying70 hj
theorem Yw(o:Nat)(w:World)(h:w.cell? ⟨o,0,none⟩=some (.pointer (some ⟨o,0,none⟩))):Calls prog 51 #[.pointer (some ⟨o,0,none⟩)] w fun e w'=>e=.returned (.bool true)∧w=w':=by
 have he:=Zdw
 go_enter func51,ntmps51
 go_wp2
 go_ret
 exact⟨rfl,rfl⟩
theorem Z67(w:World):Calls prog 51 #[.pointer none] w fun e w'=>e=.returned (.bool false)∧w=w':=by
 go_enter func51,ntmps51
 go_wp2
 go_ret
 exact⟨rfl,rfl⟩
theorem Z2r{w:World}{o mb po n:Nat}{l:List Hp}{L:List Bool}{F:Nat→Prop}(h:Db w o mb po n l L F)(id:Int) :
  Calls prog 57 #[.pointer (some ⟨o,0,none⟩),.int .i64 id] w fun e w'=>e=.returned (hpH (Zb l id))∧Nw w w':=callsIn_wide.1 (Zmr 4 (by omega) h id)
def atP(l:List Hp)(a:Int × Int):Hp:=(Uj l a).getD ⟨⟨a.1,a.2,0,[]⟩,0,none,0⟩
theorem Zfs{w:World}{o mb po n:Nat}{l:List Hp}{L:List Bool}{F:Nat→Prop}(h:Db w o mb po n l L F)(t r:Int)(wa:wfN (t,r)) :
  Calls prog 52 #[.pointer (some ⟨o,0,none⟩),.agg #[.int .i64 t,.int .i64 r]] w fun e w'=>e=.returned (hpH (atP l (t,r)))∧Nw w w':=by
 have H:=hD0 h
 have hol:=h.ol
 obtain⟨w1,hw1⟩:∃w1,(w.alloc (.cells #[.int .i64 t,.int .i64 r] 33)).alloc (.cells #[.int .i64 0,.int .i64 0,.slice none 0 0,.int .i64 0] 83)=w1:=⟨_,rfl⟩
 have g1:Nw w w1:=by rw[←hw1];exact((Nw.refl w).alloc _).alloc _
 have b0:w1.heap[w.heap.size]?=some (.cells #[.int .i64 t,.int .i64 r] 33 (0,0)):=by
  rw[←hw1];exact((Nw.refl _).alloc _).at' (Z2 w _)
 have b1:w1.heap[w.heap.size+1]?=some (.cells #[.int .i64 0,.int .i64 0,.slice none 0 0,.int .i64 0] 83 (0,0)):=by
  rw[←hw1]
  have:=Z2 (w.alloc (.cells #[.int .i64 t,.int .i64 r] 33)) (.cells #[.int .i64 0,.int .i64 0,.slice none 0 0,.int .i64 0] 83)
  rwa [World.size_alloc] at this
 have HG:=hD0 (aI0 g1 (aI0 b0 b1))
 have H1:=hD0 hw1
 clear h hw1
 go_enter func52,ntmps52
 go_wp2_with fail
 rw[H1.out]
 have n0:=Z0 (j:=0) b0
 have n1:=Z0 (j:=1) b0
 have c3:=g1.kp H.out.c3
 have hD:Nw w w1.drew:=g1.dr
 cases hg:Uj l (t,r) with
 | some x =>
  obtain⟨hx,hnx⟩:=Yi hg
  have hlk:=fun(d:Wd (fun y=>y=w1.drew))=>((H.out.nw (show Nw w d.w by rw[d.h];exact hD)).map).look_yes wa hg
  have d0:∀d:Wd (fun y=>y=w1.drew),d.w.cell? ⟨w.heap.size,0,none⟩=some (.int .i64 t):=fun d=>by rw[d.h];exact n0
  have d1:∀d:Wd (fun y=>y=w1.drew),d.w.cell? ⟨w.heap.size,1,none⟩=some (.int .i64 r):=fun d=>by rw[d.h];exact n1
  have d3:∀d:Wd (fun y=>y=w1.drew),d.w.cell? ⟨o,3,none⟩=some (.map (some mb)):=fun d=>by rw[d.h];exact c3
  have hne:Nonempty (Wd (fun y=>y=w1.drew)):=⟨⟨_,rfl⟩⟩
  have hok:=(H.out.nw hD).ok x hx
  have HA:=hD0 (show atP l (t,r)=x by unfold atP;rw[hg];rfl)
  obtain⟨⟨xt,xr,xW,xq⟩,xp,xa,xc⟩:=x
  have c0:=hok.c0
  have c1:=hok.c1
  have c2:=hok.c2
  have c4:=hok.c3
  have hxl:=hok.lt
  obtain⟨ql,hql⟩:∃ql,xq.length=ql:=⟨_,rfl⟩
  simp only at c0 c1 c2 c4 hxl
  rw[hql] at c2
  have HQ:=hD0 hql
  unfold nmV at hlk
  simp only at hlk
  clear hx hnx hg hok hql b0 n0 n1 c3
  refine Yy (fun y=>y=w1.drew) (by kernel_rfl) (by kernel_rfl) rfl ?_
  repeat (first | go_big_quiet_step (fail) | quiet_step (fail))
  refine wpQuiet_nil ?_
  intro d
  rw[d.h]
  clear d hlk d0 d1 d3 hne
  have r0:=Z0 (j:=0) b1
  have r1:=Z0 (j:=1) b1
  have r2:=Z0 (j:=2) b1
  have r3:=Z0 (j:=3) b1
  have rz:=fun j=>hfz (j:=j) b1
  have rl:=Z1 b1
  clear b1
  have hy:∀b j,w1.drew.cell? ⟨b,j,none⟩=w1.cell? ⟨b,j,none⟩:=fun _ _=>rfl
  rw[hy] at c0 c1 c2 c4
  clear hy
  go_wp2
  rw[HA.out]
  refine bodyPost_ret (v:=.agg #[.int .i64 xt,.int .i64 xr,.slice xa ql xc,.int .i64 xW]) (by simp[results,results52,go_sem, *]) rfl ?_
  refine⟨by unfold hpH;rw[HQ.out],?_⟩
  exact(((HG.out.1.dr.st (p:=⟨w.heap.size+1,0,none⟩) (Nat.le_succ _) _).st (p:=⟨w.heap.size+1,1,none⟩) (Nat.le_succ _) _).st (p:=⟨w.heap.size+1,2,none⟩) (Nat.le_succ _) _).st (p:=⟨w.heap.size+1,3,none⟩) (Nat.le_succ _) _
 | none =>
  have hlk:=fun(d:Wd (fun y=>y=w1.drew))=>((H.out.nw (show Nw w d.w by rw[d.h];exact hD)).map).look_no wa hg
  have d0:∀d:Wd (fun y=>y=w1.drew),d.w.cell? ⟨w.heap.size,0,none⟩=some (.int .i64 t):=fun d=>by rw[d.h];exact n0
  have d1:∀d:Wd (fun y=>y=w1.drew),d.w.cell? ⟨w.heap.size,1,none⟩=some (.int .i64 r):=fun d=>by rw[d.h];exact n1
  have d3:∀d:Wd (fun y=>y=w1.drew),d.w.cell? ⟨o,3,none⟩=some (.map (some mb)):=fun d=>by rw[d.h];exact c3
  have hne:Nonempty (Wd (fun y=>y=w1.drew)):=⟨⟨_,rfl⟩⟩
  have HA:=hD0 (show hpH (atP l (t,r))=.agg #[.int .i64 t,.int .i64 r,.slice none 0 0,.int .i64 0] by unfold atP;rw[hg];rfl)
  unfold nmV at hlk
  simp only at hlk
  clear hg c3
  refine Yy (fun y=>y=w1.drew) (by kernel_rfl) (by kernel_rfl) rfl ?_
  repeat (first | go_big_quiet_step (fail) | quiet_step (fail))
  refine wpQuiet_nil ?_
  intro d
  rw[d.h]
  clear d hlk d0 d1 d3 hne
  have r0:=Z0 (j:=0) b1
  have r1:=Z0 (j:=1) b1
  have r2:=Z0 (j:=2) b1
  have r3:=Z0 (j:=3) b1
  have rz:=fun j=>hfz (j:=j) b1
  have rl:=Z1 b1
  have rl0:=Z1 b0
  clear b1 b0
  go_wp2
  rw[HA.out]
  refine bodyPost_ret (v:=.agg #[.int .i64 t,.int .i64 r,.slice none 0 0,.int .i64 0]) (by simp[results,results52,go_sem, *]) rfl ?_
  refine⟨rfl,?_⟩
  exact(((HG.out.1.dr.st (p:=⟨w.heap.size+1,0,none⟩) (Nat.le_succ _) _).st (p:=⟨w.heap.size+1,1,none⟩) (Nat.le_succ _) _).st (p:=⟨w.heap.size+1,2,none⟩) (Nat.le_succ _) _).st (p:=⟨w.heap.size+1,3,none⟩) (Nat.le_succ _) _
structure ScI(w:World)(t r W:Int)(a1:Option Addr)(n1 k1:Nat)(g0 pb rb:Nat)(q:List Rq)(u:Value)(ids:List Int)(q':List Rq)(x:World):Prop where
 isr:IS x u ids
 new:∀g,u.ownBlock=some g→w.heap.size≤g
 own:Z7 x g0 (.slice a1 n1 k1) q'
 len:q'.length=n1
 st:Steps q ids q'
 pb:x.heap[pb]?=some (.cells #[.int .i64 t,.int .i64 r,.slice a1 n1 k1,.int .i64 W] 83 (0,0))
 rb:x.heap[rb]?=some (.cells #[.int .i64 0,.int .i64 0,.slice none 0 0,.int .i64 0] 83 (0,0))
 nw:Nw w x
theorem Z5d{P:Program}{w:World}{ops:Array Oper}{rest:List Oper}{o:Oper}{a:Act}{Q:Exit→Act→World→Prop}
  (hg:o.guard=none) (m x u:Operand) (t:TypeId) (hop:o.op=Op.mapUpdate t m x u) (M K V:Value) (w':World) (hm:a.eval m=M) (hx:a.eval x=K) (hu:a.eval u=V)
  (hr:(Instr.mapUpdate t M K V).run P w=.ok () w') (h:wpList P ops Q rest (a.put o.dst undef) w'):wpList P ops Q (o::rest) a w:=by
 refine wpList_plain hg fun K' hK'=>?_
 unfold Oper.wp
 simp[execOp,hop,hm,hx,hu,hr,Result.andThen]
 exact hK' _ _ h
theorem Z5c{P:Program}{w:World}{ops:Array Oper}{rest:List Oper}{o:Oper}{a:Act}{Q:Exit→Act→World→Prop}
  (hg:o.guard=none) (m x:Operand) (t k:TypeId) (hop:o.op=Op.call { callee:=Callee.builtin Builtin.delete,args:=#[m,x],argTypes:=#[t,k] }) (M K:Value) (w':World) (hm:a.eval m=M) (hx:a.eval x=K)
  (hr:(Builtin.delete_ #[t,k] o.type #[M,K]).run P w=.ok (.tuple #[]) w') (h:wpList P ops Q rest (a.put o.dst (.tuple #[])) w'):wpList P ops Q (o::rest) a w:=by
 refine wpList_plain hg fun K' hK'=>?_
 unfold Oper.wp
 simp[execOp,hop,resolve,invoke,builtin,hm,hx,hr,Result.andThen]
 exact hK' _ _ h
theorem Db.put{w w3 w4:World}{o mb po n:Nat}{l:List Hp}{L:List Bool}{F:Nat→Prop}(h:Db w o mb po n l L F)(g:Nw w w3)(t:w3.mapTurned w4 mb)(x:Hp)(hm:Zl w4 mb (Zew l x))(hx:Z3p w3 F x)(hl:(Zz (Z6 l) x.h).length≤64)(hxn:∀b,(b=x.p∨∃a,x.a=some a∧x.h.q≠[]∧b=a.block)→w.heap.size≤b):V9 w o mb po n F l w4 (Z56 l x) L:=by
 have h3:=h.nw g
 have tt:=Vg t
 have hol:=h3.ol
 have hmn:∀k,F k→k≠mb:=fun k e q=>h.mf (q▸e)
 refine⟨F,⟨(tt.cell hol h.omb).trans h3.c0,(tt.cell hol h.omb).trans h3.c1,(tt.cell hol h.omb).trans h3.c2,(tt.cell hol h.omb).trans h3.c3,lL0 hol tt.size,h.nf,h.mf,hm.perm (Z58 h.srt x),Zlh h.srt x,fun y hy=>?_,h3.pol.tch tt hmn,?_⟩,fun _ e=>.inl e,(Z3.nw g).trans' tt (fun i _ e=>.inl e),fun b ⟨y,hy,e⟩=>(Zd5 h.srt hy).elim (fun q=>.inr (hxn b (q▸e))) (fun q=>.inl ⟨y,q,e⟩)⟩
 ·have key:Z3p w3 F y:=by
   rcases Zd5 h.srt hy with rfl | q
   ·exact hx
   ·exact h3.ok y q
  exact key.step tt (h3.map.cellne key.c0) (fun b e hq=>key.qne h3.map b e hq) (fun _ e=>.inl e)
 ·have:=congrArg List.length (Zd4 l x)
  rw[List.length_map] at this
  omega
theorem Db.del{w w3 w4:World}{o mb po n:Nat}{l:List Hp}{L:List Bool}{F:Nat→Prop}(h:Db w o mb po n l L F)(g:Nw w w3)(t:w3.mapTurned w4 mb)(a:Int × Int)(hm:Zl w4 mb (Z3t l a)):V9 w o mb po n F l w4 (Z3t l a) L:=by
 have h3:=h.nw g
 have tt:=Vg t
 have hol:=h3.ol
 have hmn:∀k,F k→k≠mb:=fun k e q=>h.mf (q▸e)
 refine⟨F,⟨(tt.cell hol h.omb).trans h3.c0,(tt.cell hol h.omb).trans h3.c1,(tt.cell hol h.omb).trans h3.c2,(tt.cell hol h.omb).trans h3.c3,lL0 hol tt.size,h.nf,h.mf,hm,Zkk h.srt a,fun y hy=>?_,h3.pol.tch tt hmn,?_⟩,fun _ e=>.inl e,(Z3.nw g).trans' tt (fun i _ e=>.inl e),fun b ⟨y,hy,e⟩=>.inl ⟨y,(List.mem_filter.1 hy).1,e⟩⟩
 ·have key:Z3p w3 F y:=h3.ok y (List.mem_filter.1 hy).1
  exact key.step tt (h3.map.cellne key.c0) (fun b e hq=>key.qne h3.map b e hq) (fun _ e=>.inl e)
 ·exact Nat.le_trans (List.length_filter_le _ _) h.len
theorem Z7g{w:World}{B:Nat}{T:TypeId}{fr:Nat × Nat}{a0 a1 a2 a3:Value}(h:w.heap[B]?=some (.cells #[a0,a1,a2,a3] T fr))(u0 u1 u2 u3:Value) :
  ((((w.setCell ⟨B,0,none⟩ u0).setCell ⟨B,1,none⟩ u1).setCell ⟨B,2,none⟩ u2).setCell ⟨B,3,none⟩ u3).heap[B]?=some (.cells #[u0,u1,u2,u3] T fr):=by
 have:=Vq (j:=3) u3 (Vq (j:=2) u2 (Vq (j:=1) u1 (Vq (j:=0) u0 h)))
 simpa using this
theorem Z7h(w:World)(B:Nat)(u0 u1 u2 u3:Value):Z3 (fun b=>b=B) w ((((w.setCell ⟨B,0,none⟩ u0).setCell ⟨B,1,none⟩ u1).setCell ⟨B,2,none⟩ u2).setCell ⟨B,3,none⟩ u3) :=
 ((((Z3.refl (fun b=>b=B) w).set (p:=⟨B,0,none⟩) (.inl rfl) _).set (p:=⟨B,1,none⟩) (.inl rfl) _).set (p:=⟨B,2,none⟩) (.inl rfl) _).set (p:=⟨B,3,none⟩) (.inl rfl) _
theorem Z1a{w w':World}{S:Nat→Prop}{v:Value}{q:List Rq}(h:Zu w v q)(t:Z3 S w w')(hS:∀a n c,v=.slice (some a) n c→q≠[]→¬S a.block):Zu w' v q:=by
 by_cases hq:q=[]
 ·subst hq
  obtain⟨a,c,e,⟨_,h⟩ | ⟨b,o,e2,hc⟩⟩:=h
  ·exact⟨a,c,e,.inl ⟨rfl,h⟩⟩
  ·subst e2;exact⟨_,c,e,.inl ⟨rfl,fun q=>by cases q⟩⟩
 ·obtain⟨a,c,e,⟨h,_⟩ | ⟨b,o,e2,hc⟩⟩:=h
  ·exact absurd h hq
  ·subst e2
   have hb:=hS _ _ _ e hq
   exact⟨_,c,e,.inr ⟨b,o,rfl,lL0 hc.lt t.size,fun i hi c u hu=>(t.cell hc.lt hb).trans (hc.cell i hi c u hu)⟩⟩
theorem Z46{w w':World}{S:Nat→Prop}{g0 e size n:Nat}{v:Value}{xs:List Value}(h:w.ownsRow g0 e size v n xs)(t:Z3 S w w')(hS:∀g,v.ownBlock=some g→¬S g):w'.ownsRow g0 e size v n xs:=by
 refine⟨h.1,?_⟩
 rcases h.2 with hn | ⟨g,cap,cur,rfl,hb,hgg,rest⟩
 ·exact .inl hn
 ·exact .inr ⟨g,cap,cur,rfl,hb,(t.block g (Array.getElem?_eq_some_iff.1 hgg).1 (hS g rfl)).trans hgg,rest⟩
theorem Vd{w:World}{o mb po n:Nat}{l:List Hp}{L:List Bool}{F:Nat→Prop}(h:Db w o mb po n l L F)(t r W:Int)(v:Value)(q:List Rq)(wa:wfN (t,r))(hl:q.length≤1000)(hok:Ok W q)(hrd:Zu w v q)(hlen:(Yl (Z6 l) ⟨t,r,W,q⟩).length≤64) :
  Calls prog 55 #[.pointer (some ⟨o,0,none⟩),.agg #[.int .i64 t,.int .i64 r,v,.int .i64 W]] w fun e w'=>∃vi l',e=.returned vi∧IS w' vi (Zc q).1∧Z6 l'=Yl (Z6 l) ⟨t,r,W,q⟩∧V9 w o mb po n F l w' l' L∧∀g,vi.ownBlock=some g→w.heap.size≤g:=by
 have H:=hD0 h
 have HOk:=hD0 hok
 have HLn:=hD0 hlen
 have hol:=h.ol
 have hml:=h.map.lt
 have hll:=h.len
 obtain⟨pb,hpb⟩:∃pb,w.heap.size=pb:=⟨_,rfl⟩
 have hal:=Z2 w (.cells #[.int .i64 t,.int .i64 r,v,.int .i64 W] 83)
 have hN:Nw w (w.alloc (.cells #[.int .i64 t,.int .i64 r,v,.int .i64 W] 83)):=(Nw.refl w).alloc _
 have HC:=hD0 (fun w2 (g2:Nw w w2)=>Zo3 t r W v q w2 hl hok (hrd.nw g2))
 have hsl:(Zc q).2.length=q.length:=Zac hok
 obtain⟨a0,n0,hv⟩:=hrd.form
 subst hv
 clear h hok hlen hrd
 unfold Un at HC
 go_enter func55,ntmps55
 go_wp2_with fail
 generalize hz:w.alloc (.cells #[.int .i64 t,.int .i64 r,.slice a0 q.length n0,.int .i64 W] 83)=z at *
 clear hz
 rw[hpb] at hal hol hml
 try rw[hpb]
 refine(HC.out _ hN).mono ?_
 rintro e w1 ⟨v1,vi,rfl,g1,hrd,hcap,his,hfr,hin⟩
 obtain⟨a2,n2,hv1⟩:=hrd.form
 rw[hsl] at hv1
 subst hv1
 have HSl:=hD0 hsl
 have hal1:=g1.at' hal
 have HN1:=hD0 (hN.trans g1)
 have hzp:pb<z.heap.size:=Z1 hal
 have hpl:=Z1 hal1
 have p0:w1.cell? ⟨pb,0,none⟩=some (.int .i64 t):=Z0 hal1
 have p1:w1.cell? ⟨pb,1,none⟩=some (.int .i64 r):=Z0 hal1
 have p2:w1.cell? ⟨pb,2,none⟩=some (.slice a0 q.length n0):=Z0 hal1
 have p3:w1.cell? ⟨pb,3,none⟩=some (.int .i64 W):=Z0 hal1
 have pz:=fun j=>hfz (j:=j) hal1
 have hb2:=Z7g hal1 (.int .i64 t) (.int .i64 r) (.slice a2 q.length n2) (.int .i64 W)
 have ht2:=Z7h w1 pb (.int .i64 t) (.int .i64 r) (.slice a2 q.length n2) (.int .i64 W)
 simp only
 have hsl:=HSl.out
 obtain⟨bq,hqd⟩:∃b,((q.length:Int)==0)=b:=⟨_,rfl⟩
 cases bq
 all_goals
  go_wp2_with fail
  generalize ((((w1.setCell ⟨pb,0,none⟩ (.int .i64 t)).setCell ⟨pb,1,none⟩ (.int .i64 r)).setCell ⟨pb,2,none⟩ (.slice a2 q.length n2)).setCell ⟨pb,3,none⟩ (.int .i64 W))=y2 at *
  have hNy:Nw w y2:=Yu HN1.out ht2 (fun i e=>by omega)
  have hzs:w.heap.size≤z.heap.size:=hN.sz
  have hrd2:Zu y2 (.slice a2 q.length n2) (Zc q).2:=Z1a hrd ht2 (fun a n c e hq=>by
   simp only[Value.slice.injEq] at e
   obtain⟨rfl,rfl,rfl⟩:=e
   obtain⟨ab,ao,asp⟩:=a
   intro e2
   have:asp=none:=by
    obtain⟨a',c',e1,⟨q1,_⟩ | ⟨b',o',e3,_⟩⟩:=hrd
    ·exact absurd q1 hq
    ·subst e3;simp at e1;exact e1.1.2.2
   subst this
   rcases hfr ab ao _ _ rfl with k | k
   ·have:ab=pb:=e2
    omega
   ·exact hq k)
  have his2:IS y2 vi (Zc q).1:=Z46 his ht2 (fun g hg e=>by have:=hin g hg;omega)
  have hin2:∀g',vi.ownBlock=some g'→w.heap.size≤g':=fun g' hg=>Nat.le_trans hzs (hin g' hg)
  have hlb:=Z1 hb2
  clear p0 p1 p2 p3 pz
  have p0:y2.cell? ⟨pb,0,none⟩=some (.int .i64 t):=Z0 hb2
  have p1:y2.cell? ⟨pb,1,none⟩=some (.int .i64 r):=Z0 hb2
  have p2:y2.cell? ⟨pb,2,none⟩=some (.slice a2 q.length n2):=Z0 hb2
  have p3:y2.cell? ⟨pb,3,none⟩=some (.int .i64 W):=Z0 hb2
  have c3:=hNy.kp H.out.c3
  have hol2:o<y2.heap.size:=lL0 (by omega) hNy.sz
  have HI:=hD0 (aI0 his2 hin2)
  have HR:=hD0 (aI0 hrd2 (aI0 hcap hfr))
  have HN:=hD0 hNy
  have HB:=hD0 hb2
  clear hb2 ht2 his hin hcap hfr hrd hrd2 his2 hin2 hal hal1 hN HC g1 hNy
 ·have hq:¬q.length=0:=by simpa using hqd
  have hE:Yl (Z6 l) ⟨t,r,W,q⟩=Zz (Z6 l) ⟨t,r,W,(Zc q).2⟩:=by
   unfold Yl
   rw[if_neg (fun e=>hq (by rw[←HSl.out];show(scH ⟨t,r,W,q⟩).q.length=0;rw[e];rfl))]
   rfl
  have hx:Z3p y2.drew F ⟨⟨t,r,W,(Zc q).2⟩,pb,a2,n2⟩:=by
   refine⟨p0,p1,by rw[HSl.out];exact p2,p3,?_,?_,?_,fun e=>?_,fun b e hne k=>?_⟩
   ·unfold hpV
    simp only
    rw[HSl.out]
    exact HR.out.1.nw (Nw.refl _).dr
   ·simp only;rw[HSl.out];exact HR.out.2.1
   ·simp only;rw[HSl.out];exact hl
   ·have:=H.out.pol.own _ e
    simp only at this
    omega
   ·simp only at e hne
    subst e
    obtain⟨a',c',e1,⟨q1,_⟩ | ⟨b',o',e3,_⟩⟩:=HR.out.1
    ·exact hne q1
    ·subst e3
     simp only[Value.slice.injEq,Option.some.injEq] at e1
     obtain⟨rfl,_,rfl⟩:=e1
     rcases HR.out.2.2 b' o' _ _ rfl with q2 | q2
     ·have:=H.out.pol.own _ k
      simp only at this
      omega
     ·exact hne q2
  have hxn:∀b,(b=pb∨∃a,a2=some a∧(Zc q).2≠[]∧b=a.block)→w.heap.size≤b:=by
   rintro b (rfl | ⟨a,e,hne,rfl⟩)
   ·exact Nat.le_of_eq hpb
   ·subst e
    obtain⟨a',c',e1,⟨q1,_⟩ | ⟨b',o',e3,_⟩⟩:=HR.out.1
    ·exact absurd q1 hne
    ·subst e3
     simp only[Value.slice.injEq,Option.some.injEq] at e1
     obtain⟨rfl,_,rfl⟩:=e1
     rcases HR.out.2.2 b' o' _ _ rfl with q2 | q2
     ·exact Nat.le_trans hzs q2
     ·exact absurd q2 hne
  have HXn:=hD0 hxn
  obtain⟨w4,hrun,hm4,ht4⟩:=((H.out.nw HN.out.dr).map).put (by omega) ⟨⟨t,r,W,(Zc q).2⟩,pb,a2,n2⟩ wa
  have HT:=hD0 (aI0 hm4 (aI0 ht4 hx))
  have HE:=hD0 hE
  unfold nmV Za at hrun
  simp only at hrun
  have HU:=hD0 hrun
  clear hE hq hm4 ht4 hrun hx hxn
  refine wp_region_still_tail 6 (by kernel_rfl) (by kernel_rfl) ?_
  simp only[List.take_succ_cons,List.take_zero,List.drop_succ_cons,List.drop_zero]
  iterate 6 still_step
  try refine wpStill_nil ?_
  change wpList _ _ _ _ _ y2.drew
  go_wp2_with (refine Z5d rfl (.tmp 25) (.tmp 27) (.tmp 3) 96 rfl _ _ _ _ rfl rfl rfl HU.out ?_)
  go_ret
  refine⟨_,Z56 l ⟨⟨t,r,W,(Zc q).2⟩,pb,a2,n2⟩,rfl,Z46 (onw HI.out.1 (Nw.refl _).dr) (Vg HT.out.2.1) (fun g hg e=>by have:=HI.out.2 g hg;omega),by rw[Zd4];exact HE.out.symm,H.out.put HN.out.dr HT.out.2.1 _ HT.out.1 HT.out.2.2 (by rw[←HE.out];exact HLn.out) HXn.out,HI.out.2⟩
 ·have hq:q.length=0:=by simpa using hqd
  have hE:Yl (Z6 l) ⟨t,r,W,q⟩=Z6 (Z3t l (t,r)):=by
   unfold Yl
   rw[if_pos (show(scH ⟨t,r,W,q⟩).q=[] from List.length_eq_zero_iff.1 (HSl.out.trans hq))]
   exact Zgj l (t,r)
  obtain⟨w4,hrun,hm4,ht4⟩:=((H.out.nw HN.out.dr).map).del wa (0:TypeId)
  have HT:=hD0 (aI0 hm4 ht4)
  have HE:=hD0 hE
  unfold nmV at hrun
  simp only at hrun
  have HU:=hD0 hrun
  clear hE hq hm4 ht4 hrun
  refine wp_region_still_tail 6 (by kernel_rfl) (by kernel_rfl) ?_
  simp only[List.take_succ_cons,List.take_zero,List.drop_succ_cons,List.drop_zero]
  iterate 6 still_step
  try refine wpStill_nil ?_
  change wpList _ _ _ _ _ y2.drew
  go_wp2_with (refine Z5c rfl (.tmp 18) (.tmp 20) 96 33 rfl _ _ _ rfl rfl HU.out ?_)
  go_ret
  refine⟨_,Z3t l (t,r),rfl,Z46 (onw HI.out.1 (Nw.refl _).dr) (Vg HT.out.2) (fun g hg e=>by have:=HI.out.2 g hg;omega),HE.out.symm,H.out.del HN.out.dr HT.out.2 (t,r) HT.out.1,HI.out.2⟩
theorem V9.comp{w w1 w':World}{o mb po n:Nat}{F F1:Nat→Prop}{l l':List Hp}{L':List Bool}(h2:∀k,F1 k→F k∨w.heap.size≤k)(h3:Z3 (fun b=>b=mb∨F b) w w1)(k:V9 w1 o mb po n F1 l w' l' L'):V9 w o mb po n F l w' l' L':=by
 obtain⟨F',k1,k2,k3,k4⟩:=k
 exact⟨F',k1,fun b e=>(k2 b e).elim (h2 b) (fun q=>.inr (Nat.le_trans h3.size q)),h3.trans' k3 (fun b hb e=>e.elim .inl (fun e=>(h2 b e).elim .inr (fun q=>by omega))),k4.pre h3.size⟩
theorem Zch(l:List Hp)(t r:Int):(atP l (t,r)).h=hdB (Z6 l) t r:=by
 unfold atP hdB
 rw[Z9c]
 cases Uj l (t,r)<;>rfl
theorem Zmx{w:World}{o mb po n:Nat}{l:List Hp}{L:List Bool}{F:Nat→Prop}(h:Db w o mb po n l L F)(t r:Int):Zu w (hpV (atP l (t,r))) (atP l (t,r)).h.q:=by
 unfold atP
 cases e:Uj l (t,r) with
 | none=>exact Rd.nil w
 | some x=>exact(h.ok x (Yi e).1).rd
theorem Zq7{w:World}{o mb po n:Nat}{l:List Hp}{L:List Bool}{F:Nat→Prop}(h:Db w o mb po n l L F)(t r:Int):∀b,(atP l (t,r)).a=some b→(atP l (t,r)).h.q≠[]→¬F b.block:=by
 unfold atP
 cases e:Uj l (t,r) with
 | none=>intro b e1 e2;exact absurd rfl e2
 | some x=>exact(h.ok x (Yi e).1).qf
theorem Zlm{most k:Nat}{hs:List Hq}{X:List Int}{L:List Bool}(b:Ze most k hs X L){id:Int}(h:id∈Z4 hs):0≤id∧id<L.length:=by
 have:=b.mem h
 obtain⟨i,rfl,hi,_⟩:=Z30 this
 omega
theorem Zk3{most k:Nat}{hs:List Hq}{X:List Int}{L:List Bool}(b:Ze most k hs X L)(t r txn m id:Int)(hid:(L.length:Int)≤id):Z09 (hdB hs t r).q id txn m=if Z0s m then 2 else if twB hs t r txn=true then 4 else 0:=by
 obtain⟨_,_,_,d4⟩:=b.hd t r
 have h0:¬id<0:=by omega
 have e:((hdB hs t r).q.any fun x=>x.id==id || x.txn==txn)=twB hs t r txn:=by
  unfold twB
  rw[Bool.eq_iff_iff,List.any_eq_true,List.any_eq_true]
  constructor
  ·rintro⟨x,hx,hq⟩
   refine⟨x,hx,?_⟩
   have:=Zlm b (d4 x hx)
   have hne:(x.id==id)=false:=by simp;omega
   rw[hne] at hq
   simpa using hq
  ·rintro⟨x,hx,hq⟩
   exact⟨x,hx,by rw[hq];simp⟩
 unfold Z09
 rw[e]
 by_cases hb:Z0s m
 ·rw[if_pos hb,if_pos (.inr hb)]
 ·rw[if_neg hb,if_neg (by rintro(q | q);exact h0 q;exact hb q)]
end Go.Proofs.YtfepoibfbmehiaaGreatDoor
