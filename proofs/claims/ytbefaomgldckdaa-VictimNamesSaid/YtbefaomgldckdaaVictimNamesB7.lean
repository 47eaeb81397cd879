/- Texts merged: QvL, Shelf, QwA, QvP, QwB, WdH, WeF, WeB, WeG, VaP, WcD -/
import Derived.Test.YtbefaomgldckdaaVictimNamesB6
import Derived.Shelf.Small.Bits
import Derived.Shelf.Small.Wraps
import Derived.Shelf.Strconv.Itoa0
import Derived.Shelf.Sort.Plain
import Derived.Shelf.Slices.Turned
import Derived.Shelf.Slices.Reverse
import Derived.Ground.Names2Prog
import Derived.Shelf.Slices.CompactI
import Derived.Shelf.Slices.Cells
import Derived.Shelf.Slices.In.SortNone
import Derived.Test.YtbefaomgldckdaaProg
import Derived.Sort.OwnSortedInts
import Derived.Lib.RowBridge
set_option linter.unusedVariables false
set_option maxRecDepth 100000
set_option maxHeartbeats 16000000
namespace Go.Proofs.Ytbefaomgldckdaa
open Go.RowKit _root_.Go.Proofs.Try
theorem Z7i(q:List Rq)(id:Int):Z92 q id (plc (fun R=>R.id==id) q):=by
 rcases V9 (fun R=>R.id==id) q with⟨h1,h2⟩ | ⟨k,h1,hk,h3,h4⟩
 ·refine .inl ⟨h1,?_⟩
  unfold fnd
  rw[List.find?_eq_none]
  intro x hx;rw[h2 x hx];simp
 ·refine .inr ⟨k,h1,hk,?_⟩
  unfold fnd
  have e:=Z5i q k hk
  conv=>lhs;rw[e]
  rw[List.find?_append,List.find?_cons,h3]
  have:(q.take k).find? (fun r=>r.id==id)=none:=by
   rw[List.find?_eq_none]
   intro x hx
   obtain⟨i,hi,rfl⟩:=List.getElem_of_mem hx
   simp at hi
   have:=h4 i (by omega) (by omega)
   simpa using this
  rw[this];rfl
theorem Z7n(t r W id:Int)(v:Value)(q:List Rq)(w:World)(hl:q.length≤1000)(h:Z2b w v q) :
  Calls prog 39 #[hdV t r v W,.int .i64 id] w fun e w'=>e=.returned (Z2k q id)∧Nw w w':=by
 obtain⟨V,hV⟩:∃V,Z2k q id=V:=⟨_,rfl⟩
 rw[hV]
 obtain⟨px,hpx⟩:∃px,plc (fun R=>R.id==id) q=px:=⟨_,rfl⟩
 have hFi:=fun(w1:World) (g:Nw w w1) (f:Value) (hf:Yl w1 f (fun R=>R.id==id))=>Z8i t r W v f _ q w1 hl (h.nw g) hf
 rw[hpx] at hFi
 have HAt:=hD0 h
 obtain⟨a,c,rfl,_⟩:=h
 unfold hdV at hFi ⊢
 have HFi:=hD0 hFi
 clear hFi
 have HWi:=hD0 (Z68 id)
 obtain⟨hx1,hx2,hx3,hx4⟩:=Vq w (.cells #[.int .i64 t,.int .i64 r,.slice a q.length c,.int .i64 W] 60) (.cells #[.int .i64 0,.int .i64 0,.int .i64 0,.int .i64 0,.int .i64 0] 63)
 obtain⟨w1,hw1⟩:∃w1,(w.alloc (.cells #[.int .i64 t,.int .i64 r,.slice a q.length c,.int .i64 W] 60)).alloc (.cells #[.int .i64 0,.int .i64 0,.int .i64 0,.int .i64 0,.int .i64 0] 63)=w1:=⟨_,rfl⟩
 rw[hw1] at hx1 hx2 hx3
 have HB1:=hD0 (aI0 (aI0 hx1 hx2) hx3)
 have s0:∀z,Nw w1 z→z.cell? ⟨w.heap.size,0,none⟩=some (.int .i64 t):=fun z hz=>hz.kp (Z2 (j:=0) hx1)
 have s1:∀z,Nw w1 z→z.cell? ⟨w.heap.size,1,none⟩=some (.int .i64 r):=fun z hz=>hz.kp (Z2 (j:=1) hx1)
 have s2:∀z,Nw w1 z→z.cell? ⟨w.heap.size,2,none⟩=some (.slice a q.length c):=fun z hz=>hz.kp (Z2 (j:=2) hx1)
 have s3:∀z,Nw w1 z→z.cell? ⟨w.heap.size,3,none⟩=some (.int .i64 W):=fun z hz=>hz.kp (Z2 (j:=3) hx1)
 clear hx1 hx2 hx3 hx4
 have HW1:=hD0 hw1
 clear hw1
 have q1:=(Nw.refl w1).drewQ
 obtain⟨wc,hwc⟩:∃wc,w1.drew=wc:=⟨_,rfl⟩
 go_enter func39,ntmps39
 go_wp2
 rw[HW1.out]
 refine Vv [some true,some true,some false,none,some false,none,some true] (Nw w1) (by kernel_rfl) (by kernel_rfl) (by kernel_rfl) q1 ?_
 rw[hwc] at q1 ⊢
 clear hwc
 repeat (first
  | (refine HW.off ?_)
  | (refine HW.take' ?_;(first | (refine⟨undef,Or.inr ⟨by rfl,rfl⟩,?_⟩) | (apply Exists.intro;refine⟨Or.inl ⟨by rfl,?_⟩,?_⟩;(intro x hx;go_simp;first | done | with_reducible rfl)));(try simp only[Act.put,List.setIfInBounds_toArray,List.set_cons_zero,List.set_cons_succ]))
  | (refine HW.go (fun K hK=>?_);go_simp;(first
   | (go_at_call 52;(with_reducible refine(HWi.out _).mono ?_);rintro e wy ⟨pa,rfl,g2,hbx⟩;refine hK.out _ _ (q1.trans g2) ?_;intro _;replace q1:=q1.trans g2;clear hK K g2;replace hbx:=Yl.withID hbx)
   | (go_at_call 51;(with_reducible refine(HFi.out _ (HB1.out.2.trans q1) _ hbx).mono ?_);rintro e wy ⟨rfl,g2⟩;refine hK.out _ _ (q1.trans g2) ?_;intro _;replace q1:=q1.trans g2;clear hK K g2 hbx)
   | (refine hK.out _ _ q1 ?_;intro _;clear hK K))))
 refine HW.end_ ?_
 refine NoPanic.normal ?_
 have HN:=hD0 (HB1.out.2.trans q1)
 have hp1:=q1.at' HB1.out.1.1
 have hq1:=q1.at' HB1.out.1.2
 have c0:=Z2 (j:=0) hp1
 have c1:=Z2 (j:=1) hp1
 have c2:=Z2 (j:=2) hp1
 have c3:=Z2 (j:=3) hp1
 have hpl:=hlt hp1
 have d0:=Z2 (j:=0) hq1
 have d1:=Z2 (j:=1) hq1
 have d2:=Z2 (j:=2) hq1
 have d3:=Z2 (j:=3) hq1
 have d4:=Z2 (j:=4) hq1
 have fz:=fun k=>hfz (j:=k) hq1
 have hsl2:=hlt hq1
 rcases Z7i q id with⟨e1,hf⟩ | ⟨k,e1,hk,hf⟩
 ·obtain rfl:=hpx.symm.trans e1
  have HF:=hD0 (hV.symm.trans (show Z2k q id=.tuple #[U6 ⟨0,0,0,0,0⟩,.bool false] by unfold Z2k;rw[hf]))
  clear hpx hV e1 hf s0 s1 s2 s3 HB1 HFi HWi HAt HW1 q1 hp1 hq1
  go_wp2
  refine bodyPost_ret (v:=.tuple #[.agg #[.int .i64 0,.int .i64 0,.int .i64 0,.int .i64 0,.int .i64 0],.bool false]) (by simp only[results,results39];simp[go_sem, *]) rfl ⟨by rw[HF.out];rfl,?_⟩
  exact((((HN.out.st (Nat.le_succ _) _).st (Nat.le_succ _) _).st (Nat.le_succ _) _).st (Nat.le_succ _) _).st (Nat.le_succ _) _
 ·obtain rfl:=hpx.symm.trans e1
  rcases(HAt.out.nw HN.out) with⟨a',c',e3,⟨e4,_⟩ | ⟨b,o,e4,hc⟩⟩
  ·subst e4;simp at hk
  simp only[Value.slice.injEq,true_and] at e3
  obtain⟨rfl,rfl⟩:=e3
  subst e4
  have hce:=hc.cell k hk
  have dk:((k:Int)==-1)=false:=by simp
  have hki:(k:Int)<(q.length:Int):=by omega
  have HF:=hD0 (hV.symm.trans (show Z2k q id=.tuple #[U6 q[k],.bool true] by unfold Z2k;rw[hf]))
  clear hpx hV e1 hf s0 s1 s2 s3 HB1 HFi HWi HAt HW1 q1 hp1 hq1 hc
  generalize q[k]=R at *
  obtain⟨b0,b1,b2,b3,b4⟩:=R
  have m0:=hce 0 _ rfl
  have m1:=hce 1 _ rfl
  have m2:=hce 2 _ rfl
  have m3:=hce 3 _ rfl
  have m4:=hce 4 _ rfl
  simp only[Nat.add_zero] at m0
  clear hce
  go_wp2
  refine bodyPost_ret (v:=.tuple #[.agg #[.int .i64 b0,.int .i64 b1,.int .i64 b2,.int .i64 b3,.int .i64 b4],.bool true]) (by simp only[results,results39];simp[go_sem, *]) rfl ⟨by rw[HF.out];rfl,?_⟩
  exact((((HN.out.st (Nat.le_succ _) _).st (Nat.le_succ _) _).st (Nat.le_succ _) _).st (Nat.le_succ _) _).st (Nat.le_succ _) _
end Go.Proofs.Ytbefaomgldckdaa
namespace Go.Proofs
open _root_.Go.Proofs.Try
open Go.Shelf
def Try.lays189_ren:Go.Shelf.Ren:=⟨fun | 189=>43 | 125=>46 | 257=>56 | 128=>65 | 129=>66 | 294=>73 | 295=>74 | 296=>75 | 297=>76 | 298=>77 | 299=>78 | 216=>79 | 300=>80 | 301=>81 | 328=>88 | 329=>83 | 330=>84 | 331=>89 | 332=>90 | 215=>31 | 343=>92 | n=>n,fun | 28=>28 | 3=>3 | 46=>86 | 0=>0 | 51=>104 | 53=>106 | 4=>4 | 183=>98 | 182=>97 | 131=>26 | 5=>5 | 9=>9 | 218=>117 | 222=>121 | 228=>125 | 229=>126 | n=>n,fun | n=>n⟩
theorem Try.lays189:Go.Proofs.Lays.n189 prog Try.lays189_ren:={
 mixed:=by kernel_rfl
 f125:=func46.trans (congrArg some (by kernel_rfl))
 f128:=func65.trans (congrArg some (by kernel_rfl))
 f129:=func66.trans (congrArg some (by kernel_rfl))
 f189:=func43.trans (congrArg some (by kernel_rfl))
 f215:=func31.trans (congrArg some (by kernel_rfl))
 f216:=func79.trans (congrArg some (by kernel_rfl))
 f257:=func56.trans (congrArg some (by kernel_rfl))
 f294:=func73.trans (congrArg some (by kernel_rfl))
 f295:=func74.trans (congrArg some (by kernel_rfl))
 f296:=func75.trans (congrArg some (by kernel_rfl))
 f297:=func76.trans (congrArg some (by kernel_rfl))
 f298:=func77.trans (congrArg some (by kernel_rfl))
 f299:=func78.trans (congrArg some (by kernel_rfl))
 f300:=func80.trans (congrArg some (by kernel_rfl))
 f301:=func81.trans (congrArg some (by kernel_rfl))
 f328:=func88.trans (congrArg some (by kernel_rfl))
 f329:=func83.trans (congrArg some (by kernel_rfl))
 f330:=func84.trans (congrArg some (by kernel_rfl))
 f331:=func89.trans (congrArg some (by kernel_rfl))
 f332:=func90.trans (congrArg some (by kernel_rfl))
 f343:=func92.trans (congrArg some (by kernel_rfl))
 t0:=underlying0
 a0:=Try.isAgg0
 z0:=Try.sizeOf0
 v0:=Try.zeroValue0
 t3:=underlying3
 a3:=Try.isAgg3
 z3:=Try.sizeOf3
 v3:=Try.zeroValue3
 t4:=underlying4
 a4:=Try.isAgg4
 z4:=Try.sizeOf4
 v4:=Try.zeroValue4
 t5:=underlying5
 a5:=Try.isAgg5
 z5:=Try.sizeOf5
 v5:=Try.zeroValue5
 t9:=underlying9
 a9:=Try.isAgg9
 z9:=Try.sizeOf9
 v9:=Try.zeroValue9
 t28:=underlying28
 a28:=Try.isAgg28
 z28:=Try.sizeOf28
 v28:=Try.zeroValue28
 t46:=underlying86
 a46:=Try.isAgg86
 z46:=Try.sizeOf86
 v46:=Try.zeroValue86
 t51:=underlying104
 a51:=Try.isAgg104
 z51:=Try.sizeOf104
 v51:=Try.zeroValue104
 t53:=underlying106
 a53:=Try.isAgg106
 z53:=Try.sizeOf106
 v53:=Try.zeroValue106
 t131:=underlying26
 a131:=Try.isAgg26
 z131:=Try.sizeOf26
 v131:=Try.zeroValue26
 t182:=underlying97
 a182:=Try.isAgg97
 z182:=Try.sizeOf97
 v182:=Try.zeroValue97
 t183:=underlying98
 a183:=Try.isAgg98
 z183:=Try.sizeOf98
 v183:=Try.zeroValue98
 t218:=underlying117
 a218:=Try.isAgg117
 z218:=Try.sizeOf117
 v218:=Try.zeroValue117
 t222:=underlying121
 a222:=Try.isAgg121
 z222:=Try.sizeOf121
 v222:=Try.zeroValue121
 t228:=underlying125
 a228:=Try.isAgg125
 z228:=Try.sizeOf125
 v228:=Try.zeroValue125
 t229:=underlying126
 a229:=Try.isAgg126
 z229:=Try.sizeOf126
 v229:=Try.zeroValue126 }
open Go.Sort Go.RowKit in
theorem Try.slices_Sort_int(blk off cap:Nat)(zs:List Int)(w:World)(hH:Holds (Value.int .i64) w blk off zs.toArray)(hblk:blk<w.heap.size)(hsz:zs.length<4611686018427387904) :
  Calls prog 43 #[.slice (some ⟨blk,off,none⟩) zs.length cap] w fun e w' =>
   e=.returned (.tuple #[])∧∃n os,w'=grow (putRow (Value.int .i64) (Sort.ahead w n) blk off (zs.mergeSort fun x y=>decide (x≤y)).toArray) os:=Any.slices_Sort_int Try.lays189 blk off cap zs w hH hblk hsz
def Try.lays114_ren:Go.Shelf.Ren:=⟨fun | 114=>69 | n=>n,fun | 28=>28 | 3=>3 | 4=>4 | 9=>9 | 20=>20 | 0=>0 | n=>n,fun | n=>n⟩
theorem Try.lays114:Go.Proofs.Lays.n114 prog Try.lays114_ren:={
 mixed:=by kernel_rfl
 f114:=func69.trans (congrArg some (by kernel_rfl))
 t0:=underlying0
 a0:=Try.isAgg0
 z0:=Try.sizeOf0
 v0:=Try.zeroValue0
 t3:=underlying3
 a3:=Try.isAgg3
 z3:=Try.sizeOf3
 v3:=Try.zeroValue3
 t4:=underlying4
 a4:=Try.isAgg4
 z4:=Try.sizeOf4
 v4:=Try.zeroValue4
 t9:=underlying9
 a9:=Try.isAgg9
 z9:=Try.sizeOf9
 v9:=Try.zeroValue9
 t20:=underlying20
 a20:=Try.isAgg20
 z20:=Try.sizeOf20
 v20:=Try.zeroValue20
 t28:=underlying28
 a28:=Try.isAgg28
 z28:=Try.sizeOf28
 v28:=Try.zeroValue28 }
open Go.Lib in
theorem Try.slices_Min_int(b off n c:Nat)(zs:List Int)(w:World)(hn:0<n)(hz:n≤zs.length)(hbig:n≤9223372036854775807)(hc:∀j,j<zs.length→w.cell? ⟨b,off+j,none⟩=some (.int .i64 (zs.getD j 0))) :
  Calls prog 69 #[.slice (some ⟨b,off,none⟩) n c] w fun e w'=>e=.returned (.int .i64 (Lib.minOf (zs.take n)))∧w'=w:=Any.slices_Min_int Try.lays114 b off n c zs w hn hz hbig hc
def Try.lays112_ren:Go.Shelf.Ren:=⟨fun | 112=>37 | n=>n,fun | 28=>28 | 3=>3 | 4=>4 | 0=>0 | n=>n,fun | n=>n⟩
theorem Try.lays112:Go.Proofs.Lays.n112 prog Try.lays112_ren:={
 mixed:=by kernel_rfl
 f112:=func37.trans (congrArg some (by kernel_rfl))
 t0:=underlying0
 a0:=Try.isAgg0
 z0:=Try.sizeOf0
 v0:=Try.zeroValue0
 t3:=underlying3
 a3:=Try.isAgg3
 z3:=Try.sizeOf3
 v3:=Try.zeroValue3
 t4:=underlying4
 a4:=Try.isAgg4
 z4:=Try.sizeOf4
 v4:=Try.zeroValue4
 t28:=underlying28
 a28:=Try.isAgg28
 z28:=Try.sizeOf28
 v28:=Try.zeroValue28 }
open Go.RowKit Go.Lib Go.Sort in
theorem Try.slices_Reverse_int(blk off cap:Nat)(zs:List Int)(w:World)(hH:Holds (Value.int .i64) w blk off zs.toArray)(hsz:zs.length≤9223372036854775807) :
  Calls prog 37 #[.slice (some ⟨blk,off,none⟩) zs.length cap] w fun e w'=>e=.returned (.tuple #[])∧∃n,w'=putRow (Value.int .i64) (Sort.ahead w n) blk off zs.reverse.toArray:=Any.slices_Reverse_int Try.lays112 blk off cap zs w hH hsz
open Go.RowKit Go.Lib Go.Sort in
theorem Try.slices_Reverse_int_empty(a:Option Addr)(cap:Nat)(w:World) :
  Calls prog 37 #[.slice a 0 cap] w fun e w'=>e=.returned (.tuple #[])∧w'=w:=Any.slices_Reverse_int_empty Try.lays112 a cap w
def Try.laysNm220_ren:Go.Shelf.Ren:=⟨fun | 20=>44 | n=>n,fun | 22=>28 | 3=>3 | 4=>4 | 0=>0 | n=>n,fun | n=>n⟩
theorem Try.laysNm220:Go.Proofs.Lays2.n20 prog Try.laysNm220_ren:={
 mixed:=by kernel_rfl
 f20:=func44.trans (congrArg some (by kernel_rfl))
 t0:=underlying0
 a0:=Try.isAgg0
 z0:=Try.sizeOf0
 v0:=Try.zeroValue0
 t3:=underlying3
 a3:=Try.isAgg3
 z3:=Try.sizeOf3
 v3:=Try.zeroValue3
 t4:=underlying4
 a4:=Try.isAgg4
 z4:=Try.sizeOf4
 v4:=Try.zeroValue4
 t22:=underlying28
 a22:=Try.isAgg28
 z22:=Try.sizeOf28
 v22:=Try.zeroValue28
 i3:=by kernel_rfl }
open Go.RowKit Go.Lib Go.Sort in
theorem Try.slices_Compact_int(blk off cap:Nat)(zs:List Int)(w:World)(hH:Holds (Value.int .i64) w blk off zs.toArray)(hsz:zs.length≤9223372036854775807)(hcap:zs.length≤cap) :
  Calls prog 44 #[.slice (some ⟨blk,off,none⟩) zs.length cap] w fun e w'=>e=.returned (.slice (some ⟨blk,off,none⟩) (Lib.compact zs).length cap)∧∃q,w'=putRow (Value.int .i64) (Sort.ahead w q) blk off (Lib.compact zs++List.replicate (zs.length-(Lib.compact zs).length) 0).toArray:=Any.slices_Compact_int Try.laysNm220 blk off cap zs w hH hsz hcap
open Go.RowKit Go.Lib Go.Sort in
theorem Try.slices_Compact_int_empty(a:Option Addr)(cap:Nat)(w:World) :
  Calls prog 44 #[.slice a 0 cap] w fun e w'=>e=.returned (.slice a 0 cap)∧w'=w:=Any.slices_Compact_int_empty Try.laysNm220 a cap w
open Go.RowKit Go.Sort in
theorem Try.slices_Sort_int_none(p:Option Addr)(cap:Nat)(w:World) :
  Calls prog 43 #[.slice p 0 cap] w fun e w'=>e=.returned (.tuple #[])∧w'=w:=Any.slices_Sort_int_none Try.lays189 p cap w
end Go.Proofs
namespace Go.Proofs.Ytbefaomgldckdaa
open Go.RowKit _root_.Go.Proofs.Try
section
open Go.RowKit Go.Sort
theorem Un:∀ {a b:List Int},a.Pairwise (·<·)→b.Pairwise (·<·)→(∀x,x∈a↔x∈b)→a=b
 | [],b,_,_,h=>by
  cases b with
  | nil=>rfl
  | cons y b=>exact absurd ((h y).2 (by simp)) (by simp)
 | x::a,[],_,_,h=>absurd ((h x).1 (by simp)) (by simp)
 | x::a,y::b,ha,hb,h=>by
  rw[List.pairwise_cons] at ha hb
  have e:x=y:=by
   rcases List.mem_cons.1 ((h x).1 (by simp))with e | e
   ·exact e
   ·rcases List.mem_cons.1 ((h y).2 (by simp))with e2 | e2
    ·exact e2.symm
    ·have:=hb.1 x e;have:=ha.1 y e2;omega
  subst e
  congr 1
  refine Un ha.2 hb.2 (fun z=>?_)
  have hz:=h z
  rw[List.mem_cons,List.mem_cons] at hz
  constructor
  ·intro m
   rcases hz.1 (.inr m)with e | e
   ·have:=ha.1 z m;omega
   ·exact e
  ·intro m
   rcases hz.2 (.inr m)with e | e
   ·have:=hb.1 z m;omega
   ·exact e
theorem Z1c(l:List Int)(hs:l.Pairwise (·≤·)):∀m,m≤l.length→(Lib.compactUpTo l.toArray m).Pairwise (·<·)∧∀x,x∈Lib.compactUpTo l.toArray m↔∃j,j<m∧l.toArray[j]! = x
 | 0,_=>by
  have:Lib.compactUpTo l.toArray 0=[]:=rfl
  rw[this]
  exact⟨List.Pairwise.nil,fun x=>by simp⟩
 | m+1,hm=>by
  obtain⟨h1,h2⟩:=Z1c l hs m (by omega)
  have hle:∀i j,i<j→j<l.length→l.toArray[i]!≤l.toArray[j]!:=fun i j hij hj=>by
   have:=List.pairwise_iff_getElem.1 hs i j (by omega) hj hij
   simpa [hj,show i<l.length by omega] using this
  rw[Lib.compactUpTo_succ]
  by_cases k:Lib.keeps l.toArray m=true
  ·rw[if_pos k]
   refine⟨List.pairwise_append.2 ⟨h1,by simp,fun x hx y hy=>?_⟩,fun x=>?_⟩
   ·obtain rfl:=List.mem_singleton.1 hy
    obtain⟨j,hj,rfl⟩:=(h2 x).1 hx
    have hk:l.toArray[m]!≠l.toArray[m-1]!:=by
     unfold Lib.keeps at k
     simp at k
     rcases k with k | k
     ·omega
     ·simpa using k
    have a1:l.toArray[j]!≤l.toArray[m-1]!:=by
     by_cases e:j=m-1
     ·rw[e];exact Int.le_refl _
     ·exact hle j (m-1) (by omega) (by omega)
    have a2:=hle (m-1) m (by omega) (by omega)
    omega
   ·rw[List.mem_append,List.mem_singleton,h2 x]
    constructor
    ·rintro(⟨j,hj,e⟩ | e)
     ·exact⟨j,by omega,e⟩
     ·exact⟨m,by omega,e.symm⟩
    ·rintro⟨j,hj,e⟩
     by_cases q:j=m
     ·subst q;exact .inr e.symm
     ·exact .inl ⟨j,by omega,e⟩
  ·rw[if_neg k,List.append_nil]
   refine⟨h1,fun x=>?_⟩
   rw[h2 x]
   have hk:0<m∧l.toArray[m]! = l.toArray[m-1]!:=by
    unfold Lib.keeps at k
    simp at k
    refine⟨by omega,?_⟩
    have:=k.2
    simpa using this
   constructor
   ·rintro⟨j,hj,e⟩;exact⟨j,by omega,e⟩
   ·rintro⟨j,hj,e⟩
    by_cases q:j=m
    ·subst q;exact⟨j-1,by omega,by rw[←hk.2];exact e⟩
    ·exact⟨j,by omega,e⟩
theorem Z4b(l:List Int)(j:Nat)(h:j<l.length):l.toArray[j]! = l[j]:=by simp[h]
theorem Z2f(l:List Int):(Lib.compact (l.mergeSort fun x y=>decide (x≤y))).Pairwise (·<·)∧∀x,x∈Lib.compact (l.mergeSort fun x y=>decide (x≤y))↔x∈l:=by
 have hs:(l.mergeSort fun x y=>decide (x≤y)).Pairwise (·≤·):=by
  have:=List.pairwise_mergeSort (le:=fun(x y:Int)=>decide (x≤y)) (fun a b c h1 h2=>by simp at *;omega) (fun a b=>by simp;omega) l
  exact this.imp (fun h=>by simpa using h)
 obtain⟨h1,h2⟩:=Z1c _ hs _ (Nat.le_refl _)
 refine⟨h1,fun x=>?_⟩
 have h3:=h2 x
 unfold Lib.compact
 rw[h3,←(List.mergeSort_perm l _).mem_iff (a:=x),List.mem_iff_getElem]
 constructor
 ·rintro⟨j,hj,e⟩
  exact⟨j,hj,(Z4b _ j hj).symm.trans e⟩
 ·rintro⟨j,hj,e⟩
  exact⟨j,hj,(Z4b _ j hj).trans e⟩
theorem Z7p(v:Value)(l:List Int)(w:World)(h:IS w v l)(hl:l.length≤1000) :
  Calls prog 43 #[v] w fun e w'=>e=.returned (.tuple #[])∧IS w' v (l.mergeSort fun x y=>decide (x≤y))∧Zc (fun i=>v.ownBlock=some i) w w':=by
 rcases h.2 with⟨rfl,e⟩ | ⟨g,cap,cur,rfl,_,hb,h1,h2,h3,ht⟩
 ·obtain rfl:=List.length_eq_zero_iff.1 e
  refine(Try.slices_Sort_int_none none 0 w).mono ?_
  rintro e w' ⟨rfl,h⟩
  exact⟨rfl,by simpa using IS.nil w',by first | (subst h;exact Zc.refl _ _) | (obtain⟨n,rfl⟩:=h;exact(Zc.refl _ _).drewN _)⟩
 ·rw[Nat.mul_one] at ht
  have hH:=holds_of_blockI hb ht
  have hlen:(l.mergeSort fun x y=>decide (x≤y)).length=l.length:=List.length_mergeSort _
  refine(Try.slices_Sort_int g 0 cap l w hH (hlt hb) (by omega)).mono ?_
  rintro e w' ⟨rfl,n,os,rfl⟩
  refine⟨rfl,?_,(Zc.refl _ w).grown (grownBy_sortedI _) (fun k hk=>.inl hk)⟩
  unfold IS
  rw[hlen]
  exact ownsRow_sortedI hlen (Nat.zero_le _) hb h1 h2 h3
theorem Z3h(v:Value)(l:List Int)(w:World)(h:IS w v l)(hl:l.length≤1000) :
  Calls prog 44 #[v] w fun e w'=>∃v',e=.returned v'∧IS w' v' (Lib.compact l)∧v'.ownBlock=v.ownBlock∧Zc (fun i=>v.ownBlock=some i) w w':=by
 rcases h.2 with⟨rfl,e⟩ | ⟨g,cap,cur,rfl,_,hb,h1,h2,h3,ht⟩
 ·obtain rfl:=List.length_eq_zero_iff.1 e
  refine(Try.slices_Compact_int_empty none 0 w).mono ?_
  rintro e w' ⟨rfl,rfl⟩
  exact⟨_,rfl,IS.nil _,rfl,Zc.refl _ _⟩
 ·rw[Nat.mul_one] at ht
  have hH:=holds_of_blockI hb ht
  have hle:=Lib.compact_length_le l
  refine(Try.slices_Compact_int g 0 cap l w hH (by omega) h1).mono ?_
  rintro e w' ⟨rfl,n,rfl⟩
  have hg:=grownBy_sortedI (w:=w) (g:=g) (n:=n) (os:=#[]) (Lib.compact l++List.replicate (l.length-(Lib.compact l).length) 0).toArray
  have hh:=heap_sortedI (n:=n) (os:=#[]) (Lib.compact l++List.replicate (l.length-(Lib.compact l).length) 0).toArray hb
  rw[grow_empty] at hg hh
  refine⟨_,rfl,⟨by simp,.inr ⟨g,cap,_,rfl,Nat.zero_le _,hh,by omega,h2,by simp[putCells,h3],?_⟩⟩,rfl,(Zc.refl _ w).grown hg (fun k hk=>.inl hk)⟩
  have hlen:(Lib.compact l++List.replicate (l.length-(Lib.compact l).length) 0).length=l.length:=by simp;omega
  have hta:=take_putCellsI cur (Lib.compact l++List.replicate (l.length-(Lib.compact l).length) 0) (by rw[hlen];omega)
  have hta2:=congrArg (List.take (Lib.compact l).length) hta
  rw[List.take_take,hlen,Nat.min_eq_left hle,List.map_append,List.take_append_of_le_length (by simp)] at hta2
  rw[Nat.mul_one,hta2]
  exact List.take_of_length_le (by simp)
end
structure Z9r(q q':List Rq)(T:List Int)(i:Nat):Prop where
 same:∀x∈T.drop i,Z43 q' x=Z43 q x
 rest:∀k:Nat,k<q.length→(k:Int)∉T.drop i→¬0<(Z43 q' k).sn
structure TOk(q:List Rq)(T:List Int):Prop where
 sorted:T.Pairwise (fun x y=>tC q x y<0)
 mem:∀x,x∈T↔∃k:Nat,k<q.length∧x=k∧0<(Z43 q x).sn
 nodup:T.Nodup
def bkC(S R:Rq):Bool:=!(R.id==S.id)&&((decide (0<R.sn)&&decide (toI R S<0)) || !cpI R.md S.wt)
def Uu(q:List Rq)(S:Rq)(k:Nat):List Int:=((q.take k).filter (bkC S)).map fun R=>R.txn
theorem Z4d(q:List Rq)(S:Rq)(k:Nat)(hk:k<q.length):Uu q S (k+1)=if bkC S q[k]=true then Uu q S k++[q[k].txn] else Uu q S k:=by
 unfold Uu
 rw[List.take_add_one,List.getElem?_eq_getElem hk,List.filter_append,List.map_append]
 by_cases e:bkC S q[k]=true
 ·rw[if_pos e];simp[e]
 ·rw[if_neg e];simp at e;simp[e]
theorem U0(q:List Rq)(S:Rq)(k:Nat):(Uu q S k).length≤q.length:=by
 unfold Uu
 rw[List.length_map]
 exact Nat.le_trans (List.length_filter_le _ _) (by rw[List.length_take];omega)
theorem Z4e{W:Int}{q:List Rq}(h:Ok W q){S R:Rq}(hS:S∈q)(hR:R∈q)(hw:0<S.sn)(ne:R.id≠S.id):bkC S R=blk S R:=by
 have h1:=h.rt R hR
 have h2:=h.rt S hS
 have hz:R.md=0→0<R.sn:=fun e=>by
  rcases Int.lt_or_eq_of_le h1.s0 with g | g
  ·exact g
  ·exact absurd e (h1.h g.symm).1
 have hc0:R.md=0→cpI R.md S.wt=true:=fun e=>by rw[e];exact Z63 _ h2.wt
 unfold bkC blk
 rw[Bool.eq_iff_iff]
 simp only[Bool.and_eq_true,Bool.or_eq_true,Bool.not_eq_true',beq_eq_false_iff_ne,ne_eq,decide_eq_true_eq,bne_iff_ne,beq_iff_eq,Z3c]
 constructor
 ·rintro⟨_,⟨a,b | b⟩ | b⟩
  ·exact .inl (.inr ⟨⟨b.1,a⟩,.inl b.2⟩)
  ·by_cases e:R.md=0
   ·exact .inr ⟨⟨b.1.1 e,e⟩,b.2⟩
   ·exact .inl (.inr ⟨⟨e,a⟩,.inr b.2⟩)
  ·by_cases e:R.md=0
   ·rw[hc0 e] at b;cases b
   ·exact .inl (.inl ⟨e,b⟩)
 ·rintro((⟨a,b⟩ | ⟨⟨a,b⟩,c⟩) | ⟨⟨a,b⟩,c⟩)
  ·exact⟨ne,.inr b⟩
  ·refine⟨ne,.inl ⟨b,?_⟩⟩
   by_cases e:S.md=0
   ·exact .inl ⟨a,e⟩
   ·rcases c with c | c
    ·exact absurd c e
    ·exact .inr ⟨by simp[a,e],c⟩
  ·exact⟨ne,.inl ⟨hz b,.inr ⟨by simp[a,b],c⟩⟩⟩
theorem Z7j{W:Int}{q:List Rq}(h:Ok W q){S:Rq}(hS:S∈q)(hw:0<S.sn):Lib.compact ((Uu q S q.length).mergeSort fun x y=>decide (x≤y))=Z1a q S:=by
 obtain⟨h1,h2⟩:=Z2f (Uu q S q.length)
 refine Un h1 (Vr q S) (fun x=>?_)
 rw[h2 x,V2]
 unfold Uu
 rw[List.take_of_length_le (Nat.le_refl _),List.mem_map]
 constructor
 ·rintro⟨R,hR,e⟩
  obtain⟨hR,hc⟩:=List.mem_filter.1 hR
  have ne:R.id≠S.id:=by unfold bkC at hc;simp at hc;exact hc.1
  exact⟨R,hR,ne,by rw[←Z4e h hS hR hw ne];exact hc,e⟩
 ·rintro⟨R,hR,ne,hc,e⟩
  exact⟨R,List.mem_filter.2 ⟨hR,by rw[Z4e h hS hR hw ne];exact hc⟩,e⟩
theorem Z3g(t r W id:Int)(v:Value)(q:List Rq)(w:World)(hl:q.length≤1000)(hok:Ok W q)(h:Z2b w v q) :
  Calls prog 29 #[hdV t r v W,.int .i64 id] w fun e w'=>∃v',e=.returned v'∧Nw w w'∧IS w' v' (Yw q id):=by
 have HOk:=hD0 hok
 have HAt:=hD0 h
 clear hok
 obtain⟨X,hX⟩:∃X,Yw q id=X:=⟨_,rfl⟩
 rw[hX]
 have HFq:=hD0 (fun(z:World) (g:Nw w z)=>Z7n t r W id v q z hl (h.nw g))
 obtain⟨a,c,rfl,_⟩:=h
 unfold hdV at HFq ⊢
 have hx1:=Z5 w (.cells #[.int .i64 t,.int .i64 r,.slice a q.length c,.int .i64 W] 60)
 have hN:Nw w (w.alloc (.cells #[.int .i64 t,.int .i64 r,.slice a q.length c,.int .i64 W] 60)):=(Nw.refl w).alloc _
 obtain⟨w1,hw1⟩:∃w1,w.alloc (.cells #[.int .i64 t,.int .i64 r,.slice a q.length c,.int .i64 W] 60)=w1:=⟨_,rfl⟩
 rw[hw1] at hx1 hN
 have HW1:=hD0 hw1
 have HB:=hD0 (aI0 hx1 hN)
 have HFq1:=hD0 (HFq.out w1 hN)
 have c0:=Z2 (j:=0) hx1
 have c1:=Z2 (j:=1) hx1
 have c2:=Z2 (j:=2) hx1
 have c3:=Z2 (j:=3) hx1
 have hpl:=hlt hx1
 clear hw1 hx1 hN HFq
 unfold Z2k at HFq1
 cases hf:fnd q id with
 | none =>
  rw[hf] at HFq1
  simp only at HFq1
  have hR:=hX.symm.trans (show Yw q id=[] by unfold Yw;rw[hf])
  subst hR
  unfold U6 at HFq1
  clear hX hf
  go_enter func29,ntmps29
  go_wp2_with fail
  rw[HW1.out]
  go_wp2_with fail
  go_at_call 39
  refine HFq1.out.mono ?_
  rintro e w2 ⟨rfl,g2⟩
  have HG:=hD0 (HB.out.2.trans g2)
  clear c0 c1 c2 c3 hpl g2 HFq1
  go_wp2
  go_ret
  exact⟨_,rfl,HG.out.alloc _,IS.nil _⟩
 | some S =>
  rw[hf] at HFq1
  simp only at HFq1
  have hS:=(Z50 hf).1
  have hSi:=(Z50 hf).2
  have hX1:¬0<S.sn→X=[]:=fun s=>hX.symm.trans (by unfold Yw;rw[hf];exact if_neg s)
  have hX2:0<S.sn→X=Z1a q S:=fun s=>hX.symm.trans (by unfold Yw;rw[hf];exact if_pos s)
  have HX1:=hD0 hX1
  have HX2:=hD0 hX2
  have HSq:=hD0 (aI0 hS hSi)
  have HWa:=hD0 (fun z=>Z4m S z)
  have HAh:=hD0 (fun z=>Z4j S z)
  clear hX hf hX1 hX2 hS hSi
  have HSv:Hid (S=⟨S.id,S.txn,S.md,S.wt,S.sn⟩):=hD0 rfl
  obtain⟨s0,s1,s2,s3,s4⟩:=S
  simp only at HX1 HX2 HAh HSq
  unfold U6 at HFq1 HWa HAh
  clear HSv
  go_enter func29,ntmps29
  go_wp2_with fail
  rw[HW1.out]
  go_wp2_with fail
  go_at_call 39
  refine HFq1.out.mono ?_
  rintro e w2 ⟨rfl,g2⟩
  have hb3:=RqB.made w2 s0 s1 s2 s3 s4 63
  obtain⟨w3,hw3⟩:∃w3,w2.alloc (.cells #[.int .i64 s0,.int .i64 s1,.int .i64 s2,.int .i64 s3,.int .i64 s4] 63)=w3:=⟨_,rfl⟩
  have g3:Nw w2 w3:=by rw[←hw3];exact(Nw.refl w2).alloc _
  rw[hw3] at hb3
  have HW3:=hD0 hw3
  have HB3:=hD0 (aI0 hb3 (aI0 ((HB.out.2.trans g2).trans g3) (g3.at' (g2.at' HB.out.1))))
  obtain⟨yl,y0,y1,y2,y3,y4⟩:=hb3
  clear c0 c1 c2 c3 hpl g2 g3 hw3 HFq1
  go_wp2_with fail
  rw[HW3.out]
  go_wp2_with fail
  go_at_call 40
  refine(HWa.out _).mono ?_
  rintro e w4 ⟨rfl,g4⟩
  have HB4:=hD0 (aI0 (HB3.out.1.nw g4) (aI0 (HB3.out.2.1.trans g4) (g4.at' HB3.out.2.2)))
  clear yl y0 y1 y2 y3 y4 g4 HWa
  by_cases hs:0<s4
  rotate_left
  ·have ds:decide (0<s4)=false:=by simpa using hs
   have hR:=HX1.out (by first | exact hs | exact Int.not_lt.1 hs)
   subst hR
   clear hs HX1 HX2
   go_wp2
   go_ret
   exact⟨_,rfl,HB4.out.2.1,IS.nil _⟩
  have ds:decide (0<s4)=true:=by simpa using hs
  have hR:=HX2.out hs
  have HAll:=hD0 (Z7j HOk.out HSq.out.1 hs)
  rw[←hR] at HAll
  obtain⟨yl,y0,y1,y2,y3,y4⟩:=HB4.out.1
  clear hs HX1 HX2 hR
  go_wp2_with fail
  go_at_call 41
  refine(HAh.out _).mono ?_
  rintro e w5 ⟨pa,rfl,g5,hbx⟩
  obtain⟨g,lb,hfv,eg,hT⟩:=Yl.ahead (S:=⟨s0,s1,s2,s3,s4⟩) hbx
  have HT:=hD0 hT
  have HB5:=hD0 (aI0 (HB4.out.1.nw g5) (aI0 (HB4.out.2.1.trans g5) (g5.at' HB4.out.2.2)))
  have c2:=Z2 (j:=2) HB5.out.2.2
  have hpl:=hlt HB5.out.2.2
  rw[hfv]
  clear yl y0 y1 y2 y3 y4 g5 hbx hT hfv HAh ds
  go_wp2
  clear c2 hpl
  go_loopw [8,29] (fun x i wr=>∃k:Nat,k≤q.length∧i=.int .i64 k∧IS wr x (Uu q ⟨s0,s1,s2,s3,s4⟩ k)∧Nw w5 wr∧∀g,x.ownBlock=some g→w5.heap.size≤g) (fun _ i _=>q.length-(intOf i).toNat)
  case atStart=>exact⟨0,Nat.zero_le _,rfl,IS.nil _,Nw.refl _,fun g e=>by simp[Value.ownBlock] at e⟩
  case round =>
   obtain⟨k,hk,rfl,hI,hN,hfr⟩:=hrel
   by_cases hlk:k<q.length
   ·obtain⟨a',c',e,⟨e4,_⟩ | ⟨b,o,e4,hc⟩⟩:=(HAt.out.nw (HB5.out.2.1.trans hN))
    ·subst e4;simp at hlk
    simp only[Value.slice.injEq,true_and] at e
    obtain⟨rfl,rfl⟩:=e
    subst e4
    have hki:(k:Int)<(q.length:Int):=by omega
    have hstep:=Z4d q ⟨s0,s1,s2,s3,s4⟩ k hlk
    have hce:=hc.cell k hlk
    have HKn:=hD0 (aI0 (HOk.out.rt _ (gM0 hlk)).md (HOk.out.rt _ HSq.out.1).wt)
    have HTk:=hD0 (fun(z:World) (g:Nw w5 z)=>HT.out q[k] z g)
    generalize q[k]=R at *
    obtain⟨b0,b1,b2,b3,b4⟩:=R
    unfold U6 at HTk
    have e0:=hce 0 _ rfl
    have e1:=hce 1 _ rfl
    have e2:=hce 2 _ rfl
    have e3:=hce 3 _ rfl
    have e4:=hce 4 _ rfl
    simp only[Nat.add_zero] at e0
    simp only at hstep HTk HKn
    have hbk:bkC ⟨s0,s1,s2,s3,s4⟩ ⟨b0,b1,b2,b3,b4⟩=(!(b0==s0)&&((decide (0<b4)&&decide (toI ⟨b0,b1,b2,b3,b4⟩ ⟨s0,s1,s2,s3,s4⟩<0)) || !cpI b2 s3)):=rfl
    have g6:Nw wr (wr.alloc (.cells #[.int .i64 b0,.int .i64 b1,.int .i64 b2,.int .i64 b3,.int .i64 b4] 63)):=(Nw.refl wr).alloc _
    obtain⟨w6,hw6⟩:∃w6,wr.alloc (.cells #[.int .i64 b0,.int .i64 b1,.int .i64 b2,.int .i64 b3,.int .i64 b4] 63)=w6:=⟨_,rfl⟩
    have hs6:w6.heap.size=wr.heap.size+1:=by rw[←hw6];simp
    have hq6:=RqB.made wr b0 b1 b2 b3 b4 63
    rw[hw6] at g6 hq6
    have HQ6:=hD0 hq6
    obtain⟨hlq,x0,x1,x2,x3,x4⟩:=hq6
    have HI:=hD0 (aI0 (hI.nw g6) (aI0 (hN.trans g6) hfr))
    have HW6:=hD0 hw6
    have HCp:=hD0 (fun z=>dCp b2 s3 z HKn.out.1 HKn.out.2)
    obtain⟨A,hA⟩:∃A,(decide (0<b4)&&decide (toI ⟨b0,b1,b2,b3,b4⟩ ⟨s0,s1,s2,s3,s4⟩<0))=A:=⟨_,rfl⟩
    obtain⟨B,hB⟩:∃B,cpI b2 s3=B:=⟨_,rfl⟩
    rw[hA] at hbk HTk
    rw[hB] at hbk HCp
    have hy3:∀z,Nw w5 z→z.cell? ⟨w2.heap.size,3,none⟩=some (.int .i64 s3):=fun z hz=>hz.kp HB5.out.1.c3
    clear hce hI hN hfr g6 hw6 hA hB hc
    by_cases hi:b0=s0
    ·have di:(b0 != id)=false:=by have:=HSq.out.2;simp[hi,this]
     have hst:Uu q ⟨s0,s1,s2,s3,s4⟩ (k+1)=Uu q ⟨s0,s1,s2,s3,s4⟩ k:=by rw[hstep,if_neg (by rw[hbk];simp[hi])]
     have HS:=hD0 hst
     clear hstep hst hi hbk
     go_wp2_with fail
     go_roundw
     case rel=>exact⟨k+1,by omega,by go_num,by rw[HS.out];first | exact HI.out.1 | (rw[HW6.out];exact HI.out.1),by first | exact HI.out.2.1 | (rw[HW6.out];exact HI.out.2.1),HI.out.2.2⟩
     case measure=>simp[intOf];omega
    ·have di:(b0 != id)=true:=by have:=HSq.out.2;rw[←this];simpa using hi
     have hnb:(b0==s0)=false:=by simpa using hi
     rw[hnb] at hbk
     clear hi hnb
     cases A
     ·cases B
      ·
       have hst:Uu q ⟨s0,s1,s2,s3,s4⟩ (k+1)=Uu q ⟨s0,s1,s2,s3,s4⟩ k++[b1]:=by rw[hstep,if_pos (by rw[hbk];rfl)]
       have HS:=hD0 hst
       clear hstep hst hbk
       go_wp2_with fail
       rw[HW6.out]
       go_wp2_with fail
       go_at_fn g
       refine(HTk.out _ HI.out.2.1).mono ?_
       rintro e w7 ⟨rfl,g7⟩
       have hz3:=hy3 _ (HI.out.2.1.trans g7)
       have hzl:=World.block_lt_of_cell? _ _ hz3
       obtain⟨zl,z0,z1,z2,z3,z4⟩:=HQ6.out.nw g7
       have G7:=hD0 g7
       clear x0 x1 x2 x3 x4 hlq e0 e1 e2 e3 e4 g7
       go_wp2_with fail
       go_at_call 42
       refine(HCp.out _).mono ?_
       rintro e w8 ⟨rfl,g8⟩
       have hI8:=HI.out.1.nw (G7.out.trans g8)
       obtain⟨v',w9,hr,q1,q2,q3,⟨g',cap',hv'⟩⟩:=IS.push w8 _ (Uu q ⟨s0,s1,s2,s3,s4⟩ k) b1 hI8 (by have:=U0 q ⟨s0,s1,s2,s3,s4⟩ k;omega)
       have HR:=hD0 hr
       have HN8:=hD0 ((HI.out.2.1.trans G7.out).trans g8)
       have HE:Hid (IS w9 v' (Uu q ⟨s0,s1,s2,s3,s4⟩ (k+1))∧Nw w5 w9∧∀g,v'.ownBlock=some g→w5.heap.size≤g):=hD0 ⟨by rw[HS.out];exact q1,Ze HN8.out q2 (fun i e=>HI.out.2.2 i e),fun g e=>by
        rcases q3 g e with h | h
        ·exact HI.out.2.2 g h
        ·have:=HN8.out.sz;omega⟩
       obtain⟨zl',z0',z1',z2',z3',z4'⟩:=(HQ6.out.nw G7.out).nw g8
       clear hr q1 q2 q3 hI8 g8 hv' zl z0 z1 z2 z3 z4 hz3 hzl
       go_wp2_with (at_builtin;(refine Zr (by rfl) (.tmp 50) (.tmp 53) 28 rfl _ _ _ _ rfl rfl HR.out ?_))
       go_roundw
       case rel=>exact⟨k+1,by omega,by go_num,HE.out⟩
       case measure=>simp[intOf];omega
      ·have hst:Uu q ⟨s0,s1,s2,s3,s4⟩ (k+1)=Uu q ⟨s0,s1,s2,s3,s4⟩ k:=by rw[hstep,if_neg (by rw[hbk];simp)]
       have HS:=hD0 hst
       clear hstep hst hbk
       go_wp2_with fail
       rw[HW6.out]
       go_wp2_with fail
       go_at_fn g
       refine(HTk.out _ HI.out.2.1).mono ?_
       rintro e w7 ⟨rfl,g7⟩
       have hz3:=hy3 _ (HI.out.2.1.trans g7)
       have hzl:=World.block_lt_of_cell? _ _ hz3
       obtain⟨zl,z0,z1,z2,z3,z4⟩:=HQ6.out.nw g7
       have G7:=hD0 g7
       clear x0 x1 x2 x3 x4 hlq e0 e1 e2 e3 e4 g7
       go_wp2_with fail
       go_at_call 42
       refine(HCp.out _).mono ?_
       rintro e w8 ⟨rfl,g8⟩
       have G8:=hD0 (G7.out.trans g8)
       clear g8 zl z0 z1 z2 z3 z4 hz3 hzl
       go_wp2
       go_roundw
       case rel=>exact⟨k+1,by omega,by go_num,by rw[HS.out];exact HI.out.1.nw G8.out,HI.out.2.1.trans G8.out,HI.out.2.2⟩
       case measure=>simp[intOf];omega
     ·have hst:Uu q ⟨s0,s1,s2,s3,s4⟩ (k+1)=Uu q ⟨s0,s1,s2,s3,s4⟩ k++[b1]:=by rw[hstep,if_pos (by rw[hbk];simp)]
      have HS:=hD0 hst
      clear hstep hst hbk
      go_wp2_with fail
      rw[HW6.out]
      go_wp2_with fail
      go_at_fn g
      refine(HTk.out _ HI.out.2.1).mono ?_
      rintro e w8 ⟨rfl,g8⟩
      have hI8:=HI.out.1.nw g8
      obtain⟨v',w9,hr,q1,q2,q3,⟨g',cap',hv'⟩⟩:=IS.push w8 _ (Uu q ⟨s0,s1,s2,s3,s4⟩ k) b1 hI8 (by have:=U0 q ⟨s0,s1,s2,s3,s4⟩ k;omega)
      have HR:=hD0 hr
      have HN8:=hD0 (HI.out.2.1.trans g8)
      have HE:Hid (IS w9 v' (Uu q ⟨s0,s1,s2,s3,s4⟩ (k+1))∧Nw w5 w9∧∀g,v'.ownBlock=some g→w5.heap.size≤g):=hD0 ⟨by rw[HS.out];exact q1,Ze HN8.out q2 (fun i e=>HI.out.2.2 i e),fun g e=>by
       rcases q3 g e with h | h
       ·exact HI.out.2.2 g h
       ·have:=HN8.out.sz;omega⟩
      obtain⟨zl',z0',z1',z2',z3',z4'⟩:=HQ6.out.nw g8
      clear hr q1 q2 q3 hI8 g8 hv' x0 x1 x2 x3 x4 hlq e0 e1 e2 e3 e4
      go_wp2_with (at_builtin;(refine Zr (by rfl) (.tmp 50) (.tmp 53) 28 rfl _ _ _ _ rfl rfl HR.out ?_))
      go_roundw
      case rel=>exact⟨k+1,by omega,by go_num,HE.out⟩
      case measure=>simp[intOf];omega
   ·obtain rfl:k=q.length:=by omega
    have HSo:=hD0 (Z7p _ _ _ hI (Nat.le_trans (U0 q _ _) hl))
    have HE:=hD0 (aI0 hN hfr)
    clear hI hN hfr
    go_wp2_with fail
    go_at_call 43
    refine HSo.out.mono ?_
    rintro e w9 ⟨rfl,hI9,hT9⟩
    have HCm:=hD0 (Z3h _ _ _ hI9 (by rw[List.length_mergeSort];exact Nat.le_trans (U0 q _ _) hl))
    have HN9:=hD0 (Ze HE.out.1 hT9 (fun i e=>HE.out.2 i e))
    clear hI9 hT9
    go_wp2_with fail
    go_at_call 44
    refine HCm.out.mono ?_
    rintro e w10 ⟨v10,rfl,hI10,_,hT10⟩
    have HZ:=hD0 (aI0 hI10 (Ze HN9.out hT10 (fun i e=>HE.out.2 i e)))
    clear hI10 hT10
    go_wp2
    go_ret
    exact⟨_,rfl,HB5.out.2.1.trans HZ.out.2,by rw[←HAll.out];exact HZ.out.1⟩
structure Hv where
 h:Hq
 v:Value
def Z51(x:Hv):List Value:=[.int .i64 x.h.t,.int .i64 x.h.r,x.v,.int .i64 x.h.W]
structure Z48(w:World)(x:Hv):Prop where
 at_:Z2b w x.v x.h.q
 ok:Ok x.h.W x.h.q
 len:x.h.q.length≤12
theorem Z48.nw{w w':World}{x:Hv}(h:Z48 w x)(g:Nw w w'):Z48 w' x:=⟨h.at_.nw g,h.ok,h.len⟩
def edL(l:List Hv)(k:Nat):List (Int × Int):=(l.take k).flatMap fun x=>edH x.h.q x.h.q.length
theorem V5{α β:Type}(f:α→List β)(N:Nat):∀(p:List α),(∀x∈p,(f x).length≤N)→(p.flatMap f).length≤p.length*N
 | [],_=>by simp
 | x::r,h=>by
  rw[List.flatMap_cons,List.length_append,List.length_cons,Nat.add_mul,Nat.one_mul,Nat.add_comm]
  exact Nat.add_le_add (V5 f N r fun y hy=>h y (List.mem_cons_of_mem _ hy)) (h x (List.mem_cons_self ..))
theorem U7(q:List Rq)(id:Int):(Yw q id).length≤q.length:=by
 unfold Yw
 split
 ·simp
 ·split
  ·rename_i r _ _
   have hn:(Z1a q r).Nodup:=(Vr q r).imp (fun {a b} k=>by omega)
   have:=V8 (m:=q.map Rq.txn) hn fun y hy=>by
    obtain⟨o,ho,_,_,e⟩:=(V2 q r y).1 hy
    exact List.mem_map.2 ⟨o,ho,e⟩
   simpa using this
  ·simp
theorem Z6e(q:List Rq)(r:Rq):(edR q r).length≤q.length:=by
 unfold edR
 split
 ·rw[Up];exact U7 q r.id
 ·simp
theorem Z0q{q:List Rq}(h:q.length≤12)(n:Nat):(edH q n).length≤144:=by
 have h1:=V5 (edR q) 12 (q.take n) fun r _=>Nat.le_trans (Z6e q r) h
 have h2:(q.take n).length≤12:=Nat.le_trans (by rw[List.length_take];omega) h
 unfold edH
 omega
theorem Z2z{l:List Hv}(hl:l.length≤8)(h:∀x∈l,x.h.q.length≤12)(n:Nat):(edL l n).length≤1152:=by
 have h1:=V5 (fun x:Hv=>edH x.h.q x.h.q.length) 144 (l.take n) fun x hx=>Z0q (h x (List.mem_of_mem_take hx)) _
 have h2:(l.take n).length≤8:=Nat.le_trans (by rw[List.length_take];omega) hl
 unfold edL
 omega
theorem Z4t{q:List Rq}{j:Nat}(hj:j<q.length):edH q (j+1)=edH q j++edR q q[j]:=by
 unfold edH
 rw[List.take_succ_eq_append_getElem hj,List.flatMap_append]
 simp
theorem Z4v{l:List Hv}{k:Nat}(hk:k<l.length):edL l (k+1)=edL l k++edH l[k].h.q l[k].h.q.length:=by
 unfold edL
 rw[List.take_succ_eq_append_getElem hk,List.flatMap_append]
 simp
theorem Z1p{w w':World}{row:Option Nat}(g:w.grownBy w' row):Zc (fun b=>row=some b) w w':=⟨g.os,g.tape,g.output,g.size,fun k hk hn=>g.block k hk (fun e=>hn e.symm)⟩
theorem Z57{α:Type}{P:Program}{ST T:TypeId}{sz bytes:Nat}{row:α→List Value}(E:Uv P ST T sz bytes row){w:World}{g0:Nat}{v v2:Value}{l sg:List α}(h:Y4 T sz row w g0 v l)(h2:Rd sz row w v2 sg)(hsm:l.length+sg.length≤100000)(hg0:g0≤w.heap.size) :
  ∃v' w1,(Builtin.append_ #[ST,ST] ST #[v,v2]).run P w=.ok v' w1∧Y4 T sz row w1 g0 v' (l++sg)∧w.grownBy w1 v.ownBlock∧(v'.ownBlock=v.ownBlock∨v'.ownBlock=some w.heap.size):=by
 obtain⟨a,c,rfl,⟨rfl,h0⟩ | ⟨b,o,rfl,hc⟩⟩:=h2
 ·cases a with
  | none =>
   obtain rfl:=h0 rfl
   obtain⟨i0,z,hi,hz0,hz1,hz2,hz3⟩:=E.inf
   exact⟨_,_,run_append_owned_none (P:=P) w g0 ST ST T i0 sz E.und hi _ _ _ h,by rw[List.append_nil];exact h,(Nw.refl w).grownBy _,.inl rfl⟩
  | some ad=>exact Y4.many E h [] ad c (fun j u hu=>by simp[Z7] at hu) hsm hg0
 ·exact Y4.many E h sg ⟨b,o,none⟩ c (hc.flat E.len E.pos) hsm hg0
def CsE(A B:Nat)(ht hr:Int)(v:Value)(hW ri rt:Int)(z:World):Prop :=
 z.cell? ⟨A,0,none⟩=some (.int .i64 ht)∧z.cell? ⟨A,1,none⟩=some (.int .i64 hr)∧z.cell? ⟨A,2,none⟩=some v∧z.cell? ⟨A,3,none⟩=some (.int .i64 hW)∧z.cell? ⟨B,0,none⟩=some (.int .i64 ri)∧z.cell? ⟨B,1,none⟩=some (.int .i64 rt)
theorem CsE.tch{A B:Nat}{ht hr:Int}{v:Value}{hW ri rt:Int}{z z':World}(h:CsE A B ht hr v hW ri rt z){S:Nat→Prop}(t:Zc S z z')(hA:A<z.heap.size)(hB:B<z.heap.size)(nA:¬S A)(nB:¬S B):CsE A B ht hr v hW ri rt z' :=
 ⟨(t.cell hA nA).trans h.1,(t.cell hA nA).trans h.2.1,(t.cell hA nA).trans h.2.2.1,(t.cell hA nA).trans h.2.2.2.1,(t.cell hB nB).trans h.2.2.2.2.1,(t.cell hB nB).trans h.2.2.2.2.2⟩
theorem Z6k{w:World}{g0 g1:Nat}{v:Value}{l:List (Int × Int)}(h:Za w g1 v l)(k:g0≤g1):Za w g0 v l:=by
 obtain⟨h1,h2⟩:=h
 refine⟨h1,?_⟩
 rcases h2 with h2 | ⟨g,cap,cur,q1,q2,q3⟩
 ·exact .inl h2
 ·exact .inr ⟨g,cap,cur,q1,Nat.le_trans k q2,q3⟩
structure EdI(W0:World)(l:List Hv)(v:Value)(k:Nat)(w:World):Prop where
 own:Za w W0.heap.size v (edL l k)
 nw:Nw W0 w
structure EdJ(W0 w4:World)(A:Nat)(l:List Hv)(q:List Rq)(v:Value)(k n:Nat)(w:World):Prop where
 own:Za w W0.heap.size v (edL l k++edH q n)
 nw:Nw W0 w
 tch:Zc (fun j=>W0.heap.size≤j∧j≠A) w4 w
 off:v.ownBlock≠some A
theorem Z3k{w0:World}{v:Value}{l:List Hv}(h:Rd 4 Z51 w0 v l)(hx:∀x∈l,Z48 w0 x)(hl:l.length≤8) :
  Calls prog 14 #[v] w0 fun e w'=>∃v',e=.returned v'∧Za w' w0.heap.size v' (sortE (edL l l.length))∧Nw w0 w':=by
 have HX:=hD0 hx
 obtain⟨a,c,rfl,hd⟩:=h
 have HD:=hD0 hd
 obtain⟨n,hn⟩:∃n,l.length=n:=⟨_,rfl⟩
 have HN:=hD0 hn
 rw[hn] at hl ⊢
 clear hd hn hx
 go_enter func14,ntmps14
 go_wp2_with fail
 go_loopw [3,10] (fun v3 v10 wr=>∃(k:Nat) (a b c:_),v3=.slice a b c∧v10=.int .i64 k∧k≤n∧Hid (EdI w0 l (.slice a b c) k wr)) (fun _ v10 _=>n-(intOf v10).toNat)
 case atStart=>exact⟨0,none,0,0,rfl,rfl,Nat.zero_le _,hD0 ⟨World.ownsRow_nil _ _ _ _,Nw.refl _⟩⟩
 case round =>
  obtain⟨k,sa,sb,sc,rfl,rfl,hkn,HI⟩:=hrel
  by_cases hlt:k<n
  ·have hkl:k<l.length:=by rw[HN.out];exact hlt
   rcases HD.out with⟨q,_⟩ | ⟨eb,eo,rfl,hrc⟩
   ·rw[q] at hkl;simp at hkl
   have hrw:=hrc.nw HI.out.nw
   obtain⟨x,hxk⟩:∃x,l[k]=x:=⟨_,rfl⟩
   have hxm:x∈l:=hxk▸gM0 hkl
   have z0:=hrw.cell k hkl 0 (.int .i64 x.h.t) (by rw[hxk];rfl)
   have z1:=hrw.cell k hkl 1 (.int .i64 x.h.r) (by rw[hxk];rfl)
   have z2:=hrw.cell k hkl 2 x.v (by rw[hxk];rfl)
   have z3:=hrw.cell k hkl 3 (.int .i64 x.h.W) (by rw[hxk];rfl)
   have hebl:=hrw.lt
   have HO:=hD0 ((HX.out x hxm).nw HI.out.nw)
   obtain⟨⟨ht,hr,hW,q⟩,qv⟩:=x
   obtain⟨qa,qc,e,hqd⟩:=HO.out.at_
   simp only at e
   subst e
   have HQD:=hD0 hqd
   have Yh:=Y6 hlt
   have hw:=Ya k (k+1) (by omega) rfl
   obtain⟨k1,hk1⟩:∃m,k+1=m:=⟨_,rfl⟩
   have HK1:=hD0 (aI0 hk1 hlt)
   have HXK:=hD0 (show ∃h:k<l.length,l[k]=_ from⟨hkl,hxk⟩)
   rw[hk1] at hw
   obtain⟨m,hm⟩:∃m,q.length=m:=⟨_,rfl⟩
   have HM:=hD0 hm
   simp only[hm] at z2
   simp only[Nat.add_zero] at z0 z1 z3
   clear hk1 hxk hkl hrw hrc hqd hlt hm
   go_upto_region 5 with fail
   have hal:=Z5 wr (.cells #[.int .i64 ht,.int .i64 hr,.slice qa m qc,.int .i64 hW] 60)
   have g4:Nw wr (wr.alloc (.cells #[.int .i64 ht,.int .i64 hr,.slice qa m qc,.int .i64 hW] 60)):=(Nw.refl wr).alloc _
   obtain⟨w4,hw4⟩:∃w4,wr.alloc (.cells #[.int .i64 ht,.int .i64 hr,.slice qa m qc,.int .i64 hW] 60)=w4:=⟨_,rfl⟩
   obtain⟨A,hA⟩:∃A,wr.heap.size=A:=⟨_,rfl⟩
   have hAg:w0.heap.size≤A:=by rw[←hA];exact HI.out.nw.sz
   have HJ:=hD0 (show EdJ w0 w4 A l q (.slice sa sb sc) k 0 w4 from by
    refine⟨?_,?_,Zc.refl _ _,fun e=>?_⟩
    ·rw[←hw4]
     have:=onw HI.out.own g4
     simpa [edH] using this
    ·rw[←hw4];exact HI.out.nw.trans g4
    ·have:=olt HI.out.own e
     omega)
   rw[hA] at hal ⊢
   rw[hw4] at hal g4 ⊢
   have HAL:=hD0 (aI0 hal (Go.Proofs.Ytbefaomgldckdaa.hlt hal))
   have HO4:=hD0 (HX.out _ hxm)
   have hml:m≤12:=by rw[←HM.out];exact HO.out.len
   have a0:=Z2 hal (j:=0)
   have a1:=Z2 hal (j:=1)
   have a2:=Z2 hal (j:=2)
   have a3:=Z2 hal (j:=3)
   clear hal g4 hw4 hA z0 z1 z2 z3 HO hebl
   go_wp2_with fail
   clear a0 a1 a2 a3
   go_loopw [3,17] (fun v3 v17 wr=>∃(j:Nat) (a b c:_),v3=.slice a b c∧v17=.int .i64 j∧j≤m∧Hid (EdJ w0 w4 A l q (.slice a b c) k j wr)) (fun _ v17 _=>m-(intOf v17).toNat)
   case atStart=>exact⟨0,_,_,_,rfl,rfl,Nat.zero_le _,HJ⟩
   case round =>
    clear HJ HI
    obtain⟨j,sa,sb,sc,rfl,rfl,hjm,HJ⟩:=hrel
    by_cases hltj:j<m
    ·have hjq:j<q.length:=by rw[HM.out];exact hltj
     have hq4:=HO4.out.at_.nw HJ.out.nw
     obtain⟨qa',qc',e,hqd⟩:=hq4
     simp only[Value.slice.injEq] at e
     obtain⟨rfl,_,rfl⟩:=e
     rcases hqd with⟨e,_⟩ | ⟨qb,qo,rfl,hqc⟩
     ·have e':q=[]:=e
      rw[e'] at hjq;simp at hjq
     obtain⟨R,hR⟩:∃R,q[j]=R:=⟨_,rfl⟩
     have hRm:R∈q:=hR▸gM0 hjq
     have r0:=hqc.cell j hjq 0 (.int .i64 R.id) (by rw[hR];rfl)
     have r1:=hqc.cell j hjq 1 (.int .i64 R.txn) (by rw[hR];rfl)
     have r2:=hqc.cell j hjq 2 (.int .i64 R.md) (by rw[hR];rfl)
     have r3:=hqc.cell j hjq 3 (.int .i64 R.wt) (by rw[hR];rfl)
     have r4:=hqc.cell j hjq 4 (.int .i64 R.sn) (by rw[hR];rfl)
     have hqbl:=hqc.lt
     simp only[Nat.add_zero] at r0 r1 r2 r3 r4
     have hltj':=Y6 hltj
     have hwj:=Ya j (j+1) (by omega) rfl
     obtain⟨j1,hj1⟩:∃m,j+1=m:=⟨_,rfl⟩
     have HJ1:=hD0 (aI0 hj1 hltj)
     have hed:edH q j1=edH q j++edR q R:=by rw[←hj1,←hR];exact Z4t hjq
     have HED:=hD0 hed
     have HRm:=hD0 hRm
     rw[hj1] at hwj
     obtain⟨ri,rt,rm,rw_,rs⟩:=R
     simp only at r0 r1 r2 r3 r4
     clear hj1 hR hjq hqc hed hRm hltj
     go_upto_region 8 with fail
     have hal:=Z5 wr (.cells #[.int .i64 ri,.int .i64 rt,.int .i64 rm,.int .i64 rw_,.int .i64 rs] 63)
     have g5:Nw wr (wr.alloc (.cells #[.int .i64 ri,.int .i64 rt,.int .i64 rm,.int .i64 rw_,.int .i64 rs] 63)):=(Nw.refl wr).alloc _
     obtain⟨w5,hw5⟩:∃w5,wr.alloc (.cells #[.int .i64 ri,.int .i64 rt,.int .i64 rm,.int .i64 rw_,.int .i64 rs] 63)=w5:=⟨_,rfl⟩
     obtain⟨B,hB⟩:∃B,wr.heap.size=B:=⟨_,rfl⟩
     have HJ5:=hD0 (show EdJ w0 w4 A l q (.slice sa sb sc) k j w5 from by
      rw[←hw5]
      exact⟨onw HJ.out.own g5,HJ.out.nw.trans g5,HJ.out.tch.alloc _,HJ.out.off⟩)
     rw[hB] at hal ⊢
     rw[hw5] at hal g5 ⊢
     have b0:=Z2 hal (j:=0)
     have b1:=Z2 hal (j:=1)
     have b4:=Z2 hal (j:=4)
     have HBl2:=hD0 (Go.Proofs.Ytbefaomgldckdaa.hlt hal)
     have HBo:=hD0 (show ¬(Value.slice sa sb sc).ownBlock=some B from fun e=>by
      have:=olt HJ.out.own e
      omega)
     clear hal g5 hw5 hB r0 r1 r2 r3 r4 HJ hqbl
     by_cases hs:0<rs
     ·have dS:decide (0<rs)=true:=decide_eq_true hs
      have tA:A<w4.heap.size:=HAL.out.2
      have cA:∀z,Nw w5 z→∀o,z.cell? ⟨A,o,none⟩=w4.cell? ⟨A,o,none⟩:=fun z g o=>(HJ5.out.tch.trans (Zc.nw g)).cell tA (fun e=>e.2 rfl)
      have HCs:=hD0 (show ∀z,Nw w5 z→CsE A B ht hr (.slice (some ⟨qb,qo,none⟩) m qc) hW ri rt z from fun z g=>⟨(cA z g 0).trans (Z2 HAL.out.1 (j:=0)),(cA z g 1).trans (Z2 HAL.out.1 (j:=1)),(cA z g 2).trans (Z2 HAL.out.1 (j:=2)),(cA z g 3).trans (Z2 HAL.out.1 (j:=3)),g.kp b0,g.kp b1⟩)
      have ta0:∀z,CsE A B ht hr (.slice (some ⟨qb,qo,none⟩) m qc) hW ri rt z→z.cell? ⟨A,0,none⟩=some (.int .i64 ht):=fun z h=>h.1
      have ta1:∀z,CsE A B ht hr (.slice (some ⟨qb,qo,none⟩) m qc) hW ri rt z→z.cell? ⟨A,1,none⟩=some (.int .i64 hr):=fun z h=>h.2.1
      have ta2:∀z,CsE A B ht hr (.slice (some ⟨qb,qo,none⟩) m qc) hW ri rt z→z.cell? ⟨A,2,none⟩=some (.slice (some ⟨qb,qo,none⟩) m qc):=fun z h=>h.2.2.1
      have ta3:∀z,CsE A B ht hr (.slice (some ⟨qb,qo,none⟩) m qc) hW ri rt z→z.cell? ⟨A,3,none⟩=some (.int .i64 hW):=fun z h=>h.2.2.2.1
      have tb0:∀z,CsE A B ht hr (.slice (some ⟨qb,qo,none⟩) m qc) hW ri rt z→z.cell? ⟨B,0,none⟩=some (.int .i64 ri):=fun z h=>h.2.2.2.2.1
      have tb1:∀z,CsE A B ht hr (.slice (some ⟨qb,qo,none⟩) m qc) hW ri rt z→z.cell? ⟨B,1,none⟩=some (.int .i64 rt):=fun z h=>h.2.2.2.2.2
      have HBl:=hD0 (fun(z:World) (g:Nw w5 z)=>Z3g ht hr hW ri (.slice (some ⟨qb,qo,none⟩) m qc) q z (Nat.le_trans HO4.out.len (by decide)) HO4.out.ok (by
       have:=HO4.out.at_.nw (HJ5.out.nw.trans g)
       rw[←HM.out];exact this))
      have hsl:=HED.out
      rw[show edR q ⟨ri,rt,rm,rw_,rs⟩=Vo rt (Yw q ri) from if_pos hs] at hsl
      have HSL:=hD0 hsl
      clear hsl cA tA hs b0 b1
      go_wp2_with fail
      refine Z9 [] (CsE A B ht hr (.slice (some ⟨qb,qo,none⟩) m qc) hW ri rt) (by kernel_rfl) ?_
      change Z8 _ _ _ _ _ _ 10 #[false,false,false,false,false,false,false,false,false,false] _ w5.drew
      obtain⟨y4,hy4⟩:∃y,w5.drew=y:=⟨_,rfl⟩
      rw[hy4]
      have hN0:Nw w5 y4:=by rw[←hy4];exact(Nw.refl w5).dr
      clear hy4
      have hS0:=HCs.out y4 hN0
      refine Z0 0 rfl (by kernel_rfl) (by kernel_rfl) (by kernel_rfl) (fun v c a w h=>h) ?_
      (first | (refine⟨undef,Or.inr ⟨by rfl,rfl⟩,?_⟩) | (apply Exists.intro;refine⟨Or.inl ⟨by rfl,?_⟩,?_⟩;(intro x hx';go_simp;first | done | with_reducible rfl)))
      (try simp only[Act.put,List.getElem_toArray,List.getElem_cons_zero,List.getElem_cons_succ,List.setIfInBounds_toArray,List.set_cons_zero,List.set_cons_succ])
      refine Z0 1 rfl (by kernel_rfl) (by kernel_rfl) (by kernel_rfl) (fun v c a w h=>h) ?_
      (first | (refine⟨undef,Or.inr ⟨by rfl,rfl⟩,?_⟩) | (apply Exists.intro;refine⟨Or.inl ⟨by rfl,?_⟩,?_⟩;(intro x hx';go_simp;first | done | with_reducible rfl)))
      (try simp only[Act.put,List.getElem_toArray,List.getElem_cons_zero,List.getElem_cons_succ,List.setIfInBounds_toArray,List.set_cons_zero,List.set_cons_succ])
      refine Z1 2 rfl (by kernel_rfl) (by kernel_rfl) (by kernel_rfl) (by kernel_rfl) (fun v c a w h=>h) hS0 ?_
      (first | (refine⟨undef,Or.inr ⟨by rfl,rfl⟩,?_⟩) | (apply Exists.intro;refine⟨Or.inl ⟨by rfl,?_⟩,?_⟩;(intro x hx';go_simp;first | done | with_reducible rfl)))
      (try simp only[Act.put,List.getElem_toArray,List.getElem_cons_zero,List.getElem_cons_succ,List.setIfInBounds_toArray,List.set_cons_zero,List.set_cons_succ])
      refine Z1 3 rfl (by kernel_rfl) (by kernel_rfl) (by kernel_rfl) (by kernel_rfl) (fun v c a w h=>h) hS0 ?_
      (first | (refine⟨undef,Or.inr ⟨by rfl,rfl⟩,?_⟩) | (apply Exists.intro;refine⟨Or.inl ⟨by rfl,?_⟩,?_⟩;(intro x hx';go_simp;first | done | with_reducible rfl)))
      (try simp only[Act.put,List.getElem_toArray,List.getElem_cons_zero,List.getElem_cons_succ,List.setIfInBounds_toArray,List.set_cons_zero,List.set_cons_succ])
      refine Z0 4 rfl (by kernel_rfl) (by kernel_rfl) (by kernel_rfl) (fun v c a w h=>h) ?_
      (first | (refine⟨undef,Or.inr ⟨by rfl,rfl⟩,?_⟩) | (apply Exists.intro;refine⟨Or.inl ⟨by rfl,?_⟩,?_⟩;(intro x hx';go_simp;first | done | with_reducible rfl)))
      (try simp only[Act.put,List.getElem_toArray,List.getElem_cons_zero,List.getElem_cons_succ,List.setIfInBounds_toArray,List.set_cons_zero,List.set_cons_succ])
      refine Z1 5 rfl (by kernel_rfl) (by kernel_rfl) (by kernel_rfl) (by kernel_rfl) (fun v c a w h=>h) hS0 ?_
      (first | (refine⟨undef,Or.inr ⟨by rfl,rfl⟩,?_⟩) | (apply Exists.intro;refine⟨Or.inl ⟨by rfl,?_⟩,?_⟩;(intro x hx';go_simp;first | done | with_reducible rfl)))
      (try simp only[Act.put,List.getElem_toArray,List.getElem_cons_zero,List.getElem_cons_succ,List.setIfInBounds_toArray,List.set_cons_zero,List.set_cons_succ])
      refine Z3 6 (by kernel_rfl) rfl (fun K hK=>?_)
      rw[if_pos (by rfl)]
      (try simp only[List.getElem_toArray,List.getElem_cons_zero,List.getElem_cons_succ])
      go_simp
      refine(HBl.out y4 hN0).mono ?_
      rintro e w6 ⟨v6,rfl,g6,hI6⟩
      refine hK _ _ (.inr (HCs.out w6 (hN0.trans g6))) ?_
      clear hK K
      (try simp only[Act.put,List.getElem_toArray,List.getElem_cons_zero,List.getElem_cons_succ,List.setIfInBounds_toArray,List.set_cons_zero,List.set_cons_succ])
      have hTw:=Z2u hI6 (Nat.le_trans (U7 q ri) (Nat.le_trans HO4.out.len (by decide))) rt
      have hS6:=hN0.trans g6
      clear g6 hI6 hS0 hN0
      refine Z3 7 (by kernel_rfl) rfl (fun K hK=>?_)
      rw[if_pos (by rfl)]
      (try simp only[List.getElem_toArray,List.getElem_cons_zero,List.getElem_cons_succ])
      go_simp
      refine hTw.mono ?_
      rintro e w7 ⟨v7,rfl,hO7,g7⟩
      refine hK _ _ (.inr (HCs.out w7 (hS6.trans g7))) ?_
      clear hK K hTw
      (try simp only[Act.put,List.getElem_toArray,List.getElem_cons_zero,List.getElem_cons_succ,List.setIfInBounds_toArray,List.set_cons_zero,List.set_cons_succ])
      have hS7:=hS6.trans g7
      have hle:(edL l k++edH q j).length+(Vo rt (Yw q ri)).length≤100000:=by
       have h1:=Z2z (l:=l) (by rw[HN.out];exact hl) (fun x hx=>(HX.out x hx).len) k
       have h2:(edH q j).length≤144:=Z0q HO4.out.len j
       have h3:(Yw q ri).length≤12:=Nat.le_trans (U7 q ri) HO4.out.len
       rw[List.length_append,Up]
       omega
      obtain⟨v8,w8,hr8,hO8,hg8,hp8⟩:=Z57 Yx (onw HJ5.out.own hS7) hO7.at_ hle (HJ5.out.nw.trans hS7).sz
      obtain⟨n8,hn8⟩:∃n,(edL l k++edH q j++Vo rt (Yw q ri)).length=n:=⟨_,rfl⟩
      have hCs8:CsE A B ht hr (.slice (some ⟨qb,qo,none⟩) m qc) hW ri rt w8:=(HCs.out w7 hS7).tch (Z1p hg8) (lL0 HAL.out.2 (HJ5.out.tch.trans (Zc.nw hS7)).size) (lL0 HBl2.out hS7.sz) HJ5.out.off HBo.out
      rcases Yv hO8 with⟨rfl,e8⟩ | ⟨g8,cap8,rfl⟩
      all_goals
       try rw[hn8] at hr8 hO8 hp8
       have HJ8:=hD0 (show EdJ w0 w4 A l q _ k j1 w8 from⟨by
        rw[HSL.out,←List.append_assoc];exact hO8,(HJ5.out.nw.trans hS7).gro hg8 (fun b e=>oge HJ5.out.own e),(HJ5.out.tch.trans (Zc.nw hS7)).grown hg8 (fun b e=>by
         by_cases hb:w4.heap.size≤b
         ·exact .inr hb
         ·exact .inl ⟨oge HJ5.out.own e,fun e'=>HJ5.out.off (by rw[e,e'])⟩),fun e=>by
         rcases hp8 with p8 | p8
         ·exact HJ5.out.off (by rw[←p8,e])
         ·rw[p8] at e
          have:=Option.some.inj e
          have h5:=HAL.out.2
          have h6:=(HJ5.out.tch.trans (Zc.nw hS7)).size
          omega⟩)
       have HR8:=hD0 hr8
       clear hr8 hO8 hg8 hp8 hO7 g7 hle hn8
       refine Z3 8 (by kernel_rfl) rfl (fun K hK=>?_)
       refine Z39 (by rfl) (.tmp 24) (.tmp 31) 33 rfl _ _ _ _ rfl rfl HR8.out ?_
       refine hK _ _ (.inr hCs8) ?_
       clear hK K HR8
       (try simp only[Act.put,List.getElem_toArray,List.getElem_cons_zero,List.getElem_cons_succ,List.setIfInBounds_toArray,List.set_cons_zero,List.set_cons_succ])
       refine Z0 9 rfl (by kernel_rfl) (by kernel_rfl) (by kernel_rfl) (fun v c a w h=>h) ?_
       (first | (refine⟨undef,Or.inr ⟨by rfl,rfl⟩,?_⟩) | (apply Exists.intro;refine⟨Or.inl ⟨by rfl,?_⟩,?_⟩;(intro x hx';go_simp;first | done | with_reducible rfl)))
       (try simp only[Act.put,List.getElem_toArray,List.getElem_cons_zero,List.getElem_cons_succ,List.setIfInBounds_toArray,List.set_cons_zero,List.set_cons_succ])
       refine Z4 (by kernel_rfl) ?_ _
       refine NoPanic.normal ?_
       (try simp only[Act.put,List.getElem_toArray,List.getElem_cons_zero,List.getElem_cons_succ,List.setIfInBounds_toArray,List.set_cons_zero,List.set_cons_succ])
       clear hS7 hS6 hCs8 ta0 ta1 ta2 ta3 tb0 tb1
       go_wp2_with fail
       exact⟨⟨j1,_,_,_,rfl,rfl,by rw[←HJ1.out.1];exact HJ1.out.2,HJ8⟩,by rw[←HJ1.out.1];exact Ye HJ1.out.2⟩
     ·have dS:decide (0<rs)=false:=decide_eq_false hs
      have HJ6:=hD0 (show EdJ w0 w4 A l q (.slice sa sb sc) k j1 w5 from⟨by
       rw[HED.out,show edR q ⟨ri,rt,rm,rw_,rs⟩=[] from if_neg hs,List.append_nil]
       exact HJ5.out.own,HJ5.out.nw,HJ5.out.tch,HJ5.out.off⟩)
      clear hs HJ5 b0 b1
      go_wp2_with fail
      exact⟨⟨j1,_,_,_,rfl,rfl,by rw[←HJ1.out.1];exact HJ1.out.2,HJ6⟩,by rw[←HJ1.out.1];exact Ye HJ1.out.2⟩
    ·obtain rfl:j=m:=Nat.le_antisymm hjm (Nat.le_of_not_lt hltj)
     have hltj':¬j<j:=Nat.lt_irrefl j
     have HI2:=hD0 (show EdI w0 l (.slice sa sb sc) k1 wr from⟨by
      obtain⟨h1,h2⟩:=HXK.out
      rw[←HK1.out.1,Z4v h1,h2]
      have:=HJ.out.own
      rw[←HM.out] at this
      exact this,HJ.out.nw⟩)
     clear hltj HJ
     go_wp2_with fail
     exact⟨⟨k1,_,_,_,rfl,rfl,by rw[←HK1.out.1];exact HK1.out.2,HI2⟩,by rw[←HK1.out.1];exact Ye HK1.out.2⟩
  ·obtain rfl:k=n:=Nat.le_antisymm hkn (Nat.le_of_not_lt hlt)
   have Yh:¬k<k:=Nat.lt_irrefl k
   have HS:=hD0 (Um (Za.at_ HI.out.own) (Nat.le_trans (Z2z (l:=l) (by rw[HN.out];exact hl) (fun x hx=>(HX.out x hx).len) k) (by decide)))
   have HI2:=hD0 HI.out.nw
   clear hlt HI
   go_wp2_with fail
   refine HS.out.mono ?_
   rintro e w9 ⟨v9,rfl,hO9,g9⟩
   have HZ:=hD0 (aI0 (show Za w9 w0.heap.size v9 (sortE (edL l k)) from Z6k hO9 HI2.out.sz) (HI2.out.trans g9))
   clear hO9 g9
   go_wp2
   go_ret
   exact⟨_,rfl,HZ.out.1,HZ.out.2⟩
section
variable {P:Program} {md:Region.Mode} {ops:Array Oper} {Q:Exit→Act→World→Prop} {S:World→Prop} {ts:List Nat}
end
structure Fr3(W0:World)(now seen next:List Int)(v7 v8 v10:Value)(w:World):Prop where
 n7:IS w v7 now
 o8:InO w W0.heap.size v8 seen
 o10:InO w W0.heap.size v10 next
 nw:Nw W0 w
 d78:∀b,v7.ownBlock=some b→v8.ownBlock≠some b
 d710:∀b,v7.ownBlock=some b→v10.ownBlock≠some b
 d810:∀b,v8.ownBlock=some b→v10.ownBlock≠some b
section
variable {W0 w z:World} {now seen next:List Int} {v7 v8 v10:Value}
end
structure OwI(W0:World)(out:List (Int × Int))(v:Value)(w:World):Prop where
 own:Za w W0.heap.size v out
 nw:Nw W0 w
structure SrK(out:List (Int × Int))(x:Int × Int)(k:Nat):Prop where
 lo:∀j,(h:j<out.length)→j<k→U9 out[j] x
structure GrW(W0 w1:World)(s:List (Int × Int))(a:Int)(N:Nat)(r:List Int)(last:Int)(n:Nat)(v:Value)(w:World):Prop where
 inv:GrI s a N r last n
 own:InO w W0.heap.size v (a::r)
 nw:Nw w1 w
theorem Z3w:([]:List Int).length=0:=rfl
def Z96(v0 v5:Value)(l:List (Int × Int)):Prop:=∀b o n c,v0=.slice (some ⟨b,o,none⟩) n c→v5.ownBlock≠some b∨l=[]
theorem Z7q{w z:World}{v:Value}{l:List (Int × Int)}{S:Nat→Prop}(h:Zl w v l)(t:Zc S w z)(hn:∀b o n c,v=.slice (some ⟨b,o,none⟩) n c→¬S b∨l=[]):Zl z v l:=by
 obtain⟨a,c,e,hx⟩:=h
 subst e
 rcases hx with hx | ⟨b,o,rfl,hc⟩
 ·exact⟨a,c,rfl,.inl hx⟩
 ·rcases hn _ _ _ _ rfl with hb | hb
  ·exact⟨_,c,rfl,.inr ⟨b,o,rfl,lL0 hc.lt t.size,fun i hi j u hu=>(t.cell hc.lt hb).trans (hc.cell i hi j u hu)⟩⟩
  ·subst hb
   exact⟨_,c,rfl,.inl ⟨rfl,fun e=>nomatch e⟩⟩
structure VcI(W0:World)(ages l0 l:List (Int × Int))(vs:List Int)(v0 v5:Value)(w:World):Prop where
 at_:Zl w v0 l
 own:InO w W0.heap.size v5 vs
 off:Z96 v0 v5 l
 nw:Nw W0 w
 sub:∀e∈l,e∈l0
 len:l.length+vs.length≤l0.length
 vic:∀vs',Vic ages l vs'→Vic ages l0 (vs++vs')
theorem VcI.push{W0 w z:World}{ages l0 l:List (Int × Int)}{vs:List Int}{v0 v5:Value}(h:VcI W0 ages l0 l vs v0 v5 w)(hl:l0.length≤1000)(q:Int)(g:Nw w z) :
  ∃ga cc w6,(Builtin.append_ #[28,28] 28 #[v5,.slice (some ⟨z.heap.size,0,none⟩) 1 1]).run prog (z.alloc (.cells #[.int .i64 q] 3))=.ok (.slice (some ⟨ga,0,none⟩) (vs.length+1) cc) w6∧InO w6 W0.heap.size (.slice (some ⟨ga,0,none⟩) (vs.length+1) cc) (vs++[q])∧Zl w6 v0 l∧ga<w6.heap.size∧Nw W0 w6:=by
 have hal:=Z5 z (.cells #[.int .i64 q] 3)
 have g6:Nw w (z.alloc (.cells #[.int .i64 q] 3)):=g.trans ((Nw.refl z).alloc _)
 obtain⟨v',w6,hr,hO,hg,hp,ga,cc,rfl⟩:=Y4.push Z7r (onw h.own g6) q z.heap.size 1 (fun j u hu=>by
  rw[Z2 hal]
  simpa [Yu] using hu) (by have:=h.len;omega) (h.nw.trans g6).sz
 refine⟨ga,cc,w6,hr,hO,?_,olt hO rfl,(h.nw.trans g6).gro hg (fun b e=>oge h.own e)⟩
 exact Z7q (h.at_.nw g6) (Z1p hg) (fun b o n c e=>h.off b o n c e)
def Vt(k:Kn):List Value:=[.int .i64 k.f,.bool k.lp]
theorem Z7s:Uv prog 71 108 2 16 Vt where
 und:=underlying71
 inf:=by
  have h:(prog.info? 108).map (fun i=>(i.zero,i.size,i.bytes))=some (some (.agg #[.int .i64 0,.bool false]),2,16):=by kernel_rfl
  cases e:prog.info? 108 with
  | none=>rw[e] at h;cases h
  | some i =>
   rw[e] at h
   simp only[Option.map_some,Option.some.injEq,Prod.mk.injEq] at h
   exact⟨i,_,rfl,h.1,h.2.1,h.2.2,rfl⟩
 pos:=by decide
 byt:=by decide
 len:=fun _=>rfl
 one:=fun a u hu=>by
  simp only[Vt,List.mem_cons,List.not_mem_nil,or_false] at hu
  rcases hu with rfl | rfl<;>rfl
abbrev V0(w:World)(g0:Nat)(v:Value)(l:List Kn):Prop:=Y4 108 2 Vt w g0 v l
theorem Z34{w:World}{g0 e size n m:Nat}{xs:List Value}{a:Option Addr}{c:Nat}(h:w.ownsRow g0 e size (.slice a n c) n xs)(hm:m≤n):w.ownsRow g0 e size (.slice a m c) m (xs.take (m*size)):=by
 obtain⟨hx,hr⟩:=h
 have hl:(xs.take (m*size)).length=m*size:=by
  rw[List.length_take,hx]
  exact Nat.min_eq_left (Nat.mul_le_mul_right _ hm)
 rcases hr with⟨h0,hn⟩ | ⟨g,cap,cur,h1,h2,h3,h4,h5,h6,h7⟩
 ·simp only[Value.slice.injEq] at h0
  obtain⟨rfl,_,rfl⟩:=h0
  obtain rfl:m=0:=by omega
  exact⟨hl,.inl ⟨rfl,rfl⟩⟩
 ·simp only[Value.slice.injEq] at h1
  obtain⟨rfl,_,rfl⟩:=h1
  refine⟨hl,.inr ⟨g,_,cur,rfl,h2,h3,Nat.le_trans hm h4,h5,h6,?_⟩⟩
  have:=congrArg (List.take (m*size)) h7
  rw[List.take_take,Nat.min_eq_left (Nat.mul_le_mul_right _ hm)] at this
  exact this
theorem IS.cut{w:World}{a:Option Addr}{c:Nat}{l:List Int}(h:IS w (.slice a l.length c) l){m:Nat}(hm:m≤l.length):IS w (.slice a m c) (l.take m):=by
 have:=Z34 h hm
 unfold IS
 rw[List.length_take,Nat.min_eq_left hm,List.map_take]
 simpa using this
theorem Uj{α:Type}{row:α→List Value}{sz:Nat}(hl:∀a,(row a).length=sz):∀(l:List α) (m:Nat),Z7 row (l.take m)=(Z7 row l).take (m*sz)
 | [],m=>by simp[Z7]
 | a::l,0=>by simp[Z7]
 | a::l,m+1=>by
  show row a++Z7 row (l.take m)=(row a++Z7 row l).take ((m+1)*sz)
  have e1:(row a).take ((m+1)*sz)=row a:=List.take_of_length_le (by rw[hl,Nat.add_mul];omega)
  rw[Uj hl l m,List.take_append,e1,hl,show(m+1)*sz-sz=m*sz by rw[Nat.add_mul];omega]
theorem V0.cut{w:World}{g0:Nat}{a:Option Addr}{c:Nat}{l:List Kn}(h:V0 w g0 (.slice a l.length c) l){m:Nat}(hm:m≤l.length):V0 w g0 (.slice a m c) (l.take m):=by
 have:=Z34 h hm
 unfold V0 Y4
 rw[List.length_take,Nat.min_eq_left hm,Uj (sz:=2) (fun _=>rfl)]
 exact this
def fnx(s:Gb)(v:Int):Option Int:=(s.nx v).map Int.ofNat
structure Y0(W0 w:World)(o mb pb:Nat)(ev vp vo vk:Value)(E:List (Int × Int))(s:Gb)(N:Nat):Prop where
 obj:w.heap[o]?=some (.cells #[ev,.map (some mb),.map (some pb),vp,vo,vk,.bool s.fd,.int .i64 s.ls] 73 (0,0))
 ed:Zl W0 ev E
 nw:Nw W0 w
 mn:Zb w mb (fnx s) N
 mp:Zb w pb s.pl N
 pa:IS w vp s.path
 op:IS w vo s.op
 kn:V0 w W0.heap.size vk s.kn
 oW:W0.heap.size≤o
 mW:W0.heap.size≤mb
 pW:W0.heap.size≤pb
 mne:mb≠pb
 pg:∀g,vp.ownBlock=some g→W0.heap.size≤g
 og:∀g,vo.ownBlock=some g→W0.heap.size≤g
 ne:∀g,vp.ownBlock=some g→vo.ownBlock≠some g
 bd:s.path.length≤N∧s.op.length≤N∧s.kn.length≤N
def Wk(W0 w:World)(o:Nat)(ev:Value)(E:List (Int × Int))(s:Gb)(N:Nat):Prop:=∃mb pb vp vo vk,Y0 W0 w o mb pb ev vp vo vk E s N
section
variable {W0 w w':World} {o mb pb N:Nat} {ev vp vo vk:Value} {E:List (Int × Int)} {s:Gb}
theorem Y0.nwr(h:Y0 W0 w o mb pb ev vp vo vk E s N)(g:Nw w w'):Y0 W0 w' o mb pb ev vp vo vk E s N :=
 ⟨g.at' h.obj,h.ed,h.nw.trans g,h.mn.nw g,h.mp.nw g,h.pa.nw g,h.op.nw g,onw h.kn g,h.oW,h.mW,h.pW,h.mne,h.pg,h.og,h.ne,h.bd⟩
theorem Y0.c(h:Y0 W0 w o mb pb ev vp vo vk E s N):w.cell? ⟨o,0,none⟩=some ev∧w.cell? ⟨o,1,none⟩=some (.map (some mb))∧w.cell? ⟨o,2,none⟩=some (.map (some pb))∧w.cell? ⟨o,3,none⟩=some vp∧w.cell? ⟨o,4,none⟩=some vo∧w.cell? ⟨o,5,none⟩=some vk∧w.cell? ⟨o,6,none⟩=some (.bool s.fd)∧w.cell? ⟨o,7,none⟩=some (.int .i64 s.ls) :=
 ⟨Z2 h.obj,Z2 h.obj,Z2 h.obj,Z2 h.obj,Z2 h.obj,Z2 h.obj,Z2 h.obj,Z2 h.obj⟩
theorem Y0.fz(h:Y0 W0 w o mb pb ev vp vo vk E s N)(j:Nat):w.frozen? ⟨o,j,none⟩=false:=hfz h.obj
theorem Y0.ol(h:Y0 W0 w o mb pb ev vp vo vk E s N):o<w.heap.size:=hlt h.obj
theorem Y0.off(h:Y0 W0 w o mb pb ev vp vo vk E s N):mb≠o∧pb≠o∧vp.ownBlock≠some o∧vo.ownBlock≠some o∧vk.ownBlock≠some o:=by
 refine⟨fun e=>?_,fun e=>?_,fun e=>?_,fun e=>?_,fun e=>?_⟩
 ·obtain⟨es,c,q⟩:=h.mn.obj
  rw[e,h.obj] at q;cases q
 ·obtain⟨es,c,q⟩:=h.mp.obj
  rw[e,h.obj] at q;cases q
 ·obtain⟨c,q⟩:=Zx h.pa e
  rw[h.obj] at q
  injection q with q
  injection q with _ q _
  exact absurd q (by decide)
 ·obtain⟨c,q⟩:=Zx h.op e
  rw[h.obj] at q
  injection q with q
  injection q with _ q _
  exact absurd q (by decide)
 ·obtain⟨c,q⟩:=Zx h.kn e
  rw[h.obj] at q
  injection q with q
  injection q with _ q _
  exact absurd q (by decide)
theorem Y0.apart(h:Y0 W0 w o mb pb ev vp vo vk E s N):(∀g,vk.ownBlock=some g→vp.ownBlock≠some g∧vo.ownBlock≠some g)∧(vp.ownBlock≠some mb∧vo.ownBlock≠some mb∧vk.ownBlock≠some mb)∧(vp.ownBlock≠some pb∧vo.ownBlock≠some pb∧vk.ownBlock≠some pb):=by
 obtain⟨es1,c1,q1⟩:=h.mn.obj
 obtain⟨es2,c2,q2⟩:=h.mp.obj
 refine⟨fun g hg=>⟨fun e=>?_,fun e=>?_⟩,⟨fun e=>?_,fun e=>?_,fun e=>?_⟩,⟨fun e=>?_,fun e=>?_,fun e=>?_⟩⟩
 ·obtain⟨c,q⟩:=Zx h.kn hg
  obtain⟨c',q'⟩:=Zx h.pa e
  rw[q] at q'
  injection q' with q'
  injection q' with _ q' _
  exact absurd q' (by decide)
 ·obtain⟨c,q⟩:=Zx h.kn hg
  obtain⟨c',q'⟩:=Zx h.op e
  rw[q] at q'
  injection q' with q'
  injection q' with _ q' _
  exact absurd q' (by decide)
 ·obtain⟨c,q⟩:=Zx h.pa e
  rw[q1] at q;cases q
 ·obtain⟨c,q⟩:=Zx h.op e
  rw[q1] at q;cases q
 ·obtain⟨c,q⟩:=Zx h.kn e
  rw[q1] at q;cases q
 ·obtain⟨c,q⟩:=Zx h.pa e
  rw[q2] at q;cases q
 ·obtain⟨c,q⟩:=Zx h.op e
  rw[q2] at q;cases q
 ·obtain⟨c,q⟩:=Zx h.kn e
  rw[q2] at q;cases q
theorem Y0.box(h:Y0 W0 w o mb pb ev vp vo vk E s N)(t:Zc (fun k=>k=o) w w'){s':Gb}{vp' vo' vk':Value}
  (hb:w'.heap[o]?=some (.cells #[ev,.map (some mb),.map (some pb),vp',vo',vk',.bool s'.fd,.int .i64 s'.ls] 73 (0,0)))
  (h1:s'.nx=s.nx) (h2:s'.pl=s.pl) (pa:IS w' vp' s'.path) (op:IS w' vo' s'.op) (kn:V0 w' W0.heap.size vk' s'.kn)
  (pg:∀g,vp'.ownBlock=some g→W0.heap.size≤g) (og:∀g,vo'.ownBlock=some g→W0.heap.size≤g) (ne:∀g,vp'.ownBlock=some g→vo'.ownBlock≠some g) (bd:s'.path.length≤N∧s'.op.length≤N∧s'.kn.length≤N):Y0 W0 w' o mb pb ev vp' vo' vk' E s' N:=by
 obtain⟨o1,o2,_⟩:=h.off
 refine⟨hb,h.ed,Ze h.nw t (fun i e=>by subst e;exact h.oW),?_,?_,pa,op,kn,h.oW,h.mW,h.pW,h.mne,pg,og,ne,bd⟩
 ·have e:fnx s'=fnx s:=by funext v;unfold fnx;rw[h1]
  rw[e];exact h.mn.tch t o1
 ·rw[h2];exact h.mp.tch t o2
theorem IS.keep{v:Value}{l:List Int}{j:Nat}(h:IS w v l)(t:Zc (fun k=>k=j) w w')(hn:v.ownBlock≠some j):IS w' v l:=h.tch t (fun g hg e=>hn (by rw[hg,e]))
theorem Zy{g0 e size n:Nat}{v:Value}{xs:List Value}{j:Nat}(h:w.ownsRow g0 e size v n xs)(t:Zc (fun k=>k=j) w w')(hn:v.ownBlock≠some j):w'.ownsRow g0 e size v n xs:=by
 refine⟨h.1,?_⟩
 rcases h.2 with h0 | ⟨g,cap,cur,rfl,hb,hg,rest⟩
 ·exact .inl h0
 ·exact .inr ⟨g,cap,cur,rfl,hb,(t.block g (Array.getElem?_eq_some_iff.1 hg).1 (fun e=>hn (by rw[←e];rfl))).trans hg,rest⟩
end
end Go.Proofs.Ytbefaomgldckdaa
