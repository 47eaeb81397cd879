/- Texts merged: QvL, Shelf, QwA, QvP, QwB, WdH, WeF -/
import Derived.Test.YtbnpnccpobkodaaGreatVictimCallsB7
import Derived.Shelf.Small.Bits
import Derived.Shelf.Small.Wraps
import Derived.Shelf.Strconv.Itoa0
import Derived.Shelf.Sort.Plain
import Derived.Shelf.Slices.Turned
import Derived.Shelf.Slices.Reverse
import Derived.Ground.Names2Prog
import Derived.Shelf.Slices.CompactI
import Derived.Shelf.Slices.Cells
import Derived.Shelf.Slices.In.SortNone
import Derived.Test.YtbnpnccpobkodaaGreatProg
import Derived.Sort.OwnSortedInts
import Derived.Lib.RowBridge
set_option linter.unusedVariables false
set_option maxRecDepth 100000
set_option maxHeartbeats 16000000
namespace Go.Proofs.YtbnpnccpobkodaaGreat
open Go.RowKit _root_.Go.Proofs.Tryz
theorem Za4(q:List Rq)(id:Int):Za0 q id (plc (fun R=>R.id==id) q):=by
 rcases Vx (fun R=>R.id==id) q with⟨h1,h2⟩ | ⟨k,h1,hk,h3,h4⟩
 ·refine .inl ⟨h1,?_⟩
  unfold fnd
  rw[List.find?_eq_none]
  intro x hx;rw[h2 x hx];simp
 ·refine .inr ⟨k,h1,hk,?_⟩
  unfold fnd
  have e:=Z7v q k hk
  conv=>lhs;rw[e]
  rw[List.find?_append,List.find?_cons,h3]
  have:(q.take k).find? (fun r=>r.id==id)=none:=by
   rw[List.find?_eq_none]
   intro x hx
   obtain⟨i,hi,rfl⟩:=List.getElem_of_mem hx
   simp at hi
   have:=h4 i (by omega) (by omega)
   simpa using this
  rw[this];rfl
theorem Za9(t r W id:Int)(v:Value)(q:List Rq)(w:World)(hl:q.length≤1000)(h:Ur w v q) :
  Calls prog 63 #[hdV t r v W,.int .i64 id] w fun e w'=>e=.returned (Z45 q id)∧Nw w w':=by
 obtain⟨V,hV⟩:∃V,Z45 q id=V:=⟨_,rfl⟩
 rw[hV]
 obtain⟨px,hpx⟩:∃px,plc (fun R=>R.id==id) q=px:=⟨_,rfl⟩
 have hFi:=fun(w1:World) (g:Nw w w1) (f:Value) (hf:V7 w1 f (fun R=>R.id==id))=>Zb7 t r W v f _ q w1 hl (h.nw g) hf
 rw[hpx] at hFi
 have HAt:=hD0 h
 obtain⟨a,c,rfl,_⟩:=h
 unfold hdV at hFi ⊢
 have HFi:=hD0 hFi
 clear hFi
 have HWi:=hD0 (Z8o id)
 obtain⟨hx1,hx2,hx3,hx4⟩:=Uh w (.cells #[.int .i64 t,.int .i64 r,.slice a q.length c,.int .i64 W] 43) (.cells #[.int .i64 0,.int .i64 0,.int .i64 0,.int .i64 0,.int .i64 0] 56)
 obtain⟨w1,hw1⟩:∃w1,(w.alloc (.cells #[.int .i64 t,.int .i64 r,.slice a q.length c,.int .i64 W] 43)).alloc (.cells #[.int .i64 0,.int .i64 0,.int .i64 0,.int .i64 0,.int .i64 0] 56)=w1:=⟨_,rfl⟩
 rw[hw1] at hx1 hx2 hx3
 have HB1:=hD0 (aI0 (aI0 hx1 hx2) hx3)
 have s0:∀z,Nw w1 z→z.cell? ⟨w.heap.size,0,none⟩=some (.int .i64 t):=fun z hz=>hz.kp (Z2 (j:=0) hx1)
 have s1:∀z,Nw w1 z→z.cell? ⟨w.heap.size,1,none⟩=some (.int .i64 r):=fun z hz=>hz.kp (Z2 (j:=1) hx1)
 have s2:∀z,Nw w1 z→z.cell? ⟨w.heap.size,2,none⟩=some (.slice a q.length c):=fun z hz=>hz.kp (Z2 (j:=2) hx1)
 have s3:∀z,Nw w1 z→z.cell? ⟨w.heap.size,3,none⟩=some (.int .i64 W):=fun z hz=>hz.kp (Z2 (j:=3) hx1)
 clear hx1 hx2 hx3 hx4
 have HW1:=hD0 hw1
 clear hw1
 have q1:=(Nw.refl w1).drewQ
 obtain⟨wc,hwc⟩:∃wc,w1.drew=wc:=⟨_,rfl⟩
 go_enter func63,ntmps63
 go_wp2
 rw[HW1.out]
 refine Uo [some true,some true,some false,none,some false,none,some true] (Nw w1) (by kernel_rfl) (by kernel_rfl) (by kernel_rfl) q1 ?_
 rw[hwc] at q1 ⊢
 clear hwc
 repeat (first
  | (refine HW.off ?_)
  | (refine HW.take' ?_;(first | (refine⟨undef,Or.inr ⟨by rfl,rfl⟩,?_⟩) | (apply Exists.intro;refine⟨Or.inl ⟨by rfl,?_⟩,?_⟩;(intro x hx;go_simp;first | done | with_reducible rfl)));(try simp only[Act.put,List.setIfInBounds_toArray,List.set_cons_zero,List.set_cons_succ]))
  | (refine HW.go (fun K hK=>?_);go_simp;(first
   | (go_at_call 78;(with_reducible refine(HWi.out _).mono ?_);rintro e wy ⟨pa,rfl,g2,hbx⟩;refine hK.out _ _ (q1.trans g2) ?_;intro _;replace q1:=q1.trans g2;clear hK K g2;replace hbx:=V7.withID hbx)
   | (go_at_call 77;(with_reducible refine(HFi.out _ (HB1.out.2.trans q1) _ hbx).mono ?_);rintro e wy ⟨rfl,g2⟩;refine hK.out _ _ (q1.trans g2) ?_;intro _;replace q1:=q1.trans g2;clear hK K g2 hbx)
   | (refine hK.out _ _ q1 ?_;intro _;clear hK K))))
 refine HW.end_ ?_
 refine NoPanic.normal ?_
 have HN:=hD0 (HB1.out.2.trans q1)
 have hp1:=q1.at' HB1.out.1.1
 have hq1:=q1.at' HB1.out.1.2
 have c0:=Z2 (j:=0) hp1
 have c1:=Z2 (j:=1) hp1
 have c2:=Z2 (j:=2) hp1
 have c3:=Z2 (j:=3) hp1
 have hpl:=hlt hp1
 have d0:=Z2 (j:=0) hq1
 have d1:=Z2 (j:=1) hq1
 have d2:=Z2 (j:=2) hq1
 have d3:=Z2 (j:=3) hq1
 have d4:=Z2 (j:=4) hq1
 have fz:=fun k=>hfz (j:=k) hq1
 have hsl2:=hlt hq1
 rcases Za4 q id with⟨e1,hf⟩ | ⟨k,e1,hk,hf⟩
 ·obtain rfl:=hpx.symm.trans e1
  have HF:=hD0 (hV.symm.trans (show Z45 q id=.tuple #[rqV ⟨0,0,0,0,0⟩,.bool false] by unfold Z45;rw[hf]))
  clear hpx hV e1 hf s0 s1 s2 s3 HB1 HFi HWi HAt HW1 q1 hp1 hq1
  go_wp2
  refine bodyPost_ret (v:=.tuple #[.agg #[.int .i64 0,.int .i64 0,.int .i64 0,.int .i64 0,.int .i64 0],.bool false]) (by simp only[results,results63];simp[go_sem, *]) rfl ⟨by rw[HF.out];rfl,?_⟩
  exact((((HN.out.st (Nat.le_succ _) _).st (Nat.le_succ _) _).st (Nat.le_succ _) _).st (Nat.le_succ _) _).st (Nat.le_succ _) _
 ·obtain rfl:=hpx.symm.trans e1
  rcases(HAt.out.nw HN.out) with⟨a',c',e3,⟨e4,_⟩ | ⟨b,o,e4,hc⟩⟩
  ·subst e4;simp at hk
  simp only[Value.slice.injEq,true_and] at e3
  obtain⟨rfl,rfl⟩:=e3
  subst e4
  have hce:=hc.cell k hk
  have dk:((k:Int)==-1)=false:=by simp
  have hki:(k:Int)<(q.length:Int):=by omega
  have HF:=hD0 (hV.symm.trans (show Z45 q id=.tuple #[rqV q[k],.bool true] by unfold Z45;rw[hf]))
  clear hpx hV e1 hf s0 s1 s2 s3 HB1 HFi HWi HAt HW1 q1 hp1 hq1 hc
  generalize q[k]=R at *
  obtain⟨b0,b1,b2,b3,b4⟩:=R
  have m0:=hce 0 _ rfl
  have m1:=hce 1 _ rfl
  have m2:=hce 2 _ rfl
  have m3:=hce 3 _ rfl
  have m4:=hce 4 _ rfl
  simp only[Nat.add_zero] at m0
  clear hce
  go_wp2
  refine bodyPost_ret (v:=.tuple #[.agg #[.int .i64 b0,.int .i64 b1,.int .i64 b2,.int .i64 b3,.int .i64 b4],.bool true]) (by simp only[results,results63];simp[go_sem, *]) rfl ⟨by rw[HF.out];rfl,?_⟩
  exact((((HN.out.st (Nat.le_succ _) _).st (Nat.le_succ _) _).st (Nat.le_succ _) _).st (Nat.le_succ _) _).st (Nat.le_succ _) _
end Go.Proofs.YtbnpnccpobkodaaGreat
namespace Go.Proofs
open _root_.Go.Proofs.Tryz
open Go.Shelf
def Tryz.lays189_ren:Go.Shelf.Ren:=⟨fun | 189=>67 | 125=>72 | 257=>82 | 128=>91 | 129=>92 | 294=>99 | 295=>100 | 296=>101 | 297=>102 | 298=>103 | 299=>104 | 216=>105 | 300=>106 | 301=>107 | 328=>114 | 329=>109 | 330=>110 | 331=>115 | 332=>116 | 215=>52 | 343=>118 | n=>n,fun | 28=>24 | 3=>3 | 46=>99 | 0=>0 | 51=>116 | 53=>118 | 4=>4 | 183=>110 | 182=>109 | 131=>28 | 5=>5 | 9=>9 | 218=>129 | 222=>133 | 228=>137 | 229=>138 | n=>n,fun | n=>n⟩
theorem Tryz.lays189:Go.Proofs.Lays.n189 prog Tryz.lays189_ren:={
 mixed:=by kernel_rfl
 f125:=func72.trans (congrArg some (by kernel_rfl))
 f128:=func91.trans (congrArg some (by kernel_rfl))
 f129:=func92.trans (congrArg some (by kernel_rfl))
 f189:=func67.trans (congrArg some (by kernel_rfl))
 f215:=func52.trans (congrArg some (by kernel_rfl))
 f216:=func105.trans (congrArg some (by kernel_rfl))
 f257:=func82.trans (congrArg some (by kernel_rfl))
 f294:=func99.trans (congrArg some (by kernel_rfl))
 f295:=func100.trans (congrArg some (by kernel_rfl))
 f296:=func101.trans (congrArg some (by kernel_rfl))
 f297:=func102.trans (congrArg some (by kernel_rfl))
 f298:=func103.trans (congrArg some (by kernel_rfl))
 f299:=func104.trans (congrArg some (by kernel_rfl))
 f300:=func106.trans (congrArg some (by kernel_rfl))
 f301:=func107.trans (congrArg some (by kernel_rfl))
 f328:=func114.trans (congrArg some (by kernel_rfl))
 f329:=func109.trans (congrArg some (by kernel_rfl))
 f330:=func110.trans (congrArg some (by kernel_rfl))
 f331:=func115.trans (congrArg some (by kernel_rfl))
 f332:=func116.trans (congrArg some (by kernel_rfl))
 f343:=func118.trans (congrArg some (by kernel_rfl))
 t0:=underlying0
 a0:=Tryz.isAgg0
 z0:=Tryz.sizeOf0
 v0:=Tryz.zeroValue0
 t3:=underlying3
 a3:=Tryz.isAgg3
 z3:=Tryz.sizeOf3
 v3:=Tryz.zeroValue3
 t4:=underlying4
 a4:=Tryz.isAgg4
 z4:=Tryz.sizeOf4
 v4:=Tryz.zeroValue4
 t5:=underlying5
 a5:=Tryz.isAgg5
 z5:=Tryz.sizeOf5
 v5:=Tryz.zeroValue5
 t9:=underlying9
 a9:=Tryz.isAgg9
 z9:=Tryz.sizeOf9
 v9:=Tryz.zeroValue9
 t28:=underlying24
 a28:=Tryz.isAgg24
 z28:=Tryz.sizeOf24
 v28:=Tryz.zeroValue24
 t46:=underlying99
 a46:=Tryz.isAgg99
 z46:=Tryz.sizeOf99
 v46:=Tryz.zeroValue99
 t51:=underlying116
 a51:=Tryz.isAgg116
 z51:=Tryz.sizeOf116
 v51:=Tryz.zeroValue116
 t53:=underlying118
 a53:=Tryz.isAgg118
 z53:=Tryz.sizeOf118
 v53:=Tryz.zeroValue118
 t131:=underlying28
 a131:=Tryz.isAgg28
 z131:=Tryz.sizeOf28
 v131:=Tryz.zeroValue28
 t182:=underlying109
 a182:=Tryz.isAgg109
 z182:=Tryz.sizeOf109
 v182:=Tryz.zeroValue109
 t183:=underlying110
 a183:=Tryz.isAgg110
 z183:=Tryz.sizeOf110
 v183:=Tryz.zeroValue110
 t218:=underlying129
 a218:=Tryz.isAgg129
 z218:=Tryz.sizeOf129
 v218:=Tryz.zeroValue129
 t222:=underlying133
 a222:=Tryz.isAgg133
 z222:=Tryz.sizeOf133
 v222:=Tryz.zeroValue133
 t228:=underlying137
 a228:=Tryz.isAgg137
 z228:=Tryz.sizeOf137
 v228:=Tryz.zeroValue137
 t229:=underlying138
 a229:=Tryz.isAgg138
 z229:=Tryz.sizeOf138
 v229:=Tryz.zeroValue138 }
open Go.Sort Go.RowKit in
theorem Tryz.slices_Sort_int(blk off cap:Nat)(zs:List Int)(w:World)(hH:Holds (Value.int .i64) w blk off zs.toArray)(hblk:blk<w.heap.size)(hsz:zs.length<4611686018427387904) :
  Calls prog 67 #[.slice (some ⟨blk,off,none⟩) zs.length cap] w fun e w' =>
   e=.returned (.tuple #[])∧∃n os,w'=grow (putRow (Value.int .i64) (Sort.ahead w n) blk off (zs.mergeSort fun x y=>decide (x≤y)).toArray) os:=Any.slices_Sort_int Tryz.lays189 blk off cap zs w hH hblk hsz
def Tryz.lays114_ren:Go.Shelf.Ren:=⟨fun | 114=>95 | n=>n,fun | 28=>24 | 3=>3 | 4=>4 | 9=>9 | 20=>20 | 0=>0 | n=>n,fun | n=>n⟩
theorem Tryz.lays114:Go.Proofs.Lays.n114 prog Tryz.lays114_ren:={
 mixed:=by kernel_rfl
 f114:=func95.trans (congrArg some (by kernel_rfl))
 t0:=underlying0
 a0:=Tryz.isAgg0
 z0:=Tryz.sizeOf0
 v0:=Tryz.zeroValue0
 t3:=underlying3
 a3:=Tryz.isAgg3
 z3:=Tryz.sizeOf3
 v3:=Tryz.zeroValue3
 t4:=underlying4
 a4:=Tryz.isAgg4
 z4:=Tryz.sizeOf4
 v4:=Tryz.zeroValue4
 t9:=underlying9
 a9:=Tryz.isAgg9
 z9:=Tryz.sizeOf9
 v9:=Tryz.zeroValue9
 t20:=underlying20
 a20:=Tryz.isAgg20
 z20:=Tryz.sizeOf20
 v20:=Tryz.zeroValue20
 t28:=underlying24
 a28:=Tryz.isAgg24
 z28:=Tryz.sizeOf24
 v28:=Tryz.zeroValue24 }
open Go.Lib in
theorem Tryz.slices_Min_int(b off n c:Nat)(zs:List Int)(w:World)(hn:0<n)(hz:n≤zs.length)(hbig:n≤9223372036854775807)(hc:∀j,j<zs.length→w.cell? ⟨b,off+j,none⟩=some (.int .i64 (zs.getD j 0))) :
  Calls prog 95 #[.slice (some ⟨b,off,none⟩) n c] w fun e w'=>e=.returned (.int .i64 (Lib.minOf (zs.take n)))∧w'=w:=Any.slices_Min_int Tryz.lays114 b off n c zs w hn hz hbig hc
def Tryz.lays112_ren:Go.Shelf.Ren:=⟨fun | 112=>58 | n=>n,fun | 28=>24 | 3=>3 | 4=>4 | 0=>0 | n=>n,fun | n=>n⟩
theorem Tryz.lays112:Go.Proofs.Lays.n112 prog Tryz.lays112_ren:={
 mixed:=by kernel_rfl
 f112:=func58.trans (congrArg some (by kernel_rfl))
 t0:=underlying0
 a0:=Tryz.isAgg0
 z0:=Tryz.sizeOf0
 v0:=Tryz.zeroValue0
 t3:=underlying3
 a3:=Tryz.isAgg3
 z3:=Tryz.sizeOf3
 v3:=Tryz.zeroValue3
 t4:=underlying4
 a4:=Tryz.isAgg4
 z4:=Tryz.sizeOf4
 v4:=Tryz.zeroValue4
 t28:=underlying24
 a28:=Tryz.isAgg24
 z28:=Tryz.sizeOf24
 v28:=Tryz.zeroValue24 }
open Go.RowKit Go.Lib Go.Sort in
theorem Tryz.slices_Reverse_int(blk off cap:Nat)(zs:List Int)(w:World)(hH:Holds (Value.int .i64) w blk off zs.toArray)(hsz:zs.length≤9223372036854775807) :
  Calls prog 58 #[.slice (some ⟨blk,off,none⟩) zs.length cap] w fun e w'=>e=.returned (.tuple #[])∧∃n,w'=putRow (Value.int .i64) (Sort.ahead w n) blk off zs.reverse.toArray:=Any.slices_Reverse_int Tryz.lays112 blk off cap zs w hH hsz
open Go.RowKit Go.Lib Go.Sort in
theorem Tryz.slices_Reverse_int_empty(a:Option Addr)(cap:Nat)(w:World) :
  Calls prog 58 #[.slice a 0 cap] w fun e w'=>e=.returned (.tuple #[])∧w'=w:=Any.slices_Reverse_int_empty Tryz.lays112 a cap w
def Tryz.laysNm220_ren:Go.Shelf.Ren:=⟨fun | 20=>68 | n=>n,fun | 22=>24 | 3=>3 | 4=>4 | 0=>0 | n=>n,fun | n=>n⟩
theorem Tryz.laysNm220:Go.Proofs.Lays2.n20 prog Tryz.laysNm220_ren:={
 mixed:=by kernel_rfl
 f20:=func68.trans (congrArg some (by kernel_rfl))
 t0:=underlying0
 a0:=Tryz.isAgg0
 z0:=Tryz.sizeOf0
 v0:=Tryz.zeroValue0
 t3:=underlying3
 a3:=Tryz.isAgg3
 z3:=Tryz.sizeOf3
 v3:=Tryz.zeroValue3
 t4:=underlying4
 a4:=Tryz.isAgg4
 z4:=Tryz.sizeOf4
 v4:=Tryz.zeroValue4
 t22:=underlying24
 a22:=Tryz.isAgg24
 z22:=Tryz.sizeOf24
 v22:=Tryz.zeroValue24
 i3:=by kernel_rfl }
open Go.RowKit Go.Lib Go.Sort in
theorem Tryz.slices_Compact_int(blk off cap:Nat)(zs:List Int)(w:World)(hH:Holds (Value.int .i64) w blk off zs.toArray)(hsz:zs.length≤9223372036854775807)(hcap:zs.length≤cap) :
  Calls prog 68 #[.slice (some ⟨blk,off,none⟩) zs.length cap] w fun e w'=>e=.returned (.slice (some ⟨blk,off,none⟩) (Lib.compact zs).length cap)∧∃q,w'=putRow (Value.int .i64) (Sort.ahead w q) blk off (Lib.compact zs++List.replicate (zs.length-(Lib.compact zs).length) 0).toArray:=Any.slices_Compact_int Tryz.laysNm220 blk off cap zs w hH hsz hcap
open Go.RowKit Go.Lib Go.Sort in
theorem Tryz.slices_Compact_int_empty(a:Option Addr)(cap:Nat)(w:World) :
  Calls prog 68 #[.slice a 0 cap] w fun e w'=>e=.returned (.slice a 0 cap)∧w'=w:=Any.slices_Compact_int_empty Tryz.laysNm220 a cap w
open Go.RowKit Go.Sort in
theorem Tryz.slices_Sort_int_none(p:Option Addr)(cap:Nat)(w:World) :
  Calls prog 67 #[.slice p 0 cap] w fun e w'=>e=.returned (.tuple #[])∧w'=w:=Any.slices_Sort_int_none Tryz.lays189 p cap w
end Go.Proofs
namespace Go.Proofs.YtbnpnccpobkodaaGreat
open Go.RowKit _root_.Go.Proofs.Tryz
section
open Go.RowKit Go.Sort
theorem Z0v:∀ {a b:List Int},a.Pairwise (·<·)→b.Pairwise (·<·)→(∀x,x∈a↔x∈b)→a=b
 | [],b,_,_,h=>by
  cases b with
  | nil=>rfl
  | cons y b=>exact absurd ((h y).2 (by simp)) (by simp)
 | x::a,[],_,_,h=>absurd ((h x).1 (by simp)) (by simp)
 | x::a,y::b,ha,hb,h=>by
  rw[List.pairwise_cons] at ha hb
  have e:x=y:=by
   rcases List.mem_cons.1 ((h x).1 (by simp))with e | e
   ·exact e
   ·rcases List.mem_cons.1 ((h y).2 (by simp))with e2 | e2
    ·exact e2.symm
    ·have:=hb.1 x e;have:=ha.1 y e2;omega
  subst e
  congr 1
  refine Z0v ha.2 hb.2 (fun z=>?_)
  have hz:=h z
  rw[List.mem_cons,List.mem_cons] at hz
  constructor
  ·intro m
   rcases hz.1 (.inr m)with e | e
   ·have:=ha.1 z m;omega
   ·exact e
  ·intro m
   rcases hz.2 (.inr m)with e | e
   ·have:=hb.1 z m;omega
   ·exact e
theorem Z2k(l:List Int)(hs:l.Pairwise (·≤·)):∀m,m≤l.length→(Lib.compactUpTo l.toArray m).Pairwise (·<·)∧∀x,x∈Lib.compactUpTo l.toArray m↔∃j,j<m∧l.toArray[j]! = x
 | 0,_=>by
  have:Lib.compactUpTo l.toArray 0=[]:=rfl
  rw[this]
  exact⟨List.Pairwise.nil,fun x=>by simp⟩
 | m+1,hm=>by
  obtain⟨h1,h2⟩:=Z2k l hs m (by omega)
  have hle:∀i j,i<j→j<l.length→l.toArray[i]!≤l.toArray[j]!:=fun i j hij hj=>by
   have:=List.pairwise_iff_getElem.1 hs i j (by omega) hj hij
   simpa [hj,show i<l.length by omega] using this
  rw[Lib.compactUpTo_succ]
  by_cases k:Lib.keeps l.toArray m=true
  ·rw[if_pos k]
   refine⟨List.pairwise_append.2 ⟨h1,by simp,fun x hx y hy=>?_⟩,fun x=>?_⟩
   ·obtain rfl:=List.mem_singleton.1 hy
    obtain⟨j,hj,rfl⟩:=(h2 x).1 hx
    have hk:l.toArray[m]!≠l.toArray[m-1]!:=by
     unfold Lib.keeps at k
     simp at k
     rcases k with k | k
     ·omega
     ·simpa using k
    have a1:l.toArray[j]!≤l.toArray[m-1]!:=by
     by_cases e:j=m-1
     ·rw[e];exact Int.le_refl _
     ·exact hle j (m-1) (by omega) (by omega)
    have a2:=hle (m-1) m (by omega) (by omega)
    omega
   ·rw[List.mem_append,List.mem_singleton,h2 x]
    constructor
    ·rintro(⟨j,hj,e⟩ | e)
     ·exact⟨j,by omega,e⟩
     ·exact⟨m,by omega,e.symm⟩
    ·rintro⟨j,hj,e⟩
     by_cases q:j=m
     ·subst q;exact .inr e.symm
     ·exact .inl ⟨j,by omega,e⟩
  ·rw[if_neg k,List.append_nil]
   refine⟨h1,fun x=>?_⟩
   rw[h2 x]
   have hk:0<m∧l.toArray[m]! = l.toArray[m-1]!:=by
    unfold Lib.keeps at k
    simp at k
    refine⟨by omega,?_⟩
    have:=k.2
    simpa using this
   constructor
   ·rintro⟨j,hj,e⟩;exact⟨j,by omega,e⟩
   ·rintro⟨j,hj,e⟩
    by_cases q:j=m
    ·subst q;exact⟨j-1,by omega,by rw[←hk.2];exact e⟩
    ·exact⟨j,by omega,e⟩
theorem Z6i(l:List Int)(j:Nat)(h:j<l.length):l.toArray[j]! = l[j]:=by simp[h]
theorem Z3y(l:List Int):(Lib.compact (l.mergeSort fun x y=>decide (x≤y))).Pairwise (·<·)∧∀x,x∈Lib.compact (l.mergeSort fun x y=>decide (x≤y))↔x∈l:=by
 have hs:(l.mergeSort fun x y=>decide (x≤y)).Pairwise (·≤·):=by
  have:=List.pairwise_mergeSort (le:=fun(x y:Int)=>decide (x≤y)) (fun a b c h1 h2=>by simp at *;omega) (fun a b=>by simp;omega) l
  exact this.imp (fun h=>by simpa using h)
 obtain⟨h1,h2⟩:=Z2k _ hs _ (Nat.le_refl _)
 refine⟨h1,fun x=>?_⟩
 have h3:=h2 x
 unfold Lib.compact
 rw[h3,←(List.mergeSort_perm l _).mem_iff (a:=x),List.mem_iff_getElem]
 constructor
 ·rintro⟨j,hj,e⟩
  exact⟨j,hj,(Z6i _ j hj).symm.trans e⟩
 ·rintro⟨j,hj,e⟩
  exact⟨j,hj,(Z6i _ j hj).trans e⟩
theorem Zab(v:Value)(l:List Int)(w:World)(h:IS w v l)(hl:l.length≤1000) :
  Calls prog 67 #[v] w fun e w'=>e=.returned (.tuple #[])∧IS w' v (l.mergeSort fun x y=>decide (x≤y))∧Zf (fun i=>v.ownBlock=some i) w w':=by
 rcases h.2 with⟨rfl,e⟩ | ⟨g,cap,cur,rfl,_,hb,h1,h2,h3,ht⟩
 ·obtain rfl:=List.length_eq_zero_iff.1 e
  refine(Tryz.slices_Sort_int_none none 0 w).mono ?_
  rintro e w' ⟨rfl,h⟩
  exact⟨rfl,by simpa using IS.nil w',by first | (subst h;exact Zf.refl _ _) | (obtain⟨n,rfl⟩:=h;exact(Zf.refl _ _).drewN _)⟩
 ·rw[Nat.mul_one] at ht
  have hH:=holds_of_blockI hb ht
  have hlen:(l.mergeSort fun x y=>decide (x≤y)).length=l.length:=List.length_mergeSort _
  refine(Tryz.slices_Sort_int g 0 cap l w hH (hlt hb) (by omega)).mono ?_
  rintro e w' ⟨rfl,n,os,rfl⟩
  refine⟨rfl,?_,(Zf.refl _ w).grown (grownBy_sortedI _) (fun k hk=>.inl hk)⟩
  unfold IS
  rw[hlen]
  exact ownsRow_sortedI hlen (Nat.zero_le _) hb h1 h2 h3
theorem Z5o(v:Value)(l:List Int)(w:World)(h:IS w v l)(hl:l.length≤1000) :
  Calls prog 68 #[v] w fun e w'=>∃v',e=.returned v'∧IS w' v' (Lib.compact l)∧v'.ownBlock=v.ownBlock∧Zf (fun i=>v.ownBlock=some i) w w':=by
 rcases h.2 with⟨rfl,e⟩ | ⟨g,cap,cur,rfl,_,hb,h1,h2,h3,ht⟩
 ·obtain rfl:=List.length_eq_zero_iff.1 e
  refine(Tryz.slices_Compact_int_empty none 0 w).mono ?_
  rintro e w' ⟨rfl,rfl⟩
  exact⟨_,rfl,IS.nil _,rfl,Zf.refl _ _⟩
 ·rw[Nat.mul_one] at ht
  have hH:=holds_of_blockI hb ht
  have hle:=Lib.compact_length_le l
  refine(Tryz.slices_Compact_int g 0 cap l w hH (by omega) h1).mono ?_
  rintro e w' ⟨rfl,n,rfl⟩
  have hg:=grownBy_sortedI (w:=w) (g:=g) (n:=n) (os:=#[]) (Lib.compact l++List.replicate (l.length-(Lib.compact l).length) 0).toArray
  have hh:=heap_sortedI (n:=n) (os:=#[]) (Lib.compact l++List.replicate (l.length-(Lib.compact l).length) 0).toArray hb
  rw[grow_empty] at hg hh
  refine⟨_,rfl,⟨by simp,.inr ⟨g,cap,_,rfl,Nat.zero_le _,hh,by omega,h2,by simp[putCells,h3],?_⟩⟩,rfl,(Zf.refl _ w).grown hg (fun k hk=>.inl hk)⟩
  have hlen:(Lib.compact l++List.replicate (l.length-(Lib.compact l).length) 0).length=l.length:=by simp;omega
  have hta:=take_putCellsI cur (Lib.compact l++List.replicate (l.length-(Lib.compact l).length) 0) (by rw[hlen];omega)
  have hta2:=congrArg (List.take (Lib.compact l).length) hta
  rw[List.take_take,hlen,Nat.min_eq_left hle,List.map_append,List.take_append_of_le_length (by simp)] at hta2
  rw[Nat.mul_one,hta2]
  exact List.take_of_length_le (by simp)
end
structure Zcc(q q':List Rq)(T:List Int)(i:Nat):Prop where
 same:∀x∈T.drop i,Z68 q' x=Z68 q x
 rest:∀k:Nat,k<q.length→(k:Int)∉T.drop i→¬0<(Z68 q' k).sn
structure TOk(q:List Rq)(T:List Int):Prop where
 sorted:T.Pairwise (fun x y=>tC q x y<0)
 mem:∀x,x∈T↔∃k:Nat,k<q.length∧x=k∧0<(Z68 q x).sn
 nodup:T.Nodup
def bkC(S R:Rq):Bool:=!(R.id==S.id)&&((decide (0<R.sn)&&decide (toI R S<0)) || !cpI R.md S.wt)
def bkT(q:List Rq)(S:Rq)(k:Nat):List Int:=((q.take k).filter (bkC S)).map fun R=>R.txn
theorem Z6l(q:List Rq)(S:Rq)(k:Nat)(hk:k<q.length):bkT q S (k+1)=if bkC S q[k]=true then bkT q S k++[q[k].txn] else bkT q S k:=by
 unfold bkT
 rw[List.take_add_one,List.getElem?_eq_getElem hk,List.filter_append,List.map_append]
 by_cases e:bkC S q[k]=true
 ·rw[if_pos e];simp[e]
 ·rw[if_neg e];simp at e;simp[e]
theorem Z00(q:List Rq)(S:Rq)(k:Nat):(bkT q S k).length≤q.length:=by
 unfold bkT
 rw[List.length_map]
 exact Nat.le_trans (List.length_filter_le _ _) (by rw[List.length_take];omega)
theorem Z6m{W:Int}{q:List Rq}(h:Ok W q){S R:Rq}(hS:S∈q)(hR:R∈q)(hw:0<S.sn)(ne:R.id≠S.id):bkC S R=blk S R:=by
 have h1:=h.rt R hR
 have h2:=h.rt S hS
 have hz:R.md=0→0<R.sn:=fun e=>by
  rcases Int.lt_or_eq_of_le h1.s0 with g | g
  ·exact g
  ·exact absurd e (h1.h g.symm).1
 have hc0:R.md=0→cpI R.md S.wt=true:=fun e=>by rw[e];exact Z8j _ h2.wt
 unfold bkC blk
 rw[Bool.eq_iff_iff]
 simp only[Bool.and_eq_true,Bool.or_eq_true,Bool.not_eq_true',beq_eq_false_iff_ne,ne_eq,decide_eq_true_eq,bne_iff_ne,beq_iff_eq,Z5h]
 constructor
 ·rintro⟨_,⟨a,b | b⟩ | b⟩
  ·exact .inl (.inr ⟨⟨b.1,a⟩,.inl b.2⟩)
  ·by_cases e:R.md=0
   ·exact .inr ⟨⟨b.1.1 e,e⟩,b.2⟩
   ·exact .inl (.inr ⟨⟨e,a⟩,.inr b.2⟩)
  ·by_cases e:R.md=0
   ·rw[hc0 e] at b;cases b
   ·exact .inl (.inl ⟨e,b⟩)
 ·rintro((⟨a,b⟩ | ⟨⟨a,b⟩,c⟩) | ⟨⟨a,b⟩,c⟩)
  ·exact⟨ne,.inr b⟩
  ·refine⟨ne,.inl ⟨b,?_⟩⟩
   by_cases e:S.md=0
   ·exact .inl ⟨a,e⟩
   ·rcases c with c | c
    ·exact absurd c e
    ·exact .inr ⟨by simp[a,e],c⟩
  ·exact⟨ne,.inl ⟨hz b,.inr ⟨by simp[a,b],c⟩⟩⟩
theorem Za5{W:Int}{q:List Rq}(h:Ok W q){S:Rq}(hS:S∈q)(hw:0<S.sn):Lib.compact ((bkT q S q.length).mergeSort fun x y=>decide (x≤y))=Z09 q S:=by
 obtain⟨h1,h2⟩:=Z3y (bkT q S q.length)
 refine Z0v h1 (Uj q S) (fun x=>?_)
 rw[h2 x,Vp]
 unfold bkT
 rw[List.take_of_length_le (Nat.le_refl _),List.mem_map]
 constructor
 ·rintro⟨R,hR,e⟩
  obtain⟨hR,hc⟩:=List.mem_filter.1 hR
  have ne:R.id≠S.id:=by unfold bkC at hc;simp at hc;exact hc.1
  exact⟨R,hR,ne,by rw[←Z6m h hS hR hw ne];exact hc,e⟩
 ·rintro⟨R,hR,ne,hc,e⟩
  exact⟨R,List.mem_filter.2 ⟨hR,by rw[Z6m h hS hR hw ne];exact hc⟩,e⟩
theorem Z5n(t r W id:Int)(v:Value)(q:List Rq)(w:World)(hl:q.length≤1000)(hok:Ok W q)(h:Ur w v q) :
  Calls prog 49 #[hdV t r v W,.int .i64 id] w fun e w'=>∃v',e=.returned v'∧Nw w w'∧IS w' v' (Yi q id):=by
 have HOk:=hD0 hok
 have HAt:=hD0 h
 clear hok
 obtain⟨X,hX⟩:∃X,Yi q id=X:=⟨_,rfl⟩
 rw[hX]
 have HFq:=hD0 (fun(z:World) (g:Nw w z)=>Za9 t r W id v q z hl (h.nw g))
 obtain⟨a,c,rfl,_⟩:=h
 unfold hdV at HFq ⊢
 have hx1:=Z4 w (.cells #[.int .i64 t,.int .i64 r,.slice a q.length c,.int .i64 W] 43)
 have hN:Nw w (w.alloc (.cells #[.int .i64 t,.int .i64 r,.slice a q.length c,.int .i64 W] 43)):=(Nw.refl w).alloc _
 obtain⟨w1,hw1⟩:∃w1,w.alloc (.cells #[.int .i64 t,.int .i64 r,.slice a q.length c,.int .i64 W] 43)=w1:=⟨_,rfl⟩
 rw[hw1] at hx1 hN
 have HW1:=hD0 hw1
 have HB:=hD0 (aI0 hx1 hN)
 have HFq1:=hD0 (HFq.out w1 hN)
 have c0:=Z2 (j:=0) hx1
 have c1:=Z2 (j:=1) hx1
 have c2:=Z2 (j:=2) hx1
 have c3:=Z2 (j:=3) hx1
 have hpl:=hlt hx1
 clear hw1 hx1 hN HFq
 unfold Z45 at HFq1
 cases hf:fnd q id with
 | none =>
  rw[hf] at HFq1
  simp only at HFq1
  have hR:=hX.symm.trans (show Yi q id=[] by unfold Yi;rw[hf])
  subst hR
  unfold rqV at HFq1
  clear hX hf
  go_enter func49,ntmps49
  go_wp2_with fail
  rw[HW1.out]
  go_wp2_with fail
  go_at_call 63
  refine HFq1.out.mono ?_
  rintro e w2 ⟨rfl,g2⟩
  have HG:=hD0 (HB.out.2.trans g2)
  clear c0 c1 c2 c3 hpl g2 HFq1
  go_wp2
  go_ret
  exact⟨_,rfl,HG.out.alloc _,IS.nil _⟩
 | some S =>
  rw[hf] at HFq1
  simp only at HFq1
  have hS:=(Z77 hf).1
  have hSi:=(Z77 hf).2
  have hX1:¬0<S.sn→X=[]:=fun s=>hX.symm.trans (by unfold Yi;rw[hf];exact if_neg s)
  have hX2:0<S.sn→X=Z09 q S:=fun s=>hX.symm.trans (by unfold Yi;rw[hf];exact if_pos s)
  have HX1:=hD0 hX1
  have HX2:=hD0 hX2
  have HSq:=hD0 (aI0 hS hSi)
  have HWa:=hD0 (fun z=>Z6t S z)
  have HAh:=hD0 (fun z=>Z6q S z)
  clear hX hf hX1 hX2 hS hSi
  have HSv:Hid (S=⟨S.id,S.txn,S.md,S.wt,S.sn⟩):=hD0 rfl
  obtain⟨s0,s1,s2,s3,s4⟩:=S
  simp only at HX1 HX2 HAh HSq
  unfold rqV at HFq1 HWa HAh
  clear HSv
  go_enter func49,ntmps49
  go_wp2_with fail
  rw[HW1.out]
  go_wp2_with fail
  go_at_call 63
  refine HFq1.out.mono ?_
  rintro e w2 ⟨rfl,g2⟩
  have hb3:=RqB.made w2 s0 s1 s2 s3 s4 56
  obtain⟨w3,hw3⟩:∃w3,w2.alloc (.cells #[.int .i64 s0,.int .i64 s1,.int .i64 s2,.int .i64 s3,.int .i64 s4] 56)=w3:=⟨_,rfl⟩
  have g3:Nw w2 w3:=by rw[←hw3];exact(Nw.refl w2).alloc _
  rw[hw3] at hb3
  have HW3:=hD0 hw3
  have HB3:=hD0 (aI0 hb3 (aI0 ((HB.out.2.trans g2).trans g3) (g3.at' (g2.at' HB.out.1))))
  obtain⟨yl,y0,y1,y2,y3,y4⟩:=hb3
  clear c0 c1 c2 c3 hpl g2 g3 hw3 HFq1
  go_wp2_with fail
  rw[HW3.out]
  go_wp2_with fail
  go_at_call 64
  refine(HWa.out _).mono ?_
  rintro e w4 ⟨rfl,g4⟩
  have HB4:=hD0 (aI0 (HB3.out.1.nw g4) (aI0 (HB3.out.2.1.trans g4) (g4.at' HB3.out.2.2)))
  clear yl y0 y1 y2 y3 y4 g4 HWa
  by_cases hs:0<s4
  rotate_left
  ·have ds:decide (0<s4)=false:=by simpa using hs
   have hR:=HX1.out (by first | exact hs | exact Int.not_lt.1 hs)
   subst hR
   clear hs HX1 HX2
   go_wp2
   go_ret
   exact⟨_,rfl,HB4.out.2.1,IS.nil _⟩
  have ds:decide (0<s4)=true:=by simpa using hs
  have hR:=HX2.out hs
  have HAll:=hD0 (Za5 HOk.out HSq.out.1 hs)
  rw[←hR] at HAll
  obtain⟨yl,y0,y1,y2,y3,y4⟩:=HB4.out.1
  clear hs HX1 HX2 hR
  go_wp2_with fail
  go_at_call 65
  refine(HAh.out _).mono ?_
  rintro e w5 ⟨pa,rfl,g5,hbx⟩
  obtain⟨g,lb,hfv,eg,hT⟩:=V7.ahead (S:=⟨s0,s1,s2,s3,s4⟩) hbx
  have HT:=hD0 hT
  have HB5:=hD0 (aI0 (HB4.out.1.nw g5) (aI0 (HB4.out.2.1.trans g5) (g5.at' HB4.out.2.2)))
  have c2:=Z2 (j:=2) HB5.out.2.2
  have hpl:=hlt HB5.out.2.2
  rw[hfv]
  clear yl y0 y1 y2 y3 y4 g5 hbx hT hfv HAh ds
  go_wp2
  clear c2 hpl
  go_loopw [8,29] (fun x i wr=>∃k:Nat,k≤q.length∧i=.int .i64 k∧IS wr x (bkT q ⟨s0,s1,s2,s3,s4⟩ k)∧Nw w5 wr∧∀g,x.ownBlock=some g→w5.heap.size≤g) (fun _ i _=>q.length-(intOf i).toNat)
  case atStart=>exact⟨0,Nat.zero_le _,rfl,IS.nil _,Nw.refl _,fun g e=>by simp[Value.ownBlock] at e⟩
  case round =>
   obtain⟨k,hk,rfl,hI,hN,hfr⟩:=hrel
   by_cases hlk:k<q.length
   ·obtain⟨a',c',e,⟨e4,_⟩ | ⟨b,o,e4,hc⟩⟩:=(HAt.out.nw (HB5.out.2.1.trans hN))
    ·subst e4;simp at hlk
    simp only[Value.slice.injEq,true_and] at e
    obtain⟨rfl,rfl⟩:=e
    subst e4
    have hki:(k:Int)<(q.length:Int):=by omega
    have hstep:=Z6l q ⟨s0,s1,s2,s3,s4⟩ k hlk
    have hce:=hc.cell k hlk
    have HKn:=hD0 (aI0 (HOk.out.rt _ (gM0 hlk)).md (HOk.out.rt _ HSq.out.1).wt)
    have HTk:=hD0 (fun(z:World) (g:Nw w5 z)=>HT.out q[k] z g)
    generalize q[k]=R at *
    obtain⟨b0,b1,b2,b3,b4⟩:=R
    unfold rqV at HTk
    have e0:=hce 0 _ rfl
    have e1:=hce 1 _ rfl
    have e2:=hce 2 _ rfl
    have e3:=hce 3 _ rfl
    have e4:=hce 4 _ rfl
    simp only[Nat.add_zero] at e0
    simp only at hstep HTk HKn
    have hbk:bkC ⟨s0,s1,s2,s3,s4⟩ ⟨b0,b1,b2,b3,b4⟩=(!(b0==s0)&&((decide (0<b4)&&decide (toI ⟨b0,b1,b2,b3,b4⟩ ⟨s0,s1,s2,s3,s4⟩<0)) || !cpI b2 s3)):=rfl
    have g6:Nw wr (wr.alloc (.cells #[.int .i64 b0,.int .i64 b1,.int .i64 b2,.int .i64 b3,.int .i64 b4] 56)):=(Nw.refl wr).alloc _
    obtain⟨w6,hw6⟩:∃w6,wr.alloc (.cells #[.int .i64 b0,.int .i64 b1,.int .i64 b2,.int .i64 b3,.int .i64 b4] 56)=w6:=⟨_,rfl⟩
    have hs6:w6.heap.size=wr.heap.size+1:=by rw[←hw6];simp
    have hq6:=RqB.made wr b0 b1 b2 b3 b4 56
    rw[hw6] at g6 hq6
    have HQ6:=hD0 hq6
    obtain⟨hlq,x0,x1,x2,x3,x4⟩:=hq6
    have HI:=hD0 (aI0 (hI.nw g6) (aI0 (hN.trans g6) hfr))
    have HW6:=hD0 hw6
    have HCp:=hD0 (fun z=>dCp b2 s3 z HKn.out.1 HKn.out.2)
    obtain⟨A,hA⟩:∃A,(decide (0<b4)&&decide (toI ⟨b0,b1,b2,b3,b4⟩ ⟨s0,s1,s2,s3,s4⟩<0))=A:=⟨_,rfl⟩
    obtain⟨B,hB⟩:∃B,cpI b2 s3=B:=⟨_,rfl⟩
    rw[hA] at hbk HTk
    rw[hB] at hbk HCp
    have hy3:∀z,Nw w5 z→z.cell? ⟨w2.heap.size,3,none⟩=some (.int .i64 s3):=fun z hz=>hz.kp HB5.out.1.c3
    clear hce hI hN hfr g6 hw6 hA hB hc
    by_cases hi:b0=s0
    ·have di:(b0 != id)=false:=by have:=HSq.out.2;simp[hi,this]
     have hst:bkT q ⟨s0,s1,s2,s3,s4⟩ (k+1)=bkT q ⟨s0,s1,s2,s3,s4⟩ k:=by rw[hstep,if_neg (by rw[hbk];simp[hi])]
     have HS:=hD0 hst
     clear hstep hst hi hbk
     go_wp2_with fail
     go_roundw
     case rel=>exact⟨k+1,by omega,by go_num,by rw[HS.out];first | exact HI.out.1 | (rw[HW6.out];exact HI.out.1),by first | exact HI.out.2.1 | (rw[HW6.out];exact HI.out.2.1),HI.out.2.2⟩
     case measure=>simp[intOf];omega
    ·have di:(b0 != id)=true:=by have:=HSq.out.2;rw[←this];simpa using hi
     have hnb:(b0==s0)=false:=by simpa using hi
     rw[hnb] at hbk
     clear hi hnb
     cases A
     ·cases B
      ·
       have hst:bkT q ⟨s0,s1,s2,s3,s4⟩ (k+1)=bkT q ⟨s0,s1,s2,s3,s4⟩ k++[b1]:=by rw[hstep,if_pos (by rw[hbk];rfl)]
       have HS:=hD0 hst
       clear hstep hst hbk
       go_wp2_with fail
       rw[HW6.out]
       go_wp2_with fail
       go_at_fn g
       refine(HTk.out _ HI.out.2.1).mono ?_
       rintro e w7 ⟨rfl,g7⟩
       have hz3:=hy3 _ (HI.out.2.1.trans g7)
       have hzl:=World.block_lt_of_cell? _ _ hz3
       obtain⟨zl,z0,z1,z2,z3,z4⟩:=HQ6.out.nw g7
       have G7:=hD0 g7
       clear x0 x1 x2 x3 x4 hlq e0 e1 e2 e3 e4 g7
       go_wp2_with fail
       go_at_call 66
       refine(HCp.out _).mono ?_
       rintro e w8 ⟨rfl,g8⟩
       have hI8:=HI.out.1.nw (G7.out.trans g8)
       obtain⟨v',w9,hr,q1,q2,q3,⟨g',cap',hv'⟩⟩:=IS.push w8 _ (bkT q ⟨s0,s1,s2,s3,s4⟩ k) b1 hI8 (by have:=Z00 q ⟨s0,s1,s2,s3,s4⟩ k;omega)
       have HR:=hD0 hr
       have HN8:=hD0 ((HI.out.2.1.trans G7.out).trans g8)
       have HE:Hid (IS w9 v' (bkT q ⟨s0,s1,s2,s3,s4⟩ (k+1))∧Nw w5 w9∧∀g,v'.ownBlock=some g→w5.heap.size≤g):=hD0 ⟨by rw[HS.out];exact q1,Zm HN8.out q2 (fun i e=>HI.out.2.2 i e),fun g e=>by
        rcases q3 g e with h | h
        ·exact HI.out.2.2 g h
        ·have:=HN8.out.sz;omega⟩
       obtain⟨zl',z0',z1',z2',z3',z4'⟩:=(HQ6.out.nw G7.out).nw g8
       clear hr q1 q2 q3 hI8 g8 hv' zl z0 z1 z2 z3 z4 hz3 hzl
       go_wp2_with (at_builtin;(refine Z6 (by rfl) (.tmp 50) (.tmp 53) 24 rfl _ _ _ _ rfl rfl HR.out ?_))
       go_roundw
       case rel=>exact⟨k+1,by omega,by go_num,HE.out⟩
       case measure=>simp[intOf];omega
      ·have hst:bkT q ⟨s0,s1,s2,s3,s4⟩ (k+1)=bkT q ⟨s0,s1,s2,s3,s4⟩ k:=by rw[hstep,if_neg (by rw[hbk];simp)]
       have HS:=hD0 hst
       clear hstep hst hbk
       go_wp2_with fail
       rw[HW6.out]
       go_wp2_with fail
       go_at_fn g
       refine(HTk.out _ HI.out.2.1).mono ?_
       rintro e w7 ⟨rfl,g7⟩
       have hz3:=hy3 _ (HI.out.2.1.trans g7)
       have hzl:=World.block_lt_of_cell? _ _ hz3
       obtain⟨zl,z0,z1,z2,z3,z4⟩:=HQ6.out.nw g7
       have G7:=hD0 g7
       clear x0 x1 x2 x3 x4 hlq e0 e1 e2 e3 e4 g7
       go_wp2_with fail
       go_at_call 66
       refine(HCp.out _).mono ?_
       rintro e w8 ⟨rfl,g8⟩
       have G8:=hD0 (G7.out.trans g8)
       clear g8 zl z0 z1 z2 z3 z4 hz3 hzl
       go_wp2
       go_roundw
       case rel=>exact⟨k+1,by omega,by go_num,by rw[HS.out];exact HI.out.1.nw G8.out,HI.out.2.1.trans G8.out,HI.out.2.2⟩
       case measure=>simp[intOf];omega
     ·have hst:bkT q ⟨s0,s1,s2,s3,s4⟩ (k+1)=bkT q ⟨s0,s1,s2,s3,s4⟩ k++[b1]:=by rw[hstep,if_pos (by rw[hbk];simp)]
      have HS:=hD0 hst
      clear hstep hst hbk
      go_wp2_with fail
      rw[HW6.out]
      go_wp2_with fail
      go_at_fn g
      refine(HTk.out _ HI.out.2.1).mono ?_
      rintro e w8 ⟨rfl,g8⟩
      have hI8:=HI.out.1.nw g8
      obtain⟨v',w9,hr,q1,q2,q3,⟨g',cap',hv'⟩⟩:=IS.push w8 _ (bkT q ⟨s0,s1,s2,s3,s4⟩ k) b1 hI8 (by have:=Z00 q ⟨s0,s1,s2,s3,s4⟩ k;omega)
      have HR:=hD0 hr
      have HN8:=hD0 (HI.out.2.1.trans g8)
      have HE:Hid (IS w9 v' (bkT q ⟨s0,s1,s2,s3,s4⟩ (k+1))∧Nw w5 w9∧∀g,v'.ownBlock=some g→w5.heap.size≤g):=hD0 ⟨by rw[HS.out];exact q1,Zm HN8.out q2 (fun i e=>HI.out.2.2 i e),fun g e=>by
       rcases q3 g e with h | h
       ·exact HI.out.2.2 g h
       ·have:=HN8.out.sz;omega⟩
      obtain⟨zl',z0',z1',z2',z3',z4'⟩:=HQ6.out.nw g8
      clear hr q1 q2 q3 hI8 g8 hv' x0 x1 x2 x3 x4 hlq e0 e1 e2 e3 e4
      go_wp2_with (at_builtin;(refine Z6 (by rfl) (.tmp 50) (.tmp 53) 24 rfl _ _ _ _ rfl rfl HR.out ?_))
      go_roundw
      case rel=>exact⟨k+1,by omega,by go_num,HE.out⟩
      case measure=>simp[intOf];omega
   ·obtain rfl:k=q.length:=by omega
    have HSo:=hD0 (Zab _ _ _ hI (Nat.le_trans (Z00 q _ _) hl))
    have HE:=hD0 (aI0 hN hfr)
    clear hI hN hfr
    go_wp2_with fail
    go_at_call 67
    refine HSo.out.mono ?_
    rintro e w9 ⟨rfl,hI9,hT9⟩
    have HCm:=hD0 (Z5o _ _ _ hI9 (by rw[List.length_mergeSort];exact Nat.le_trans (Z00 q _ _) hl))
    have HN9:=hD0 (Zm HE.out.1 hT9 (fun i e=>HE.out.2 i e))
    clear hI9 hT9
    go_wp2_with fail
    go_at_call 68
    refine HCm.out.mono ?_
    rintro e w10 ⟨v10,rfl,hI10,_,hT10⟩
    have HZ:=hD0 (aI0 hI10 (Zm HN9.out hT10 (fun i e=>HE.out.2 i e)))
    clear hI10 hT10
    go_wp2
    go_ret
    exact⟨_,rfl,HB5.out.2.1.trans HZ.out.2,by rw[←HAll.out];exact HZ.out.1⟩
structure Hv where
 h:Hq
 v:Value
def Vu(x:Hv):List Value:=[.int .i64 x.h.t,.int .i64 x.h.r,x.v,.int .i64 x.h.W]
structure Z2h(w:World)(x:Hv):Prop where
 at_:Ur w x.v x.h.q
 ok:Ok x.h.W x.h.q
 len:x.h.q.length≤12
theorem Z2h.nw{w w':World}{x:Hv}(h:Z2h w x)(g:Nw w w'):Z2h w' x:=⟨h.at_.nw g,h.ok,h.len⟩
def Vk(l:List Hv)(k:Nat):List (Int × Int):=(l.take k).flatMap fun x=>Vg x.h.q x.h.q.length
theorem Vs{α β:Type}(f:α→List β)(N:Nat):∀(p:List α),(∀x∈p,(f x).length≤N)→(p.flatMap f).length≤p.length*N
 | [],_=>by simp
 | x::r,h=>by
  rw[List.flatMap_cons,List.length_append,List.length_cons,Nat.add_mul,Nat.one_mul,Nat.add_comm]
  exact Nat.add_le_add (Vs f N r fun y hy=>h y (List.mem_cons_of_mem _ hy)) (h x (List.mem_cons_self ..))
theorem Vq(q:List Rq)(id:Int):(Yi q id).length≤q.length:=by
 unfold Yi
 split
 ·simp
 ·split
  ·rename_i r _ _
   have hn:(Z09 q r).Nodup:=(Uj q r).imp (fun {a b} k=>by omega)
   have:=Vd (m:=q.map Rq.txn) hn fun y hy=>by
    obtain⟨o,ho,_,_,e⟩:=(Vp q r y).1 hy
    exact List.mem_map.2 ⟨o,ho,e⟩
   simpa using this
  ·simp
theorem Z8t(q:List Rq)(r:Rq):(edR q r).length≤q.length:=by
 unfold edR
 split
 ·rw[U1];exact Vq q r.id
 ·simp
theorem Z02{q:List Rq}(h:q.length≤12)(n:Nat):(Vg q n).length≤144:=by
 have h1:=Vs (edR q) 12 (q.take n) fun r _=>Nat.le_trans (Z8t q r) h
 have h2:(q.take n).length≤12:=Nat.le_trans (by rw[List.length_take];omega) h
 unfold Vg
 omega
theorem Z03{l:List Hv}(hl:l.length≤8)(h:∀x∈l,x.h.q.length≤12)(n:Nat):(Vk l n).length≤1152:=by
 have h1:=Vs (fun x:Hv=>Vg x.h.q x.h.q.length) 144 (l.take n) fun x hx=>Z02 (h x (List.mem_of_mem_take hx)) _
 have h2:(l.take n).length≤8:=Nat.le_trans (by rw[List.length_take];omega) hl
 unfold Vk
 omega
theorem Z2o{q:List Rq}{j:Nat}(hj:j<q.length):Vg q (j+1)=Vg q j++edR q q[j]:=by
 unfold Vg
 rw[List.take_succ_eq_append_getElem hj,List.flatMap_append]
 simp
theorem Z2q{l:List Hv}{k:Nat}(hk:k<l.length):Vk l (k+1)=Vk l k++Vg l[k].h.q l[k].h.q.length:=by
 unfold Vk
 rw[List.take_succ_eq_append_getElem hk,List.flatMap_append]
 simp
theorem Z0i{w w':World}{row:Option Nat}(g:w.grownBy w' row):Zf (fun b=>row=some b) w w':=⟨g.os,g.tape,g.output,g.size,fun k hk hn=>g.block k hk (fun e=>hn e.symm)⟩
theorem Z39{α:Type}{P:Program}{ST T:TypeId}{sz bytes:Nat}{row:α→List Value}(E:Uq P ST T sz bytes row){w:World}{g0:Nat}{v v2:Value}{l sg:List α}(h:Zu T sz row w g0 v l)(h2:Rd sz row w v2 sg)(hsm:l.length+sg.length≤100000)(hg0:g0≤w.heap.size) :
  ∃v' w1,(Builtin.append_ #[ST,ST] ST #[v,v2]).run P w=.ok v' w1∧Zu T sz row w1 g0 v' (l++sg)∧w.grownBy w1 v.ownBlock∧(v'.ownBlock=v.ownBlock∨v'.ownBlock=some w.heap.size):=by
 obtain⟨a,c,rfl,⟨rfl,h0⟩ | ⟨b,o,rfl,hc⟩⟩:=h2
 ·cases a with
  | none =>
   obtain rfl:=h0 rfl
   obtain⟨i0,z,hi,hz0,hz1,hz2,hz3⟩:=E.inf
   exact⟨_,_,run_append_owned_none (P:=P) w g0 ST ST T i0 sz E.und hi _ _ _ h,by rw[List.append_nil];exact h,(Nw.refl w).grownBy _,.inl rfl⟩
  | some ad=>exact Zu.many E h [] ad c (fun j u hu=>by simp[Z7] at hu) hsm hg0
 ·exact Zu.many E h sg ⟨b,o,none⟩ c (hc.flat E.len E.pos) hsm hg0
def CsE(A B:Nat)(ht hr:Int)(v:Value)(hW ri rt:Int)(z:World):Prop :=
 z.cell? ⟨A,0,none⟩=some (.int .i64 ht)∧z.cell? ⟨A,1,none⟩=some (.int .i64 hr)∧z.cell? ⟨A,2,none⟩=some v∧z.cell? ⟨A,3,none⟩=some (.int .i64 hW)∧z.cell? ⟨B,0,none⟩=some (.int .i64 ri)∧z.cell? ⟨B,1,none⟩=some (.int .i64 rt)
theorem CsE.tch{A B:Nat}{ht hr:Int}{v:Value}{hW ri rt:Int}{z z':World}(h:CsE A B ht hr v hW ri rt z){S:Nat→Prop}(t:Zf S z z')(hA:A<z.heap.size)(hB:B<z.heap.size)(nA:¬S A)(nB:¬S B):CsE A B ht hr v hW ri rt z' :=
 ⟨(t.cell hA nA).trans h.1,(t.cell hA nA).trans h.2.1,(t.cell hA nA).trans h.2.2.1,(t.cell hA nA).trans h.2.2.2.1,(t.cell hB nB).trans h.2.2.2.2.1,(t.cell hB nB).trans h.2.2.2.2.2⟩
theorem Z52{w:World}{g0 g1:Nat}{v:Value}{l:List (Int × Int)}(h:Z9 w g1 v l)(k:g0≤g1):Z9 w g0 v l:=by
 obtain⟨h1,h2⟩:=h
 refine⟨h1,?_⟩
 rcases h2 with h2 | ⟨g,cap,cur,q1,q2,q3⟩
 ·exact .inl h2
 ·exact .inr ⟨g,cap,cur,q1,Nat.le_trans k q2,q3⟩
structure EdI(W0:World)(l:List Hv)(v:Value)(k:Nat)(w:World):Prop where
 own:Z9 w W0.heap.size v (Vk l k)
 nw:Nw W0 w
structure EdJ(W0 w4:World)(A:Nat)(l:List Hv)(q:List Rq)(v:Value)(k n:Nat)(w:World):Prop where
 own:Z9 w W0.heap.size v (Vk l k++Vg q n)
 nw:Nw W0 w
 tch:Zf (fun j=>W0.heap.size≤j∧j≠A) w4 w
 off:v.ownBlock≠some A
theorem Z5p{w0:World}{v:Value}{l:List Hv}(h:Rd 4 Vu w0 v l)(hx:∀x∈l,Z2h w0 x)(hl:l.length≤8) :
  Calls prog 28 #[v] w0 fun e w'=>∃v',e=.returned v'∧Z9 w' w0.heap.size v' (sortE (Vk l l.length))∧Nw w0 w':=by
 have HX:=hD0 hx
 obtain⟨a,c,rfl,hd⟩:=h
 have HD:=hD0 hd
 obtain⟨n,hn⟩:∃n,l.length=n:=⟨_,rfl⟩
 have HN:=hD0 hn
 rw[hn] at hl ⊢
 clear hd hn hx
 go_enter func28,ntmps28
 go_wp2_with fail
 go_loopw [3,10] (fun v3 v10 wr=>∃(k:Nat) (a b c:_),v3=.slice a b c∧v10=.int .i64 k∧k≤n∧Hid (EdI w0 l (.slice a b c) k wr)) (fun _ v10 _=>n-(intOf v10).toNat)
 case atStart=>exact⟨0,none,0,0,rfl,rfl,Nat.zero_le _,hD0 ⟨World.ownsRow_nil _ _ _ _,Nw.refl _⟩⟩
 case round =>
  obtain⟨k,sa,sb,sc,rfl,rfl,hkn,HI⟩:=hrel
  by_cases hlt:k<n
  ·have hkl:k<l.length:=by rw[HN.out];exact hlt
   rcases HD.out with⟨q,_⟩ | ⟨eb,eo,rfl,hrc⟩
   ·rw[q] at hkl;simp at hkl
   have hrw:=hrc.nw HI.out.nw
   obtain⟨x,hxk⟩:∃x,l[k]=x:=⟨_,rfl⟩
   have hxm:x∈l:=hxk▸gM0 hkl
   have z0:=hrw.cell k hkl 0 (.int .i64 x.h.t) (by rw[hxk];rfl)
   have z1:=hrw.cell k hkl 1 (.int .i64 x.h.r) (by rw[hxk];rfl)
   have z2:=hrw.cell k hkl 2 x.v (by rw[hxk];rfl)
   have z3:=hrw.cell k hkl 3 (.int .i64 x.h.W) (by rw[hxk];rfl)
   have hebl:=hrw.lt
   have HO:=hD0 ((HX.out x hxm).nw HI.out.nw)
   obtain⟨⟨ht,hr,hW,q⟩,qv⟩:=x
   obtain⟨qa,qc,e,hqd⟩:=HO.out.at_
   simp only at e
   subst e
   have HQD:=hD0 hqd
   have Zr:=Zp hlt
   have hw:=Zo k (k+1) (by omega) rfl
   obtain⟨k1,hk1⟩:∃m,k+1=m:=⟨_,rfl⟩
   have HK1:=hD0 (aI0 hk1 hlt)
   have HXK:=hD0 (show ∃h:k<l.length,l[k]=_ from⟨hkl,hxk⟩)
   rw[hk1] at hw
   obtain⟨m,hm⟩:∃m,q.length=m:=⟨_,rfl⟩
   have HM:=hD0 hm
   simp only[hm] at z2
   simp only[Nat.add_zero] at z0 z1 z3
   clear hk1 hxk hkl hrw hrc hqd hlt hm
   go_upto_region 5 with fail
   have hal:=Z4 wr (.cells #[.int .i64 ht,.int .i64 hr,.slice qa m qc,.int .i64 hW] 43)
   have g4:Nw wr (wr.alloc (.cells #[.int .i64 ht,.int .i64 hr,.slice qa m qc,.int .i64 hW] 43)):=(Nw.refl wr).alloc _
   obtain⟨w4,hw4⟩:∃w4,wr.alloc (.cells #[.int .i64 ht,.int .i64 hr,.slice qa m qc,.int .i64 hW] 43)=w4:=⟨_,rfl⟩
   obtain⟨A,hA⟩:∃A,wr.heap.size=A:=⟨_,rfl⟩
   have hAg:w0.heap.size≤A:=by rw[←hA];exact HI.out.nw.sz
   have HJ:=hD0 (show EdJ w0 w4 A l q (.slice sa sb sc) k 0 w4 from by
    refine⟨?_,?_,Zf.refl _ _,fun e=>?_⟩
    ·rw[←hw4]
     have:=Yo HI.out.own g4
     simpa [Vg] using this
    ·rw[←hw4];exact HI.out.nw.trans g4
    ·have:=Ut HI.out.own e
     omega)
   rw[hA] at hal ⊢
   rw[hw4] at hal g4 ⊢
   have HAL:=hD0 (aI0 hal (Go.Proofs.YtbnpnccpobkodaaGreat.hlt hal))
   have HO4:=hD0 (HX.out _ hxm)
   have hml:m≤12:=by rw[←HM.out];exact HO.out.len
   have a0:=Z2 hal (j:=0)
   have a1:=Z2 hal (j:=1)
   have a2:=Z2 hal (j:=2)
   have a3:=Z2 hal (j:=3)
   clear hal g4 hw4 hA z0 z1 z2 z3 HO hebl
   go_wp2_with fail
   clear a0 a1 a2 a3
   go_loopw [3,17] (fun v3 v17 wr=>∃(j:Nat) (a b c:_),v3=.slice a b c∧v17=.int .i64 j∧j≤m∧Hid (EdJ w0 w4 A l q (.slice a b c) k j wr)) (fun _ v17 _=>m-(intOf v17).toNat)
   case atStart=>exact⟨0,_,_,_,rfl,rfl,Nat.zero_le _,HJ⟩
   case round =>
    clear HJ HI
    obtain⟨j,sa,sb,sc,rfl,rfl,hjm,HJ⟩:=hrel
    by_cases hltj:j<m
    ·have hjq:j<q.length:=by rw[HM.out];exact hltj
     have hq4:=HO4.out.at_.nw HJ.out.nw
     obtain⟨qa',qc',e,hqd⟩:=hq4
     simp only[Value.slice.injEq] at e
     obtain⟨rfl,_,rfl⟩:=e
     rcases hqd with⟨e,_⟩ | ⟨qb,qo,rfl,hqc⟩
     ·have e':q=[]:=e
      rw[e'] at hjq;simp at hjq
     obtain⟨R,hR⟩:∃R,q[j]=R:=⟨_,rfl⟩
     have hRm:R∈q:=hR▸gM0 hjq
     have r0:=hqc.cell j hjq 0 (.int .i64 R.id) (by rw[hR];rfl)
     have r1:=hqc.cell j hjq 1 (.int .i64 R.txn) (by rw[hR];rfl)
     have r2:=hqc.cell j hjq 2 (.int .i64 R.md) (by rw[hR];rfl)
     have r3:=hqc.cell j hjq 3 (.int .i64 R.wt) (by rw[hR];rfl)
     have r4:=hqc.cell j hjq 4 (.int .i64 R.sn) (by rw[hR];rfl)
     have hqbl:=hqc.lt
     simp only[Nat.add_zero] at r0 r1 r2 r3 r4
     have hltj':=Zp hltj
     have hwj:=Zo j (j+1) (by omega) rfl
     obtain⟨j1,hj1⟩:∃m,j+1=m:=⟨_,rfl⟩
     have HJ1:=hD0 (aI0 hj1 hltj)
     have hed:Vg q j1=Vg q j++edR q R:=by rw[←hj1,←hR];exact Z2o hjq
     have HED:=hD0 hed
     have HRm:=hD0 hRm
     rw[hj1] at hwj
     obtain⟨ri,rt,rm,rw_,rs⟩:=R
     simp only at r0 r1 r2 r3 r4
     clear hj1 hR hjq hqc hed hRm hltj
     go_upto_region 8 with fail
     have hal:=Z4 wr (.cells #[.int .i64 ri,.int .i64 rt,.int .i64 rm,.int .i64 rw_,.int .i64 rs] 56)
     have g5:Nw wr (wr.alloc (.cells #[.int .i64 ri,.int .i64 rt,.int .i64 rm,.int .i64 rw_,.int .i64 rs] 56)):=(Nw.refl wr).alloc _
     obtain⟨w5,hw5⟩:∃w5,wr.alloc (.cells #[.int .i64 ri,.int .i64 rt,.int .i64 rm,.int .i64 rw_,.int .i64 rs] 56)=w5:=⟨_,rfl⟩
     obtain⟨B,hB⟩:∃B,wr.heap.size=B:=⟨_,rfl⟩
     have HJ5:=hD0 (show EdJ w0 w4 A l q (.slice sa sb sc) k j w5 from by
      rw[←hw5]
      exact⟨Yo HJ.out.own g5,HJ.out.nw.trans g5,HJ.out.tch.alloc _,HJ.out.off⟩)
     rw[hB] at hal ⊢
     rw[hw5] at hal g5 ⊢
     have b0:=Z2 hal (j:=0)
     have b1:=Z2 hal (j:=1)
     have b4:=Z2 hal (j:=4)
     have HBl2:=hD0 (Go.Proofs.YtbnpnccpobkodaaGreat.hlt hal)
     have HBo:=hD0 (show ¬(Value.slice sa sb sc).ownBlock=some B from fun e=>by
      have:=Ut HJ.out.own e
      omega)
     clear hal g5 hw5 hB r0 r1 r2 r3 r4 HJ hqbl
     by_cases hs:0<rs
     ·have dS:decide (0<rs)=true:=decide_eq_true hs
      have tA:A<w4.heap.size:=HAL.out.2
      have cA:∀z,Nw w5 z→∀o,z.cell? ⟨A,o,none⟩=w4.cell? ⟨A,o,none⟩:=fun z g o=>(HJ5.out.tch.trans (Zf.nw g)).cell tA (fun e=>e.2 rfl)
      have HCs:=hD0 (show ∀z,Nw w5 z→CsE A B ht hr (.slice (some ⟨qb,qo,none⟩) m qc) hW ri rt z from fun z g=>⟨(cA z g 0).trans (Z2 HAL.out.1 (j:=0)),(cA z g 1).trans (Z2 HAL.out.1 (j:=1)),(cA z g 2).trans (Z2 HAL.out.1 (j:=2)),(cA z g 3).trans (Z2 HAL.out.1 (j:=3)),g.kp b0,g.kp b1⟩)
      have ta0:∀z,CsE A B ht hr (.slice (some ⟨qb,qo,none⟩) m qc) hW ri rt z→z.cell? ⟨A,0,none⟩=some (.int .i64 ht):=fun z h=>h.1
      have ta1:∀z,CsE A B ht hr (.slice (some ⟨qb,qo,none⟩) m qc) hW ri rt z→z.cell? ⟨A,1,none⟩=some (.int .i64 hr):=fun z h=>h.2.1
      have ta2:∀z,CsE A B ht hr (.slice (some ⟨qb,qo,none⟩) m qc) hW ri rt z→z.cell? ⟨A,2,none⟩=some (.slice (some ⟨qb,qo,none⟩) m qc):=fun z h=>h.2.2.1
      have ta3:∀z,CsE A B ht hr (.slice (some ⟨qb,qo,none⟩) m qc) hW ri rt z→z.cell? ⟨A,3,none⟩=some (.int .i64 hW):=fun z h=>h.2.2.2.1
      have tb0:∀z,CsE A B ht hr (.slice (some ⟨qb,qo,none⟩) m qc) hW ri rt z→z.cell? ⟨B,0,none⟩=some (.int .i64 ri):=fun z h=>h.2.2.2.2.1
      have tb1:∀z,CsE A B ht hr (.slice (some ⟨qb,qo,none⟩) m qc) hW ri rt z→z.cell? ⟨B,1,none⟩=some (.int .i64 rt):=fun z h=>h.2.2.2.2.2
      have HBl:=hD0 (fun(z:World) (g:Nw w5 z)=>Z5n ht hr hW ri (.slice (some ⟨qb,qo,none⟩) m qc) q z (Nat.le_trans HO4.out.len (by decide)) HO4.out.ok (by
       have:=HO4.out.at_.nw (HJ5.out.nw.trans g)
       rw[←HM.out];exact this))
      have hsl:=HED.out
      rw[show edR q ⟨ri,rt,rm,rw_,rs⟩=Yj rt (Yi q ri) from if_pos hs] at hsl
      have HSL:=hD0 hsl
      clear hsl cA tA hs b0 b1
      go_wp2_with fail
      refine Zb [] (CsE A B ht hr (.slice (some ⟨qb,qo,none⟩) m qc) hW ri rt) (by kernel_rfl) ?_
      change Za _ _ _ _ _ _ 10 #[false,false,false,false,false,false,false,false,false,false] _ w5.drew
      obtain⟨y4,hy4⟩:∃y,w5.drew=y:=⟨_,rfl⟩
      rw[hy4]
      have hN0:Nw w5 y4:=by rw[←hy4];exact(Nw.refl w5).dr
      clear hy4
      have hS0:=HCs.out y4 hN0
      refine Z0 0 rfl (by kernel_rfl) (by kernel_rfl) (by kernel_rfl) (fun v c a w h=>h) ?_
      (first | (refine⟨undef,Or.inr ⟨by rfl,rfl⟩,?_⟩) | (apply Exists.intro;refine⟨Or.inl ⟨by rfl,?_⟩,?_⟩;(intro x hx';go_simp;first | done | with_reducible rfl)))
      (try simp only[Act.put,List.getElem_toArray,List.getElem_cons_zero,List.getElem_cons_succ,List.setIfInBounds_toArray,List.set_cons_zero,List.set_cons_succ])
      refine Z0 1 rfl (by kernel_rfl) (by kernel_rfl) (by kernel_rfl) (fun v c a w h=>h) ?_
      (first | (refine⟨undef,Or.inr ⟨by rfl,rfl⟩,?_⟩) | (apply Exists.intro;refine⟨Or.inl ⟨by rfl,?_⟩,?_⟩;(intro x hx';go_simp;first | done | with_reducible rfl)))
      (try simp only[Act.put,List.getElem_toArray,List.getElem_cons_zero,List.getElem_cons_succ,List.setIfInBounds_toArray,List.set_cons_zero,List.set_cons_succ])
      refine Z1 2 rfl (by kernel_rfl) (by kernel_rfl) (by kernel_rfl) (by kernel_rfl) (fun v c a w h=>h) hS0 ?_
      (first | (refine⟨undef,Or.inr ⟨by rfl,rfl⟩,?_⟩) | (apply Exists.intro;refine⟨Or.inl ⟨by rfl,?_⟩,?_⟩;(intro x hx';go_simp;first | done | with_reducible rfl)))
      (try simp only[Act.put,List.getElem_toArray,List.getElem_cons_zero,List.getElem_cons_succ,List.setIfInBounds_toArray,List.set_cons_zero,List.set_cons_succ])
      refine Z1 3 rfl (by kernel_rfl) (by kernel_rfl) (by kernel_rfl) (by kernel_rfl) (fun v c a w h=>h) hS0 ?_
      (first | (refine⟨undef,Or.inr ⟨by rfl,rfl⟩,?_⟩) | (apply Exists.intro;refine⟨Or.inl ⟨by rfl,?_⟩,?_⟩;(intro x hx';go_simp;first | done | with_reducible rfl)))
      (try simp only[Act.put,List.getElem_toArray,List.getElem_cons_zero,List.getElem_cons_succ,List.setIfInBounds_toArray,List.set_cons_zero,List.set_cons_succ])
      refine Z0 4 rfl (by kernel_rfl) (by kernel_rfl) (by kernel_rfl) (fun v c a w h=>h) ?_
      (first | (refine⟨undef,Or.inr ⟨by rfl,rfl⟩,?_⟩) | (apply Exists.intro;refine⟨Or.inl ⟨by rfl,?_⟩,?_⟩;(intro x hx';go_simp;first | done | with_reducible rfl)))
      (try simp only[Act.put,List.getElem_toArray,List.getElem_cons_zero,List.getElem_cons_succ,List.setIfInBounds_toArray,List.set_cons_zero,List.set_cons_succ])
      refine Z1 5 rfl (by kernel_rfl) (by kernel_rfl) (by kernel_rfl) (by kernel_rfl) (fun v c a w h=>h) hS0 ?_
      (first | (refine⟨undef,Or.inr ⟨by rfl,rfl⟩,?_⟩) | (apply Exists.intro;refine⟨Or.inl ⟨by rfl,?_⟩,?_⟩;(intro x hx';go_simp;first | done | with_reducible rfl)))
      (try simp only[Act.put,List.getElem_toArray,List.getElem_cons_zero,List.getElem_cons_succ,List.setIfInBounds_toArray,List.set_cons_zero,List.set_cons_succ])
      refine Z3 6 (by kernel_rfl) rfl (fun K hK=>?_)
      rw[if_pos (by rfl)]
      (try simp only[List.getElem_toArray,List.getElem_cons_zero,List.getElem_cons_succ])
      go_simp
      refine(HBl.out y4 hN0).mono ?_
      rintro e w6 ⟨v6,rfl,g6,hI6⟩
      refine hK _ _ (.inr (HCs.out w6 (hN0.trans g6))) ?_
      clear hK K
      (try simp only[Act.put,List.getElem_toArray,List.getElem_cons_zero,List.getElem_cons_succ,List.setIfInBounds_toArray,List.set_cons_zero,List.set_cons_succ])
      have hTw:=Z4j hI6 (Nat.le_trans (Vq q ri) (Nat.le_trans HO4.out.len (by decide))) rt
      have hS6:=hN0.trans g6
      clear g6 hI6 hS0 hN0
      refine Z3 7 (by kernel_rfl) rfl (fun K hK=>?_)
      rw[if_pos (by rfl)]
      (try simp only[List.getElem_toArray,List.getElem_cons_zero,List.getElem_cons_succ])
      go_simp
      refine hTw.mono ?_
      rintro e w7 ⟨v7,rfl,hO7,g7⟩
      refine hK _ _ (.inr (HCs.out w7 (hS6.trans g7))) ?_
      clear hK K hTw
      (try simp only[Act.put,List.getElem_toArray,List.getElem_cons_zero,List.getElem_cons_succ,List.setIfInBounds_toArray,List.set_cons_zero,List.set_cons_succ])
      have hS7:=hS6.trans g7
      have hle:(Vk l k++Vg q j).length+(Yj rt (Yi q ri)).length≤100000:=by
       have h1:=Z03 (l:=l) (by rw[HN.out];exact hl) (fun x hx=>(HX.out x hx).len) k
       have h2:(Vg q j).length≤144:=Z02 HO4.out.len j
       have h3:(Yi q ri).length≤12:=Nat.le_trans (Vq q ri) HO4.out.len
       rw[List.length_append,U1]
       omega
      obtain⟨v8,w8,hr8,hO8,hg8,hp8⟩:=Z39 Y6 (Yo HJ5.out.own hS7) hO7.at_ hle (HJ5.out.nw.trans hS7).sz
      obtain⟨n8,hn8⟩:∃n,(Vk l k++Vg q j++Yj rt (Yi q ri)).length=n:=⟨_,rfl⟩
      have hCs8:CsE A B ht hr (.slice (some ⟨qb,qo,none⟩) m qc) hW ri rt w8:=(HCs.out w7 hS7).tch (Z0i hg8) (lL0 HAL.out.2 (HJ5.out.tch.trans (Zf.nw hS7)).size) (lL0 HBl2.out hS7.sz) HJ5.out.off HBo.out
      rcases Ve hO8 with⟨rfl,e8⟩ | ⟨g8,cap8,rfl⟩
      all_goals
       try rw[hn8] at hr8 hO8 hp8
       have HJ8:=hD0 (show EdJ w0 w4 A l q _ k j1 w8 from⟨by
        rw[HSL.out,←List.append_assoc];exact hO8,(HJ5.out.nw.trans hS7).gro hg8 (fun b e=>Va HJ5.out.own e),(HJ5.out.tch.trans (Zf.nw hS7)).grown hg8 (fun b e=>by
         by_cases hb:w4.heap.size≤b
         ·exact .inr hb
         ·exact .inl ⟨Va HJ5.out.own e,fun e'=>HJ5.out.off (by rw[e,e'])⟩),fun e=>by
         rcases hp8 with p8 | p8
         ·exact HJ5.out.off (by rw[←p8,e])
         ·rw[p8] at e
          have:=Option.some.inj e
          have h5:=HAL.out.2
          have h6:=(HJ5.out.tch.trans (Zf.nw hS7)).size
          omega⟩)
       have HR8:=hD0 hr8
       clear hr8 hO8 hg8 hp8 hO7 g7 hle hn8
       refine Z3 8 (by kernel_rfl) rfl (fun K hK=>?_)
       refine Yn (by rfl) (.tmp 24) (.tmp 31) 22 rfl _ _ _ _ rfl rfl HR8.out ?_
       refine hK _ _ (.inr hCs8) ?_
       clear hK K HR8
       (try simp only[Act.put,List.getElem_toArray,List.getElem_cons_zero,List.getElem_cons_succ,List.setIfInBounds_toArray,List.set_cons_zero,List.set_cons_succ])
       refine Z0 9 rfl (by kernel_rfl) (by kernel_rfl) (by kernel_rfl) (fun v c a w h=>h) ?_
       (first | (refine⟨undef,Or.inr ⟨by rfl,rfl⟩,?_⟩) | (apply Exists.intro;refine⟨Or.inl ⟨by rfl,?_⟩,?_⟩;(intro x hx';go_simp;first | done | with_reducible rfl)))
       (try simp only[Act.put,List.getElem_toArray,List.getElem_cons_zero,List.getElem_cons_succ,List.setIfInBounds_toArray,List.set_cons_zero,List.set_cons_succ])
       refine Z5 (by kernel_rfl) ?_ _
       refine NoPanic.normal ?_
       (try simp only[Act.put,List.getElem_toArray,List.getElem_cons_zero,List.getElem_cons_succ,List.setIfInBounds_toArray,List.set_cons_zero,List.set_cons_succ])
       clear hS7 hS6 hCs8 ta0 ta1 ta2 ta3 tb0 tb1
       go_wp2_with fail
       exact⟨⟨j1,_,_,_,rfl,rfl,by rw[←HJ1.out.1];exact HJ1.out.2,HJ8⟩,by rw[←HJ1.out.1];exact Zh HJ1.out.2⟩
     ·have dS:decide (0<rs)=false:=decide_eq_false hs
      have HJ6:=hD0 (show EdJ w0 w4 A l q (.slice sa sb sc) k j1 w5 from⟨by
       rw[HED.out,show edR q ⟨ri,rt,rm,rw_,rs⟩=[] from if_neg hs,List.append_nil]
       exact HJ5.out.own,HJ5.out.nw,HJ5.out.tch,HJ5.out.off⟩)
      clear hs HJ5 b0 b1
      go_wp2_with fail
      exact⟨⟨j1,_,_,_,rfl,rfl,by rw[←HJ1.out.1];exact HJ1.out.2,HJ6⟩,by rw[←HJ1.out.1];exact Zh HJ1.out.2⟩
    ·obtain rfl:j=m:=Nat.le_antisymm hjm (Nat.le_of_not_lt hltj)
     have hltj':¬j<j:=Nat.lt_irrefl j
     have HI2:=hD0 (show EdI w0 l (.slice sa sb sc) k1 wr from⟨by
      obtain⟨h1,h2⟩:=HXK.out
      rw[←HK1.out.1,Z2q h1,h2]
      have:=HJ.out.own
      rw[←HM.out] at this
      exact this,HJ.out.nw⟩)
     clear hltj HJ
     go_wp2_with fail
     exact⟨⟨k1,_,_,_,rfl,rfl,by rw[←HK1.out.1];exact HK1.out.2,HI2⟩,by rw[←HK1.out.1];exact Zh HK1.out.2⟩
  ·obtain rfl:k=n:=Nat.le_antisymm hkn (Nat.le_of_not_lt hlt)
   have Zr:¬k<k:=Nat.lt_irrefl k
   have HS:=hD0 (Z0u (Z9.at_ HI.out.own) (Nat.le_trans (Z03 (l:=l) (by rw[HN.out];exact hl) (fun x hx=>(HX.out x hx).len) k) (by decide)))
   have HI2:=hD0 HI.out.nw
   clear hlt HI
   go_wp2_with fail
   refine HS.out.mono ?_
   rintro e w9 ⟨v9,rfl,hO9,g9⟩
   have HZ:=hD0 (aI0 (show Z9 w9 w0.heap.size v9 (sortE (Vk l k)) from Z52 hO9 HI2.out.sz) (HI2.out.trans g9))
   clear hO9 g9
   go_wp2
   go_ret
   exact⟨_,rfl,HZ.out.1,HZ.out.2⟩
section
variable {P:Program} {md:Region.Mode} {ops:Array Oper} {Q:Exit→Act→World→Prop} {S:World→Prop} {ts:List Nat}
theorem Z10(i j:Nat){oi oj:Oper}{fuel:Nat}{listed:Array Bool}{a:Act}{w:World}(hr:Region.ready md ops listed=[i,j])(hi:ops[i]?=some oi)(hj:ops[j]?=some oj)
  (h:∀K':Act→World→Prop,(∀a w,i∈ts∨S w→Za P md ops Q S ts fuel (listed.setIfInBounds i true) a w→K' a w)→if Region.wanted oi (yielded ops a.tmps)=true then Oper.wp P oi a w K' Q else K' (a.put oi.dst undef) w)
  (k:∀K':Act→World→Prop,(∀a w,j∈ts∨S w→Za P md ops Q S ts fuel (listed.setIfInBounds j true) a w→K' a w)→if Region.wanted oj (yielded ops a.tmps)=true then Oper.wp P oj a w K' Q else K' (a.put oj.dst undef) w):Za P md ops Q S ts (fuel+1) listed a w :=
 ⟨fun h0=>absurd (hr▸h0) (by simp),fun m hm=>by
  rw[hr] at hm
  rcases List.mem_cons.1 hm with e | e
  ·subst e
   exact opH hi (fun K' hK=>h K' (fun a w q1 q2=>hK a w ⟨fun _=>q1,q2⟩))
  ·obtain rfl:m=j:=by simpa using e
   exact opH hj (fun K' hK=>k K' (fun a w q1 q2=>hK a w ⟨fun _=>q1,q2⟩))⟩
end
theorem Z30{w:World}{B:Nat}{o:Obj}(hb:w.heap[B]?=some o):B<w.heap.size:=(Array.getElem?_eq_some_iff.1 hb).1
def Z5i(n:Nat):Nat:=if n=0 then 0 else 1
theorem Z73{N s k m:Nat}(hk:0<k)(hs:s+m≤N):2*(N-(s+m))+Z5i m<2*(N-s)+Z5i k:=by
 unfold Z5i
 rw[if_neg (by omega:¬k=0)]
 split<;>omega
def Za1(p:Addr)(v:Value)(z:World):Prop:=z.cell? p=some v
theorem LvJ.len{l:List (Int × Int)}{a b:Int}{n:Nat}{now seen0 seen next:List Int}{i:Nat}(h:LvJ l a b n now seen0 seen next i):seen.length≤l.length:=by
 have:=Vd (m:=l.map Prod.snd) h.nd fun y hy=>by
  rw[h.sn,List.mem_append] at hy
  rcases hy with q | q
  ·obtain⟨m,_,w⟩:=(h.top.ise y).1 q
   obtain⟨x,hx⟩:=Z7n (Z08 w)
   exact List.mem_map.2 ⟨_,hx,rfl⟩
  ·obtain⟨⟨j,hj,_,_,e⟩,_⟩:=(h.mem y).1 q
   exact List.mem_map.2 ⟨_,gM0 hj,e⟩
 simpa using this
structure U4(W0:World)(now seen next:List Int)(v7 v8 v10:Value)(w:World):Prop where
 n7:IS w v7 now
 o8:U5 w W0.heap.size v8 seen
 o10:U5 w W0.heap.size v10 next
 nw:Nw W0 w
 d78:∀b,v7.ownBlock=some b→v8.ownBlock≠some b
 d710:∀b,v7.ownBlock=some b→v10.ownBlock≠some b
 d810:∀b,v8.ownBlock=some b→v10.ownBlock≠some b
section
variable {W0 w z:World} {now seen next:List Int} {v7 v8 v10:Value}
theorem U4.nwr(h:U4 W0 now seen next v7 v8 v10 w)(g:Nw w z):U4 W0 now seen next v7 v8 v10 z :=
 ⟨h.n7.nw g,Yo h.o8 g,Yo h.o10 g,h.nw.trans g,h.d78,h.d710,h.d810⟩
theorem U4.turn(h:U4 W0 now seen next v7 v8 v10 w):U4 W0 next seen [] v10 v8 (.slice none 0 0) w :=
 ⟨Zu.is h.o10,h.o8,World.ownsRow_nil _ _ _ _,h.nw,fun b e k=>h.d810 b k e,(fun b _ e=>nomatch e),(fun b _ e=>nomatch e)⟩
theorem U4.push8(h:U4 W0 now seen next v7 v8 v10 z)(hl:seen.length<100000)(y:Int)(B:Nat)(hB:z.cell? ⟨B,0,none⟩=some (.int .i64 y)) :
  ∃ga cc w',(Builtin.append_ #[24,24] 24 #[v8,.slice (some ⟨B,0,none⟩) 1 1]).run prog z=.ok (.slice (some ⟨ga,0,none⟩) (seen.length+1) cc) w'∧U4 W0 now (seen++[y]) next v7 (.slice (some ⟨ga,0,none⟩) (seen.length+1) cc) v10 w'∧Zf (fun b=>v8.ownBlock=some b) z w':=by
 obtain⟨v',w',hr,hO,hg,hp,ga,cc,rfl⟩:=Zu.push Yc h.o8 y B 1 (fun j u hu=>by
  have hj:j<1:=(List.getElem?_eq_some_iff.1 hu).1
  obtain rfl:j=0:=by omega
  rw[hB]
  exact hu) hl h.nw.sz
 refine⟨ga,cc,w',hr,⟨Z38 h.n7 hg (fun b e k=>h.d78 b e k),hO,Z38 h.o10 hg (fun b e k=>h.d810 b k e),h.nw.gro hg (fun b e=>Va h.o8 e),fun b e k=>?_,h.d710,fun b e k=>?_⟩,Z0i hg⟩
 ·rcases hp with p | p
  ·exact h.d78 b e (by rw[←p];exact k)
  ·rw[p] at k
   have:=Ut h.n7 e
   have:=Option.some.inj k
   omega
 ·rcases hp with p | p
  ·exact h.d810 b (by rw[←p];exact e) k
  ·rw[p] at e
   have:=Ut h.o10 k
   have:=Option.some.inj e
   omega
theorem U4.push10(h:U4 W0 now seen next v7 v8 v10 z)(hl:next.length<100000)(y:Int)(B:Nat)(hB:z.cell? ⟨B,0,none⟩=some (.int .i64 y)) :
  ∃ga cc w',(Builtin.append_ #[24,24] 24 #[v10,.slice (some ⟨B,0,none⟩) 1 1]).run prog z=.ok (.slice (some ⟨ga,0,none⟩) (next.length+1) cc) w'∧U4 W0 now seen (next++[y]) v7 v8 (.slice (some ⟨ga,0,none⟩) (next.length+1) cc) w':=by
 obtain⟨v',w',hr,hO,hg,hp,ga,cc,rfl⟩:=Zu.push Yc h.o10 y B 1 (fun j u hu=>by
  have hj:j<1:=(List.getElem?_eq_some_iff.1 hu).1
  obtain rfl:j=0:=by omega
  rw[hB]
  exact hu) hl h.nw.sz
 refine⟨ga,cc,w',hr,⟨Z38 h.n7 hg (fun b e k=>h.d710 b e k),Z38 h.o8 hg (fun b e k=>h.d810 b e k),hO,h.nw.gro hg (fun b e=>Va h.o10 e),h.d78,fun b e k=>?_,fun b e k=>?_⟩⟩
 ·rcases hp with p | p
  ·exact h.d710 b e (by rw[←p];exact k)
  ·rw[p] at k
   have:=Ut h.n7 e
   have:=Option.some.inj k
   omega
 ·rcases hp with p | p
  ·exact h.d810 b e (by rw[←p];exact k)
  ·rw[p] at k
   have:=Ut h.o8 e
   have:=Option.some.inj k
   omega
end
theorem Z5v(w0:World)(a:Int):U4 w0 [a] [] [] (.slice (some ⟨w0.heap.size,0,none⟩) 1 1) (.slice (some ⟨w0.heap.size+1,0,none⟩) 0 0) (.slice none 0 0) ((w0.alloc (.cells #[.int .i64 a] 3)).alloc (.cells #[] 3)):=by
 have g1:Nw w0 (w0.alloc (.cells #[.int .i64 a] 3)):=(Nw.refl _).alloc _
 have g2:Nw (w0.alloc (.cells #[.int .i64 a] 3)) ((w0.alloc (.cells #[.int .i64 a] 3)).alloc (.cells #[] 3)):=(Nw.refl _).alloc _
 have h1:=Z51 Yc w0 [a] (by simp)
 have h2:=Z1h (T:=3) (sz:=1) (w0.alloc (.cells #[.int .i64 a] 3))
 have hs:(w0.alloc (.cells #[.int .i64 a] 3)).heap.size=w0.heap.size+1:=by simp
 rw[hs] at h2
 have h2':U5 _ w0.heap.size _ []:=Us h2 (fun b e=>by
  have:=Va h2 e
  omega)
 exact⟨(Zu.is h1).nw g2,h2',World.ownsRow_nil _ _ _ _,g1.trans g2,fun b e k=>by
  simp[Value.ownBlock] at e k
  omega,(fun b _ e=>nomatch e),(fun b _ e=>nomatch e)⟩
theorem Z7o{w0:World}{v:Value}{l:List (Int × Int)}(h:Zk w0 v l)(hl:l.length≤900)(a b:Int) :
  Calls prog 44 #[v,.int .i64 a,.int .i64 b] w0 fun e w'=>∃f,e=.returned (.int .i64 f)∧Z6e l a b f∧f≤1000∧Nw w0 w':=by
 obtain⟨la,lc,rfl,hd⟩:=h
 have HD:=hD0 hd
 obtain⟨N,hn⟩:∃n,l.length=n:=⟨_,rfl⟩
 have HN:=hD0 hn
 rw[hn] at hl ⊢
 have HF0:=hD0 (Z5v w0 a)
 clear hd hn
 go_enter func44,ntmps44
 go_wp2_with fail
 go_loopw [7,8,9] (fun v7 v8 v9 wr=>∃(n n1:Nat) (now seen:List Int) (a7:Option Addr) (b7 c7:Nat) (a8:Option Addr) (b8 c8:Nat),v7=.slice a7 b7 c7∧v8=.slice a8 b8 c8∧v9=.int .i64 n1∧n1≤N+2∧Hid (U4 w0 now seen [] (.slice a7 b7 c7) (.slice a8 b8 c8) (.slice none 0 0) wr∧LvI l a b n now seen∧n1=n+1∧now.length=b7∧seen.length=b8∧n≤seen.length+1∧(0<b7→n≤seen.length)∧now.length≤N+1)) (fun v7 v8 _ _=>2*(N-Z9e v8)+Z5i (Z9e v7))
 case atStart=>exact⟨0,1,[a],[],_,_,_,_,_,_,rfl,rfl,rfl,by omega,hD0 ⟨HF0.out,LvI.start l a b,rfl,rfl,rfl,Nat.zero_le _,fun _=>Nat.le_refl _,by simp⟩⟩
 case round =>
  clear HF0
  obtain⟨n,n1,now,seen,a7,b7,c7,a8,b8,c8,rfl,rfl,rfl,hn1,HI⟩:=hrel
  by_cases h7:0<b7
  rotate_left
  ·obtain rfl:b7=0:=Nat.eq_zero_of_not_pos h7
   have HR:=hD0 (show Z6e l a b (-1)∧Nw w0 wr from⟨.inr ⟨rfl,by
    obtain rfl:now=[]:=List.length_eq_zero_iff.1 HI.out.2.2.2.1
    exact HI.out.2.1.done⟩,HI.out.1.nw⟩)
   clear h7 HI
   go_wp2_with fail
   go_ret
   exact⟨_,rfl,HR.out.1,by decide,HR.out.2⟩
  ·have h7':(0:Int)<(b7:Int):=Int.ofNat_lt.2 h7
   have HJ0:=hD0 (show U4 w0 now seen [] (.slice a7 b7 c7) (.slice a8 b8 c8) (.slice none 0 0) wr∧LvJ l a b n now seen seen [] 0∧seen.length=b8∧([]:List Int).length=0 from⟨HI.out.1,LvJ.start HI.out.2.1,HI.out.2.2.2.2.1,rfl⟩)
   have HT:=hD0 (show n1=n+1∧n≤seen.length∧seen.length=b8∧now.length≤N+1∧0<b7 from⟨HI.out.2.2.1,HI.out.2.2.2.2.2.2.1 h7,HI.out.2.2.2.2.1,HI.out.2.2.2.2.2.2.2,h7⟩)
   have hwn:=Zo n1 (n1+1) (by omega) rfl
   obtain⟨n2,hn2⟩:∃m,n1+1=m:=⟨_,rfl⟩
   have HN2:=hD0 hn2
   rw[hn2] at hwn
   clear HI hn2
   go_wp2_with fail
   go_loopw [8,10,11] (fun v8 v10 v11 wr=>∃(i:Nat) (sn nx:List Int) (a8:Option Addr) (b8 c8:Nat) (a10:Option Addr) (b10 c10:Nat),v8=.slice a8 b8 c8∧v10=.slice a10 b10 c10∧v11=.int .i64 i∧i≤N∧Hid (U4 w0 now sn nx (.slice a7 b7 c7) (.slice a8 b8 c8) (.slice a10 b10 c10) wr∧LvJ l a b n now seen sn nx i∧sn.length=b8∧nx.length=b10)) (fun _ _ v11 _=>N-(intOf v11).toNat)
   case atStart=>exact⟨0,seen,[],_,_,_,_,_,_,rfl,rfl,rfl,Nat.zero_le _,HJ0⟩
   case round =>
    clear HJ0
    obtain⟨i,sn,nx,a8',b8',c8',a10,b10,c10,rfl,rfl,rfl,hiN,HJ⟩:=hrel
    by_cases hlt:i<N
    ·have hil:i<l.length:=by rw[HN.out];exact hlt
     rcases HD.out with⟨q,_⟩ | ⟨eb,eo,rfl,hrc⟩
     ·rw[q] at hil;simp at hil
     obtain⟨x0,x1⟩:=(hrc.nw HJ.out.1.nw).eg hil
     have hebl:=(hrc.nw HJ.out.1.nw).lt
     have heb0:=hrc.lt
     have hsn:sn.length≤N:=by rw[←HN.out];exact HJ.out.2.1.len
     have hnx:nx.length≤N:=by
      have:=HJ.out.2.1.sn
      rw[this,List.length_append] at hsn
      omega
     obtain⟨s,hs⟩:∃s,l[i]=s:=⟨_,rfl⟩
     have HSi:=hD0 (show ∃h:i<l.length,l[i]=s from⟨hil,hs⟩)
     simp only[hs] at x0 x1
     obtain⟨x,y⟩:=s
     simp only at x0 x1
     have HX:=hD0 (show ∀z,Nw wr z→z.cell? ⟨eb,eo+i*2,none⟩=some (.int .i64 x)∧z.cell? ⟨eb,eo+i*2+1,none⟩=some (.int .i64 y)∧eb<z.heap.size from fun z g=>⟨g.kp x0,g.kp x1,lL0 hebl g.sz⟩)
     have HInN:=hD0 (fun(z:World) (g:Nw wr z)=>Z5a (HJ.out.1.n7.nw g) (show now.length≤100000 by have:=HT.out.2.2.2.1;omega) x)
     have HInS:=hD0 (fun(z:World) (g:Nw wr z)=>Z5a ((Zu.is HJ.out.1.o8).nw g) (show sn.length≤100000 by omega) y)
     have HLn:=hD0 (aI0 HJ.out.2.2 (aI0 hsn hnx))
     have HEc:=hD0 (show w0.cell? ⟨eb,eo+i*2+1,none⟩=some (.int .i64 y) from by have:=(hrc.eg hil).2;rwa [hs] at this)
     have Zr:=Zp hlt
     have hw:=Zo i (i+1) (by omega) rfl
     obtain⟨i1,hi1⟩:∃m,i+1=m:=⟨_,rfl⟩
     have HI1:=hD0 (aI0 hi1 hlt)
     rw[hi1] at hw
     have HSkip:=hD0 (show(x∈now→y∈sn)→∀z,Nw wr z→U4 w0 now sn nx (.slice a7 b7 c7) (.slice a8' b8' c8') (.slice a10 b10 c10) z∧LvJ l a b n now seen sn nx i1∧sn.length=b8'∧nx.length=b10 from fun k z g=>by
      obtain⟨h1,h2⟩:=HSi.out
      refine⟨HJ.out.1.nwr g,?_,HJ.out.2.2⟩
      rw[←HI1.out.1]
      exact HJ.out.2.1.skip h1 (by rw[h2];exact k))
     clear hi1 hil hrc hlt hs hebl heb0 hsn hnx x0 x1
     obtain⟨x0,x1,x2⟩:=HX.out wr (Nw.refl _)
     by_cases hxn:x∈now
     rotate_left
     ·have hI:=HInN.out wr (Nw.refl _)
      rw[decide_eq_false hxn] at hI
      have HIx:=hD0 hI
      have HSk:=hD0 (HSkip.out (fun q=>absurd q hxn))
      clear hI hxn HSkip HInN HInS HJ
      go_wp2_with fail
      clear x0 x1 x2
      refine HIx.out.mono ?_
      rintro e w5 ⟨rfl,g5⟩
      have HR:=hD0 (HSk.out w5 g5)
      clear g5 HSk HIx
      go_wp2_with fail
      exact⟨⟨i1,sn,nx,_,_,_,_,_,_,rfl,rfl,rfl,by rw[←HI1.out.1];exact HI1.out.2,HR⟩,by rw[←HI1.out.1];exact Zh HI1.out.2⟩
     ·have hI:=HInN.out wr (Nw.refl _)
      rw[decide_eq_true hxn] at hI
      have HIx:=hD0 hI
      clear hI HInN
      by_cases hys:y∈sn
      ·have HIy:=hD0 (fun z g=>by
        have:=HInS.out z g
        rwa [decide_eq_true hys] at this)
       have HSk:=hD0 (HSkip.out (fun _=>hys))
       clear hxn hys HSkip HInS HJ
       go_wp2_with fail
       clear x0 x1 x2
       refine HIx.out.mono ?_
       rintro e w4 ⟨rfl,g4⟩
       have HG4:=hD0 g4
       have HI4:=hD0 (HIy.out w4 g4)
       obtain⟨x0,x1,x2⟩:=HX.out w4 g4
       clear g4 HIx HIy
       go_wp2_with fail
       clear x0 x1 x2
       refine HI4.out.mono ?_
       rintro e w5 ⟨rfl,g5⟩
       have HR:=hD0 (HSk.out w5 (HG4.out.trans g5))
       clear g5 HSk HI4
       go_wp2_with fail
       exact⟨⟨i1,sn,nx,_,_,_,_,_,_,rfl,rfl,rfl,by rw[←HI1.out.1];exact HI1.out.2,HR⟩,by rw[←HI1.out.1];exact Zh HI1.out.2⟩
      ·have HIy:=hD0 (fun z g=>by
        have:=HInS.out z g
        rwa [decide_eq_false hys] at this)
       by_cases hyb:y=b
       ·have db:(y==b)=true:=by simpa using hyb
        have HF:=hD0 (show Z6e l a b (n1:Int) from .inl ⟨n1,rfl,by rw[HT.out.1];exact Nat.succ_pos n,by
         obtain⟨h1,h2⟩:=HSi.out
         rw[HT.out.1]
         exact HJ.out.2.1.found h1 (by rw[h2];exact hxn) (by rw[h2];exact hyb)⟩)
        have HNw:=hD0 (aI0 HJ.out.1.nw (show(n1:Int)≤1000 by omega))
        clear hxn hys hyb HSkip HInS HJ
        go_wp2_with fail
        clear x0 x1 x2
        refine HIx.out.mono ?_
        rintro e w4 ⟨rfl,g4⟩
        have HG4:=hD0 g4
        have HI4:=hD0 (HIy.out w4 g4)
        obtain⟨x0,x1,x2⟩:=HX.out w4 g4
        clear g4 HIx HIy
        go_wp2_with fail
        clear x0 x1 x2
        refine HI4.out.mono ?_
        rintro e w5 ⟨rfl,g5⟩
        have HG5:=hD0 (HG4.out.trans g5)
        obtain⟨x0,x1,x2⟩:=HX.out w5 HG5.out
        clear g5 HI4
        go_wp2_with fail
        go_ret
        exact⟨_,rfl,HF.out,HNw.out.2,HNw.out.1.trans HG5.out⟩
       ·have db:(y==b)=false:=by simpa using hyb
        have HPs:=hD0 (show LvJ l a b n now seen (sn++[y]) (nx++[y]) i1 from by
         obtain⟨h1,h2⟩:=HSi.out
         have:=HJ.out.2.1.push h1 (by rw[h2];exact hxn) (by rw[h2];exact hys) (by rw[h2];exact hyb)
         rw[h2,HI1.out.1] at this
         exact this)
        have HFr:=hD0 HJ.out.1
        clear hxn hys hyb HSkip HInS HJ
        go_wp2_with fail
        clear x0 x1 x2
        refine HIx.out.mono ?_
        rintro e w4 ⟨rfl,g4⟩
        have HG4:=hD0 g4
        have HI4:=hD0 (HIy.out w4 g4)
        obtain⟨x0,x1,x2⟩:=HX.out w4 g4
        clear g4 HIx HIy
        go_wp2_with fail
        clear x0 x1 x2
        refine HI4.out.mono ?_
        rintro e w5 ⟨rfl,g5⟩
        have HG5:=hD0 (HG4.out.trans g5)
        obtain⟨x0,x1,x2⟩:=HX.out w5 HG5.out
        clear g5 HI4
        go_wp2_with fail
        refine Zb [] (Za1 ⟨eb,eo+i*2+1,none⟩ (.int .i64 y)) (by kernel_rfl) ?_
        change Za _ _ _ _ _ _ 18 #[false,false,false,false,false,false,false,false,false,false,false,false,false,false,false,false,false,false] _ w5.drew
        obtain⟨y4,hy4⟩:∃y,w5.drew=y:=⟨_,rfl⟩
        rw[hy4]
        have hN4:Nw w5 y4:=by rw[←hy4];exact(Nw.refl w5).dr
        clear hy4 x0 x1 x2
        have HCl:=hD0 (show ∀z,Nw w0 z→Za1 ⟨eb,eo+i*2+1,none⟩ (.int .i64 y) z from fun z g=>g.kp HEc.out)
        have t0:∀z,Za1 ⟨eb,eo+i*2+1,none⟩ (.int .i64 y) z→z.cell? ⟨eb,eo+i*2+1,none⟩=some (.int .i64 y):=fun z g=>g
        have HF4:=hD0 (HFr.out.nwr (HG5.out.trans hN4))
        have hS0:=HCl.out y4 HF4.out.nw
        refine Z0 0 rfl (by kernel_rfl) (by kernel_rfl) (by kernel_rfl) (fun v c a w h=>h) ?_
        (first | (refine⟨undef,Or.inr ⟨by rfl,rfl⟩,?_⟩) | (apply Exists.intro;refine⟨Or.inl ⟨by rfl,?_⟩,?_⟩;(intro x hx';go_simp;first | done | with_reducible rfl)))
        (try simp only[Act.put,List.getElem_toArray,List.getElem_cons_zero,List.getElem_cons_succ,List.setIfInBounds_toArray,List.set_cons_zero,List.set_cons_succ])
        refine Z0 1 rfl (by kernel_rfl) (by kernel_rfl) (by kernel_rfl) (fun v c a w h=>h) ?_
        (first | (refine⟨undef,Or.inr ⟨by rfl,rfl⟩,?_⟩) | (apply Exists.intro;refine⟨Or.inl ⟨by rfl,?_⟩,?_⟩;(intro x hx';go_simp;first | done | with_reducible rfl)))
        (try simp only[Act.put,List.getElem_toArray,List.getElem_cons_zero,List.getElem_cons_succ,List.setIfInBounds_toArray,List.set_cons_zero,List.set_cons_succ])
        refine Z0 2 rfl (by kernel_rfl) (by kernel_rfl) (by kernel_rfl) (fun v c a w h=>h) ?_
        (first | (refine⟨undef,Or.inr ⟨by rfl,rfl⟩,?_⟩) | (apply Exists.intro;refine⟨Or.inl ⟨by rfl,?_⟩,?_⟩;(intro x hx';go_simp;first | done | with_reducible rfl)))
        (try simp only[Act.put,List.getElem_toArray,List.getElem_cons_zero,List.getElem_cons_succ,List.setIfInBounds_toArray,List.set_cons_zero,List.set_cons_succ])
        refine Z0 3 rfl (by kernel_rfl) (by kernel_rfl) (by kernel_rfl) (fun v c a w h=>h) ?_
        (first | (refine⟨undef,Or.inr ⟨by rfl,rfl⟩,?_⟩) | (apply Exists.intro;refine⟨Or.inl ⟨by rfl,?_⟩,?_⟩;(intro x hx';go_simp;first | done | with_reducible rfl)))
        (try simp only[Act.put,List.getElem_toArray,List.getElem_cons_zero,List.getElem_cons_succ,List.setIfInBounds_toArray,List.set_cons_zero,List.set_cons_succ])
        refine Z0 4 rfl (by kernel_rfl) (by kernel_rfl) (by kernel_rfl) (fun v c a w h=>h) ?_
        (first | (refine⟨undef,Or.inr ⟨by rfl,rfl⟩,?_⟩) | (apply Exists.intro;refine⟨Or.inl ⟨by rfl,?_⟩,?_⟩;(intro x hx';go_simp;first | done | with_reducible rfl)))
        (try simp only[Act.put,List.getElem_toArray,List.getElem_cons_zero,List.getElem_cons_succ,List.setIfInBounds_toArray,List.set_cons_zero,List.set_cons_succ])
        refine Z1 5 rfl (by kernel_rfl) (by kernel_rfl) (by kernel_rfl) (by kernel_rfl) (fun v c a w h=>h) hS0 ?_
        (first | (refine⟨undef,Or.inr ⟨by rfl,rfl⟩,?_⟩) | (apply Exists.intro;refine⟨Or.inl ⟨by rfl,?_⟩,?_⟩;(intro x hx';go_simp;first | done | with_reducible rfl)))
        (try simp only[Act.put,List.getElem_toArray,List.getElem_cons_zero,List.getElem_cons_succ,List.setIfInBounds_toArray,List.set_cons_zero,List.set_cons_succ])
        refine Z0 8 rfl (by kernel_rfl) (by kernel_rfl) (by kernel_rfl) (fun v c a w h=>h) ?_
        (first | (refine⟨undef,Or.inr ⟨by rfl,rfl⟩,?_⟩) | (apply Exists.intro;refine⟨Or.inl ⟨by rfl,?_⟩,?_⟩;(intro x hx';go_simp;first | done | with_reducible rfl)))
        (try simp only[Act.put,List.getElem_toArray,List.getElem_cons_zero,List.getElem_cons_succ,List.setIfInBounds_toArray,List.set_cons_zero,List.set_cons_succ])
        refine Z0 9 rfl (by kernel_rfl) (by kernel_rfl) (by kernel_rfl) (fun v c a w h=>h) ?_
        (first | (refine⟨undef,Or.inr ⟨by rfl,rfl⟩,?_⟩) | (apply Exists.intro;refine⟨Or.inl ⟨by rfl,?_⟩,?_⟩;(intro x hx';go_simp;first | done | with_reducible rfl)))
        (try simp only[Act.put,List.getElem_toArray,List.getElem_cons_zero,List.getElem_cons_succ,List.setIfInBounds_toArray,List.set_cons_zero,List.set_cons_succ])
        refine Z0 10 rfl (by kernel_rfl) (by kernel_rfl) (by kernel_rfl) (fun v c a w h=>h) ?_
        (first | (refine⟨undef,Or.inr ⟨by rfl,rfl⟩,?_⟩) | (apply Exists.intro;refine⟨Or.inl ⟨by rfl,?_⟩,?_⟩;(intro x hx';go_simp;first | done | with_reducible rfl)))
        (try simp only[Act.put,List.getElem_toArray,List.getElem_cons_zero,List.getElem_cons_succ,List.setIfInBounds_toArray,List.set_cons_zero,List.set_cons_succ])
        refine Z0 11 rfl (by kernel_rfl) (by kernel_rfl) (by kernel_rfl) (fun v c a w h=>h) ?_
        (first | (refine⟨undef,Or.inr ⟨by rfl,rfl⟩,?_⟩) | (apply Exists.intro;refine⟨Or.inl ⟨by rfl,?_⟩,?_⟩;(intro x hx';go_simp;first | done | with_reducible rfl)))
        (try simp only[Act.put,List.getElem_toArray,List.getElem_cons_zero,List.getElem_cons_succ,List.setIfInBounds_toArray,List.set_cons_zero,List.set_cons_succ])
        refine Z0 12 rfl (by kernel_rfl) (by kernel_rfl) (by kernel_rfl) (fun v c a w h=>h) ?_
        (first | (refine⟨undef,Or.inr ⟨by rfl,rfl⟩,?_⟩) | (apply Exists.intro;refine⟨Or.inl ⟨by rfl,?_⟩,?_⟩;(intro x hx';go_simp;first | done | with_reducible rfl)))
        (try simp only[Act.put,List.getElem_toArray,List.getElem_cons_zero,List.getElem_cons_succ,List.setIfInBounds_toArray,List.set_cons_zero,List.set_cons_succ])
        refine Z1 13 rfl (by kernel_rfl) (by kernel_rfl) (by kernel_rfl) (by kernel_rfl) (fun v c a w h=>h) hS0 ?_
        (first | (refine⟨undef,Or.inr ⟨by rfl,rfl⟩,?_⟩) | (apply Exists.intro;refine⟨Or.inl ⟨by rfl,?_⟩,?_⟩;(intro x hx';go_simp;first | done | with_reducible rfl)))
        (try simp only[Act.put,List.getElem_toArray,List.getElem_cons_zero,List.getElem_cons_succ,List.setIfInBounds_toArray,List.set_cons_zero,List.set_cons_succ])
        clear t0 hN4
        refine Z10 6 14 (by kernel_rfl) rfl rfl (fun K hK=>?_) (fun K hK=>?_)
        ·rw[if_pos (by rfl)]
         (try simp only[List.getElem_toArray,List.getElem_cons_zero,List.getElem_cons_succ])
         go_simp
         have halz1:=Z4 y4 (.cells #[.int .i64 y] 3)
         have gz1:Nw y4 (y4.alloc (.cells #[.int .i64 y] 3)):=(Nw.refl _).alloc _
         obtain⟨z1,hz1⟩:∃x,y4.alloc (.cells #[.int .i64 y] 3)=x:=⟨_,rfl⟩
         obtain⟨B1,hB1⟩:∃x,y4.heap.size=x:=⟨_,rfl⟩
         rw[hz1,hB1] at halz1 ⊢
         rw[hz1] at gz1
         have HBz1:=hD0 (show z1.cell? ⟨B1,0,none⟩=some (.int .i64 y)∧B1<z1.heap.size from⟨Z2 (j:=0) halz1,Z30 halz1⟩)
         have HLz1:=hD0 (show y4.heap.size≤B1 from Nat.le_of_eq hB1)
         have Hz1:=hD0 gz1
         clear hz1 hB1 halz1 gz1
         have HF1:=hD0 (HF4.out.nwr Hz1.out)
         have HB:=hD0 HBz1.out.1
         refine hK _ _ (.inr (HCl.out z1 HF1.out.nw)) ?_
         clear hK K
         (try simp only[Act.put,List.getElem_toArray,List.getElem_cons_zero,List.getElem_cons_succ,List.setIfInBounds_toArray,List.set_cons_zero,List.set_cons_succ])
         refine Z10 7 14 (by kernel_rfl) rfl rfl (fun K hK=>?_) (fun K hK=>?_)
         ·obtain⟨ga,cc,w6,hr7,hF7,hT7⟩:=U4.push8 (HF1.out) (by have:=HLn.out.2.1;omega) y B1 HB.out
          have HR7:=hD0 hr7
          have HF7:=hD0 (aI0 hF7 hT7)
          clear hr7 hF7 hT7
          refine Yn (by rfl) (.tmp 51) (.tmp 57) 24 rfl _ _ _ _ rfl rfl HR7.out ?_
          refine hK _ _ (.inr (HCl.out w6 HF7.out.1.nw)) ?_
          clear hK K
          (try simp only[Act.put,List.getElem_toArray,List.getElem_cons_zero,List.getElem_cons_succ,List.setIfInBounds_toArray,List.set_cons_zero,List.set_cons_succ])
          refine Z3 14 (by kernel_rfl) rfl (fun K hK=>?_)
          rw[if_pos (by rfl)]
          (try simp only[List.getElem_toArray,List.getElem_cons_zero,List.getElem_cons_succ])
          go_simp
          have halz2:=Z4 w6 (.cells #[.int .i64 y] 3)
          have gz2:Nw w6 (w6.alloc (.cells #[.int .i64 y] 3)):=(Nw.refl _).alloc _
          obtain⟨z2,hz2⟩:∃x,w6.alloc (.cells #[.int .i64 y] 3)=x:=⟨_,rfl⟩
          obtain⟨B2,hB2⟩:∃x,w6.heap.size=x:=⟨_,rfl⟩
          rw[hz2,hB2] at halz2 ⊢
          rw[hz2] at gz2
          have HBz2:=hD0 (show z2.cell? ⟨B2,0,none⟩=some (.int .i64 y)∧B2<z2.heap.size from⟨Z2 (j:=0) halz2,Z30 halz2⟩)
          have HLz2:=hD0 (show w6.heap.size≤B2 from Nat.le_of_eq hB2)
          have Hz2:=hD0 gz2
          clear hz2 hB2 halz2 gz2
          have HF2:=hD0 (HF7.out.1.nwr Hz2.out)
          have HB2:=hD0 HBz2.out.1
          refine hK _ _ (.inr (HCl.out z2 HF2.out.nw)) ?_
          clear hK K
          (try simp only[Act.put,List.getElem_toArray,List.getElem_cons_zero,List.getElem_cons_succ,List.setIfInBounds_toArray,List.set_cons_zero,List.set_cons_succ])
          obtain⟨gd,cd,w8,hr15,hF15⟩:=U4.push10 (HF2.out) (by have:=HLn.out.2.2;omega) y B2 HB2.out
          have HR15:=hD0 hr15
          have HE:=hD0 (show Hid (U4 w0 now (sn++[y]) (nx++[y]) (.slice a7 b7 c7) (.slice (some ⟨ga,0,none⟩) (sn.length+1) cc) (.slice (some ⟨gd,0,none⟩) (nx.length+1) cd) w8∧LvJ l a b n now seen (sn++[y]) (nx++[y]) i1∧(sn++[y]).length=sn.length+1∧(nx++[y]).length=nx.length+1) from hD0 ⟨hF15,HPs.out,by rw[List.length_append];rfl,by rw[List.length_append];rfl⟩)
          have hS15:=HCl.out w8 hF15.nw
          have HS15:=hD0 hS15
          clear hr15 hF15 hS15
          refine Z3 15 (by kernel_rfl) rfl (fun K hK=>?_)
          refine Yn (by rfl) (.tmp 59) (.tmp 65) 24 rfl _ _ _ _ rfl rfl HR15.out ?_
          refine hK _ _ (.inr (HS15.out)) ?_
          clear hK K
          (try simp only[Act.put,List.getElem_toArray,List.getElem_cons_zero,List.getElem_cons_succ,List.setIfInBounds_toArray,List.set_cons_zero,List.set_cons_succ])
          refine Z0 16 rfl (by kernel_rfl) (by kernel_rfl) (by kernel_rfl) (fun v c a w h=>h) ?_
          (first | (refine⟨undef,Or.inr ⟨by rfl,rfl⟩,?_⟩) | (apply Exists.intro;refine⟨Or.inl ⟨by rfl,?_⟩,?_⟩;(intro x hx';go_simp;first | done | with_reducible rfl)))
          (try simp only[Act.put,List.getElem_toArray,List.getElem_cons_zero,List.getElem_cons_succ,List.setIfInBounds_toArray,List.set_cons_zero,List.set_cons_succ])
          refine Z0 17 rfl (by kernel_rfl) (by kernel_rfl) (by kernel_rfl) (fun v c a w h=>h) ?_
          (first | (refine⟨undef,Or.inr ⟨by rfl,rfl⟩,?_⟩) | (apply Exists.intro;refine⟨Or.inl ⟨by rfl,?_⟩,?_⟩;(intro x hx';go_simp;first | done | with_reducible rfl)))
          (try simp only[Act.put,List.getElem_toArray,List.getElem_cons_zero,List.getElem_cons_succ,List.setIfInBounds_toArray,List.set_cons_zero,List.set_cons_succ])
          refine Z5 (by kernel_rfl) ?_ _
          refine NoPanic.normal ?_
          (try simp only[Act.put,List.getElem_toArray,List.getElem_cons_zero,List.getElem_cons_succ,List.setIfInBounds_toArray,List.set_cons_zero,List.set_cons_succ])
          clear hS0
          go_wp2_with fail
          exact⟨⟨i1,sn++[y],nx++[y],_,_,_,_,_,_,rfl,rfl,rfl,by rw[←HI1.out.1];exact HI1.out.2,HE.out⟩,by rw[←HI1.out.1];exact Zh HI1.out.2⟩
         ·rw[if_pos (by rfl)]
          (try simp only[List.getElem_toArray,List.getElem_cons_zero,List.getElem_cons_succ])
          go_simp
          have halz2:=Z4 z1 (.cells #[.int .i64 y] 3)
          have gz2:Nw z1 (z1.alloc (.cells #[.int .i64 y] 3)):=(Nw.refl _).alloc _
          obtain⟨z2,hz2⟩:∃x,z1.alloc (.cells #[.int .i64 y] 3)=x:=⟨_,rfl⟩
          obtain⟨B2,hB2⟩:∃x,z1.heap.size=x:=⟨_,rfl⟩
          rw[hz2,hB2] at halz2 ⊢
          rw[hz2] at gz2
          have HBz2:=hD0 (show z2.cell? ⟨B2,0,none⟩=some (.int .i64 y)∧B2<z2.heap.size from⟨Z2 (j:=0) halz2,Z30 halz2⟩)
          have HLz2:=hD0 (show z1.heap.size≤B2 from Nat.le_of_eq hB2)
          have Hz2:=hD0 gz2
          clear hz2 hB2 halz2 gz2
          have HF2:=hD0 (HF1.out.nwr Hz2.out)
          have HB:=hD0 (Hz2.out.kp HBz1.out.1)
          refine hK _ _ (.inr (HCl.out z2 HF2.out.nw)) ?_
          clear hK K
          (try simp only[Act.put,List.getElem_toArray,List.getElem_cons_zero,List.getElem_cons_succ,List.setIfInBounds_toArray,List.set_cons_zero,List.set_cons_succ])
          obtain⟨ga,cc,w6,hr7,hF7,hT7⟩:=U4.push8 (HF2.out) (by have:=HLn.out.2.1;omega) y B1 HB.out
          have HR7:=hD0 hr7
          have HF7:=hD0 (aI0 hF7 hT7)
          clear hr7 hF7 hT7
          have HB2:=hD0 (show w6.cell? ⟨B2,0,none⟩=some (.int .i64 y) from(HF7.out.2.cell HBz2.out.2 (fun e=>by have h1:=Ut HF1.out.o8 e;have h2:=HLz2.out;omega) (o:=0)).trans HBz2.out.1)
          refine Z3 7 (by kernel_rfl) rfl (fun K hK=>?_)
          refine Yn (by rfl) (.tmp 51) (.tmp 57) 24 rfl _ _ _ _ rfl rfl HR7.out ?_
          refine hK _ _ (.inr (HCl.out w6 HF7.out.1.nw)) ?_
          clear hK K
          (try simp only[Act.put,List.getElem_toArray,List.getElem_cons_zero,List.getElem_cons_succ,List.setIfInBounds_toArray,List.set_cons_zero,List.set_cons_succ])
          obtain⟨gd,cd,w8,hr15,hF15⟩:=U4.push10 (HF7.out.1) (by have:=HLn.out.2.2;omega) y B2 HB2.out
          have HR15:=hD0 hr15
          have HE:=hD0 (show Hid (U4 w0 now (sn++[y]) (nx++[y]) (.slice a7 b7 c7) (.slice (some ⟨ga,0,none⟩) (sn.length+1) cc) (.slice (some ⟨gd,0,none⟩) (nx.length+1) cd) w8∧LvJ l a b n now seen (sn++[y]) (nx++[y]) i1∧(sn++[y]).length=sn.length+1∧(nx++[y]).length=nx.length+1) from hD0 ⟨hF15,HPs.out,by rw[List.length_append];rfl,by rw[List.length_append];rfl⟩)
          have hS15:=HCl.out w8 hF15.nw
          have HS15:=hD0 hS15
          clear hr15 hF15 hS15
          refine Z3 15 (by kernel_rfl) rfl (fun K hK=>?_)
          refine Yn (by rfl) (.tmp 59) (.tmp 65) 24 rfl _ _ _ _ rfl rfl HR15.out ?_
          refine hK _ _ (.inr (HS15.out)) ?_
          clear hK K
          (try simp only[Act.put,List.getElem_toArray,List.getElem_cons_zero,List.getElem_cons_succ,List.setIfInBounds_toArray,List.set_cons_zero,List.set_cons_succ])
          refine Z0 16 rfl (by kernel_rfl) (by kernel_rfl) (by kernel_rfl) (fun v c a w h=>h) ?_
          (first | (refine⟨undef,Or.inr ⟨by rfl,rfl⟩,?_⟩) | (apply Exists.intro;refine⟨Or.inl ⟨by rfl,?_⟩,?_⟩;(intro x hx';go_simp;first | done | with_reducible rfl)))
          (try simp only[Act.put,List.getElem_toArray,List.getElem_cons_zero,List.getElem_cons_succ,List.setIfInBounds_toArray,List.set_cons_zero,List.set_cons_succ])
          refine Z0 17 rfl (by kernel_rfl) (by kernel_rfl) (by kernel_rfl) (fun v c a w h=>h) ?_
          (first | (refine⟨undef,Or.inr ⟨by rfl,rfl⟩,?_⟩) | (apply Exists.intro;refine⟨Or.inl ⟨by rfl,?_⟩,?_⟩;(intro x hx';go_simp;first | done | with_reducible rfl)))
          (try simp only[Act.put,List.getElem_toArray,List.getElem_cons_zero,List.getElem_cons_succ,List.setIfInBounds_toArray,List.set_cons_zero,List.set_cons_succ])
          refine Z5 (by kernel_rfl) ?_ _
          refine NoPanic.normal ?_
          (try simp only[Act.put,List.getElem_toArray,List.getElem_cons_zero,List.getElem_cons_succ,List.setIfInBounds_toArray,List.set_cons_zero,List.set_cons_succ])
          clear hS0
          go_wp2_with fail
          exact⟨⟨i1,sn++[y],nx++[y],_,_,_,_,_,_,rfl,rfl,rfl,by rw[←HI1.out.1];exact HI1.out.2,HE.out⟩,by rw[←HI1.out.1];exact Zh HI1.out.2⟩
        ·rw[if_pos (by rfl)]
         (try simp only[List.getElem_toArray,List.getElem_cons_zero,List.getElem_cons_succ])
         go_simp
         have halz1:=Z4 y4 (.cells #[.int .i64 y] 3)
         have gz1:Nw y4 (y4.alloc (.cells #[.int .i64 y] 3)):=(Nw.refl _).alloc _
         obtain⟨z1,hz1⟩:∃x,y4.alloc (.cells #[.int .i64 y] 3)=x:=⟨_,rfl⟩
         obtain⟨B1,hB1⟩:∃x,y4.heap.size=x:=⟨_,rfl⟩
         rw[hz1,hB1] at halz1 ⊢
         rw[hz1] at gz1
         have HBz1:=hD0 (show z1.cell? ⟨B1,0,none⟩=some (.int .i64 y)∧B1<z1.heap.size from⟨Z2 (j:=0) halz1,Z30 halz1⟩)
         have HLz1:=hD0 (show y4.heap.size≤B1 from Nat.le_of_eq hB1)
         have Hz1:=hD0 gz1
         clear hz1 hB1 halz1 gz1
         have HF1:=hD0 (HF4.out.nwr Hz1.out)
         refine hK _ _ (.inr (HCl.out z1 HF1.out.nw)) ?_
         clear hK K
         (try simp only[Act.put,List.getElem_toArray,List.getElem_cons_zero,List.getElem_cons_succ,List.setIfInBounds_toArray,List.set_cons_zero,List.set_cons_succ])
         refine Z3 6 (by kernel_rfl) rfl (fun K hK=>?_)
         rw[if_pos (by rfl)]
         (try simp only[List.getElem_toArray,List.getElem_cons_zero,List.getElem_cons_succ])
         go_simp
         have halz2:=Z4 z1 (.cells #[.int .i64 y] 3)
         have gz2:Nw z1 (z1.alloc (.cells #[.int .i64 y] 3)):=(Nw.refl _).alloc _
         obtain⟨z2,hz2⟩:∃x,z1.alloc (.cells #[.int .i64 y] 3)=x:=⟨_,rfl⟩
         obtain⟨B2,hB2⟩:∃x,z1.heap.size=x:=⟨_,rfl⟩
         rw[hz2,hB2] at halz2 ⊢
         rw[hz2] at gz2
         have HBz2:=hD0 (show z2.cell? ⟨B2,0,none⟩=some (.int .i64 y)∧B2<z2.heap.size from⟨Z2 (j:=0) halz2,Z30 halz2⟩)
         have HLz2:=hD0 (show z1.heap.size≤B2 from Nat.le_of_eq hB2)
         have Hz2:=hD0 gz2
         clear hz2 hB2 halz2 gz2
         have HF2:=hD0 (HF1.out.nwr Hz2.out)
         have HB:=hD0 HBz2.out.1
         refine hK _ _ (.inr (HCl.out z2 HF2.out.nw)) ?_
         clear hK K
         (try simp only[Act.put,List.getElem_toArray,List.getElem_cons_zero,List.getElem_cons_succ,List.setIfInBounds_toArray,List.set_cons_zero,List.set_cons_succ])
         obtain⟨ga,cc,w6,hr7,hF7,hT7⟩:=U4.push8 (HF2.out) (by have:=HLn.out.2.1;omega) y B2 HB.out
         have HR7:=hD0 hr7
         have HF7:=hD0 (aI0 hF7 hT7)
         clear hr7 hF7 hT7
         have HB2:=hD0 (show w6.cell? ⟨B1,0,none⟩=some (.int .i64 y) from(HF7.out.2.cell (lL0 HBz1.out.2 Hz2.out.sz) (fun e=>by have h1:=Ut HF4.out.o8 e;have h2:=HLz1.out;omega) (o:=0)).trans (Hz2.out.kp HBz1.out.1))
         refine Z3 7 (by kernel_rfl) rfl (fun K hK=>?_)
         refine Yn (by rfl) (.tmp 51) (.tmp 57) 24 rfl _ _ _ _ rfl rfl HR7.out ?_
         refine hK _ _ (.inr (HCl.out w6 HF7.out.1.nw)) ?_
         clear hK K
         (try simp only[Act.put,List.getElem_toArray,List.getElem_cons_zero,List.getElem_cons_succ,List.setIfInBounds_toArray,List.set_cons_zero,List.set_cons_succ])
         obtain⟨gd,cd,w8,hr15,hF15⟩:=U4.push10 (HF7.out.1) (by have:=HLn.out.2.2;omega) y B1 HB2.out
         have HR15:=hD0 hr15
         have HE:=hD0 (show Hid (U4 w0 now (sn++[y]) (nx++[y]) (.slice a7 b7 c7) (.slice (some ⟨ga,0,none⟩) (sn.length+1) cc) (.slice (some ⟨gd,0,none⟩) (nx.length+1) cd) w8∧LvJ l a b n now seen (sn++[y]) (nx++[y]) i1∧(sn++[y]).length=sn.length+1∧(nx++[y]).length=nx.length+1) from hD0 ⟨hF15,HPs.out,by rw[List.length_append];rfl,by rw[List.length_append];rfl⟩)
         have hS15:=HCl.out w8 hF15.nw
         have HS15:=hD0 hS15
         clear hr15 hF15 hS15
         refine Z3 15 (by kernel_rfl) rfl (fun K hK=>?_)
         refine Yn (by rfl) (.tmp 59) (.tmp 65) 24 rfl _ _ _ _ rfl rfl HR15.out ?_
         refine hK _ _ (.inr (HS15.out)) ?_
         clear hK K
         (try simp only[Act.put,List.getElem_toArray,List.getElem_cons_zero,List.getElem_cons_succ,List.setIfInBounds_toArray,List.set_cons_zero,List.set_cons_succ])
         refine Z0 16 rfl (by kernel_rfl) (by kernel_rfl) (by kernel_rfl) (fun v c a w h=>h) ?_
         (first | (refine⟨undef,Or.inr ⟨by rfl,rfl⟩,?_⟩) | (apply Exists.intro;refine⟨Or.inl ⟨by rfl,?_⟩,?_⟩;(intro x hx';go_simp;first | done | with_reducible rfl)))
         (try simp only[Act.put,List.getElem_toArray,List.getElem_cons_zero,List.getElem_cons_succ,List.setIfInBounds_toArray,List.set_cons_zero,List.set_cons_succ])
         refine Z0 17 rfl (by kernel_rfl) (by kernel_rfl) (by kernel_rfl) (fun v c a w h=>h) ?_
         (first | (refine⟨undef,Or.inr ⟨by rfl,rfl⟩,?_⟩) | (apply Exists.intro;refine⟨Or.inl ⟨by rfl,?_⟩,?_⟩;(intro x hx';go_simp;first | done | with_reducible rfl)))
         (try simp only[Act.put,List.getElem_toArray,List.getElem_cons_zero,List.getElem_cons_succ,List.setIfInBounds_toArray,List.set_cons_zero,List.set_cons_succ])
         refine Z5 (by kernel_rfl) ?_ _
         refine NoPanic.normal ?_
         (try simp only[Act.put,List.getElem_toArray,List.getElem_cons_zero,List.getElem_cons_succ,List.setIfInBounds_toArray,List.set_cons_zero,List.set_cons_succ])
         clear hS0
         go_wp2_with fail
         exact⟨⟨i1,sn++[y],nx++[y],_,_,_,_,_,_,rfl,rfl,rfl,by rw[←HI1.out.1];exact HI1.out.2,HE.out⟩,by rw[←HI1.out.1];exact Zh HI1.out.2⟩
    ·obtain rfl:i=N:=Nat.le_antisymm hiN (Nat.le_of_not_lt hlt)
     have Zr:¬i<i:=Nat.lt_irrefl i
     have hsl:sn.length≤i:=by rw[←HN.out];exact HJ.out.2.1.len
     have hsa:b8'=b8+b10:=by
      rw[←HJ.out.2.2.1,←HJ.out.2.2.2,←HT.out.2.2.1,HJ.out.2.1.sn,List.length_append]
     have HM:=hD0 (show 2*(i-b8')+Z5i b10<2*(i-b8)+Z5i b7 from by
      rw[hsa]
      exact Z73 HT.out.2.2.2.2 (by rw[←hsa,←HJ.out.2.2.1];exact hsl))
     have HR:=hD0 (show n2≤i+2∧U4 w0 nx sn [] (.slice a10 b10 c10) (.slice a8' b8' c8') (.slice none 0 0) wr∧LvI l a b (n+1) nx sn∧n2=n+1+1∧nx.length=b10∧sn.length=b8'∧n+1≤sn.length+1∧(0<b10→n+1≤sn.length)∧nx.length≤i+1 from by
      have h1:=HT.out.1
      have h2:=HN2.out
      have h3:=HT.out.2.1
      have h4:=HJ.out.2.2
      have h5:=HT.out.2.2.1
      refine⟨by omega,HJ.out.1.turn,?_,by omega,h4.2,h4.1,by omega,fun _=>by omega,by omega⟩
      have:=HJ.out.2.1
      rw[←HN.out] at this
      exact this.next)
     clear hlt HJ hsl hsa
     go_wp2_with fail
     exact⟨⟨n+1,n2,nx,sn,_,_,_,_,_,_,rfl,rfl,rfl,HR.out.1,hD0 HR.out.2⟩,HM.out⟩
end Go.Proofs.YtbnpnccpobkodaaGreat
