/- Texts merged: Ints, PhA, PhE -/
import Derived.Test.YtfepoibfbmehiaaGreatDoorTableNamesB2
import Derived.Shelf.Abstract
import Derived.StillTailTactics
set_option linter.unusedVariables false
set_option maxRecDepth 100000
set_option maxHeartbeats 16000000
namespace Go.Proofs.YtfepoibfbmehiaaGreatDoor
open Go.RowKit _root_.Go.Proofs.Tryz
abbrev IS(w:World)(v:Value)(l:List Int):Prop:=w.ownsRow 0 3 1 v l.length (l.map (Value.int .i64))
theorem IS.form{w:World}{v:Value}{l:List Int}(h:IS w v l):(v=.slice none 0 0∧l=[])∨∃g cap,v=.slice (some ⟨g,0,none⟩) l.length cap:=by
 rcases h.2 with⟨rfl,h0⟩ | ⟨g,cap,cur,rfl,_⟩
 ·exact .inl ⟨rfl,List.length_eq_zero_iff.1 h0⟩
 ·exact .inr ⟨g,cap,rfl⟩
theorem IS.tch{S:Nat→Prop}{w w':World}{v:Value}{l:List Int}(h:IS w v l)(k:Z3 S w w')(hn:∀g,v.ownBlock=some g→¬S g):IS w' v l:=by
 refine⟨h.1,?_⟩
 rcases h.2 with h0 | ⟨g,cap,cur,rfl,hb,hg,rest⟩
 ·exact .inl h0
 ·exact .inr ⟨g,cap,cur,rfl,hb,(k.block g (Array.getElem?_eq_some_iff.1 hg).1 (hn g rfl)).trans hg,rest⟩
theorem IS.nw{w w':World}{v:Value}{l:List Int}(h:IS w v l)(k:Nw w w'):IS w' v l:=h.tch (Z3.nw (S:=fun _=>False) k) (fun _ _ e=>e)
theorem IS.nil(w:World):IS w (.slice none 0 0) []:=World.ownsRow_nil _ _ _ _
theorem IS.nlen{w:World}{g cap n:Nat}{l:List Int}(h:IS w (.slice (some ⟨g,0,none⟩) n cap) l):n=l.length:=by
 rcases h.2 with⟨h',_⟩ | ⟨g',cap',cur,h',_⟩
 ·simp at h'
 ·simp only[Value.slice.injEq] at h'
  exact h'.2.1
theorem IS.cell{w:World}{g cap n:Nat}{l:List Int}(h:IS w (.slice (some ⟨g,0,none⟩) n cap) l)(i:Nat)(hi:i<l.length):w.cell? ⟨g,i,none⟩=some (.int .i64 (l.getD i 0)):=by
 have e:=h.nlen
 subst e
 exact(World.ownsRow.cellAt h i (by omega)).trans (by simp[List.getD,hi])
theorem IS.frozen{w:World}{g cap n:Nat}{l:List Int}(h:IS w (.slice (some ⟨g,0,none⟩) n cap) l)(j:Nat):w.frozen? ⟨g,j,none⟩=false:=by
 have e:=h.nlen
 subst e
 exact World.ownsRow.frozenAt h j
theorem IS.lt{w:World}{v:Value}{l:List Int}(h:IS w v l){k:Nat}(hk:v.ownBlock=some k):k<w.heap.size:=(World.ownsRow.lt h k hk).2
theorem IS.glt{w:World}{g cap n:Nat}{l:List Int}(h:IS w (.slice (some ⟨g,0,none⟩) n cap) l):g<w.heap.size:=h.lt rfl
theorem IS.len{w:World}{v:Value}{l:List Int}(h:IS w v l):l.length≤maxLen:=by
 rcases h.2 with⟨rfl,h0⟩ | ⟨g',cap',cur,h',_,_,h1,h2,_⟩
 ·rw[h0];exact Nat.zero_le _
 ·exact Nat.le_trans h1 h2
theorem IS.set{w:World}{g cap n:Nat}{l:List Int}(h:IS w (.slice (some ⟨g,0,none⟩) n cap) l)(i:Nat)(x:Int):IS (w.setCell ⟨g,i,none⟩ (.int .i64 x)) (.slice (some ⟨g,0,none⟩) n cap) (l.set i x):=by
 have e:=h.nlen
 subst e
 have h1:=(World.ownsRow.stored h i (.int .i64 x)).1
 unfold IS
 rw[List.length_set,List.map_set]
 exact h1
theorem IS.box{w:World}{v:Value}{l:List Int}(h:IS w v l):∃ao cap,v=.slice ao l.length cap∧(0<l.length→∃g,ao=some ⟨g,0,none⟩∧v.ownBlock=some g):=by
 rcases h.form with⟨rfl,rfl⟩ | ⟨g,cap,rfl⟩
 ·exact⟨none,0,rfl,fun h=>by simp at h⟩
 ·exact⟨_,cap,rfl,fun _=>⟨g,rfl,rfl⟩⟩
theorem Znb:(prog.info? 3).map (fun i=>(i.zero,i.size,i.bytes))=some (some (.int .i64 0),1,8):=by kernel_rfl
theorem IS.push(w:World)(v:Value)(l:List Int)(x:Int)(h:IS w v l)(hsm:l.length≤100000) :
  ∃v' w1,(Builtin.append_ #[38,38] 38 #[v,.slice (some ⟨w.heap.size,0,none⟩) 1 1]).run prog (w.alloc (.cells #[.int .i64 x] 3))=.ok v' w1∧IS w1 v' (l++[x])∧Z3 (fun k=>v.ownBlock=some k) w w1 ∧
   (∀k,v'.ownBlock=some k→v.ownBlock=some k∨w.heap.size≤k)∧(∃g cap,v'=.slice (some ⟨g,0,none⟩) (l.length+1) cap):=by
 obtain⟨i0,hi,hz0,hz1,hz2⟩:=info_parts Znb
 have ha:IS (w.alloc (.cells #[.int .i64 x] 3)) v l:=h.nw ((Nw.refl w).alloc _)
 have hc:(w.alloc (.cells #[.int .i64 x] 3)).cell? ⟨w.heap.size,0,none⟩=some (.int .i64 x):=by simp[go_sem]
 obtain⟨v',w1,hrun,ho,hg,hp⟩:=Vc (P:=prog) (w.alloc (.cells #[.int .i64 x] 3)) 0 38 38 3 i0 _ 1 8 underlying38 hi hz0 hz1 hz2 rfl (by decide) v l.length _ ha
  ⟨w.heap.size,0,none⟩ 1 1 [.int .i64 x] rfl (by
   intro j u hu
   match j,hu with
   | 0,hu=>simp at hu;subst hu;exact hc) (by simp[Value.oneCell']) (by unfold maxLen;omega) (by omega) (Nat.zero_le _)
 have hI:IS w1 v' (l++[x]):=by
  unfold IS
  rw[List.length_append,List.map_append]
  exact ho
 refine⟨v',w1,hrun,hI,(Z3.alloc (Z3.refl _ w) _).grown hg (fun k e=>.inl e),fun k e=>?_,?_⟩
 ·rcases hp with hp | hp
  ·exact .inl (hp▸e)
  ·rw[hp] at e
   simp at e
   exact .inr (by omega)
 ·rcases hI.form with⟨_,q⟩ | ⟨g,cap,rfl⟩
  ·simp at q
  ·exact⟨g,cap,by simp⟩
theorem Zf0(g cap g' cap':Nat)(l:List Int)(w:World)(h:IS w (.slice (some ⟨g,0,none⟩) l.length cap) l)(h':IS w (.slice (some ⟨g',0,none⟩) l.length cap') l) :
  Calls prog 17 #[.slice (some ⟨g,0,none⟩) l.length cap,.slice (some ⟨g',0,none⟩) l.length cap'] w fun e w'=>e=.returned (.bool true)∧Nw w w':=by
 have hm:=h.len
 unfold maxLen at hm
 have H:=hD0 (aI0 h h')
 clear h h'
 go_enter func17,ntmps17
 go_wp2
 go_loopw [5] (fun i wr=>∃k:Nat,k≤l.length∧i=.int .i64 k∧Nw w wr) (fun i _=>l.length-(intOf i).toNat)
 case atStart=>exact⟨0,Nat.zero_le _,rfl,Nw.refl _⟩
 case round =>
  obtain⟨k,hk,rfl,hG⟩:=hrel
  by_cases Z1:k<l.length
  ·have c0:=(H.out.1.nw hG).cell k Z1
   have d0:=(H.out.2.nw hG).cell k Z1
   generalize l.getD k 0=x at *
   go_wp2_with fail
   go_quiet (fail)
   go_wp2
   go_roundw
   case rel=>exact⟨k+1,by omega,by go_num,hG.drewN _⟩
   case measure=>simp[intOf];omega
  ·go_wp2
   go_ret
   exact⟨rfl,hG⟩
theorem Z5h(w:World)(v v':Value)(h:(v=.slice none 0 0)∨∃g cap,v=.slice (some ⟨g,0,none⟩) 0 cap)(h':(v'=.slice none 0 0)∨∃g cap,v'=.slice (some ⟨g,0,none⟩) 0 cap) :
  Calls prog 17 #[v,v'] w fun e w'=>e=.returned (.bool true)∧Nw w w':=by
 rcases h with rfl | ⟨g,cap,rfl⟩<;>rcases h' with rfl | ⟨g',cap',rfl⟩
 all_goals
  go_enter func17,ntmps17
  go_wp2
  refine wp_loop_rounds 1 ?_
  repeat (rw[rounds_succ];go_wp2)
  go_ret
  exact⟨rfl,Nw.refl _⟩
theorem Ziw(w:World)(v v':Value)(l:List Int)(h:IS w v l)(h':IS w v' l) :
  Calls prog 17 #[v,v'] w fun e w'=>e=.returned (.bool true)∧Nw w w':=by
 rcases h.form with⟨rfl,rfl⟩ | ⟨g,cap,rfl⟩
 ·rcases h'.form with⟨rfl,_⟩ | ⟨g',cap',rfl⟩
  ·exact Z5h w _ _ (.inl rfl) (.inl rfl)
  ·exact Z5h w _ _ (.inl rfl) (.inr ⟨_,_,rfl⟩)
 ·rcases h'.form with⟨rfl,rfl⟩ | ⟨g',cap',rfl⟩
  ·exact Z5h w _ _ (.inr ⟨_,_,rfl⟩) (.inl rfl)
  ·exact Zf0 g cap g' cap' l w h h'
open Go.Shelf
abbrev Yz(w:World)(g cap:Nat)(l:List Int):Prop:=IS w (.slice (some ⟨g,0,none⟩) l.length cap) l
theorem Z2g{w:World}{g cap:Nat}{l:List Int}(h:Yz w g cap l)(i:Nat)(hi:i<l.length):w.cell? ⟨g,i,none⟩=some (.int .i64 (Y2 l i)):=IS.cell h i hi
theorem V1{w:World}{g cap:Nat}{l:List Int}(h:Yz w g cap l):l.length≤cap∧cap≤maxLen:=by
 rcases h.2 with⟨h',_⟩ | ⟨g',cap',cur,h',_,_,h1,h2,_⟩
 ·simp at h'
 ·simp only[Value.slice.injEq] at h'
  obtain⟨_,_,rfl⟩:=h'
  exact⟨h1,h2⟩
theorem Z35{w w':World}{g cap:Nat}{l:List Int}(h:Yz w g cap l)(e:w'.heap[g]?=w.heap[g]?):Yz w' g cap l:=by
 refine⟨h.1,?_⟩
 rcases h.2 with⟨h',_⟩ | ⟨g',cap',cur,h',hb,hg,rest⟩
 ·simp at h'
 ·have h2:=h'
  simp only[Value.slice.injEq,Option.some.injEq,Addr.mk.injEq,and_true,true_and] at h2
  obtain⟨rfl,rfl⟩:=h2
  exact .inr ⟨g,cap,cur,h',hb,e.trans hg,rest⟩
theorem Znc{w:World}{g cap:Nat}{l:List Int}(h:Yz w g cap l)(i:Nat)(x:Int):Yz (w.setCell ⟨g,i,none⟩ (.int .i64 x)) g cap (l.set i x):=by
 have:=IS.set h i x
 unfold Yz
 rw[List.length_set]
 exact this
theorem Zqm{S:Nat→Prop}{w w':World}{g cap:Nat}{l:List Int}(h:Yz w g cap l)(k:Z3 S w w')(hn:¬S g):Yz w' g cap l:=Z35 h (k.block g (IS.glt h) hn)
theorem Uu(a:Option Addr)(n c:Nat)(w:World):Calls prog 65 #[.slice a n c] w fun e w'=>e=.returned (.int .i64 n)∧w=w':=by
 go_enter func65,ntmps65
 go_wp2
 go_ret
 exact⟨rfl,rfl⟩
theorem Uv(g cap:Nat)(l:List Int)(i j:Nat)(hi:i<l.length)(hj:j<l.length)(w:World)(h:Yz w g cap l) :
  Calls prog 202 #[.slice (some ⟨g,0,none⟩) l.length cap,.int .i64 i,.int .i64 j] w fun e w'=>e=.returned (.bool (Z1f (Y2 l i) (Y2 l j)))∧Nw w w':=by
 have hm:=Nat.le_trans (V1 h).1 (V1 h).2
 unfold maxLen at hm
 have a0:=Z2g h i hi
 have b0:=Z2g h j hj
 generalize l.length=N at *
 unfold Z1f
 generalize Y2 l i=A at *
 generalize Y2 l j=B at *
 clear h
 go_enter func202,ntmps202
 go_wp2
 go_quiet (fail)
 go_wp2
 go_ret
 exact⟨rfl,(Nw.refl w).drewN _⟩
theorem Zqn(w:World)(g a b:Nat)(va vb:Value):Z3 (fun k=>k=g) w ((w.setCell ⟨g,a,none⟩ va).setCell ⟨g,b,none⟩ vb).drew :=
 Z3.drew (Z3.set (p:=⟨g,b,none⟩) (Z3.set (p:=⟨g,a,none⟩) (Z3.refl (fun k=>k=g) w) (.inl rfl) va) (.inl rfl) vb)
theorem Z01(g cap:Nat)(l:List Int)(i j:Nat)(hi:i<l.length)(hj:j<l.length)(w:World)(h:Yz w g cap l) :
  Calls prog 204 #[.slice (some ⟨g,0,none⟩) l.length cap,.int .i64 i,.int .i64 j] w fun e w'=>e=.returned (.tuple #[])∧Yz w' g cap (Z1e l i j)∧Z3 (fun k=>k=g) w w':=by
 have hm:=Nat.le_trans (V1 h).1 (V1 h).2
 unfold maxLen at hm
 have a0:=Z2g h i hi
 have b0:=Z2g h j hj
 have hg:=IS.glt h
 have fz:=IS.frozen h
 have HR:Hid (Yz ((w.setCell ⟨g,i,none⟩ (.int .i64 (Y2 l j))).setCell ⟨g,j,none⟩ (.int .i64 (Y2 l i))) g cap (Z1e l i j)):=Znc (Znc h i (Y2 l j)) j (Y2 l i)
 generalize l.length=N at *
 generalize Y2 l i=A at *
 generalize Y2 l j=B at *
 clear h
 by_cases e:i=j
 ·subst e
  obtain rfl:A=B:=by rw[a0] at b0;simpa using b0
  go_enter func204,ntmps204
  go_wp2
  go_region
  go_wp2
  go_end0
  exact⟨rfl,Z35 HR.out rfl,Zqn _ _ _ _ _ _⟩
 ·have e':¬j=i:=fun q=>e q.symm
  go_enter func204,ntmps204
  go_wp2
  go_region
  go_wp2
  go_end0
  exact⟨rfl,Z35 HR.out rfl,Zqn _ _ _ _ _ _⟩
theorem Zlf : ((prog.info? 94).map fun i => ((i.methods.find? (·.name == "Len")).map fun m => (m.path, m.func))) = some (some (#[⟨90, 0, true⟩], some (65, false))) := by kernel_rfl
theorem Zho : ((prog.info? 94).map fun i => ((i.methods.find? (·.name == "Less")).map fun m => (m.path, m.func))) = some (some (#[⟨90, 0, true⟩], some (202, false))) := by kernel_rfl
theorem Zhq : ((prog.info? 94).map fun i => ((i.methods.find? (·.name == "Swap")).map fun m => (m.path, m.func))) = some (some (#[⟨90, 0, true⟩], some (204, false))) := by kernel_rfl
theorem Zhp : ((prog.info? 94).map fun i => ((i.methods.find? (·.name == "Push")).map fun m => (m.path, m.func))) = some (some (#[], some (206, true))) := by kernel_rfl
theorem Zlg : ((prog.info? 94).map fun i => ((i.methods.find? (·.name == "Pop")).map fun m => (m.path, m.func))) = some (some (#[], some (205, true))) := by kernel_rfl
theorem Z32(name:String)(f:Nat)(h:((prog.info? 94).map fun i=>((i.methods.find? (·.name==name)).map fun m=>(m.path,m.func)))=some (some (#[⟨90,0,true⟩],some (f,false))))
  (w:World) (b o:Nat) (v:Value) (hc:w.cell? ⟨b,o,none⟩=some v) (n:Nat):Sem.run prog (method (n+1) 94 (.pointer (some ⟨b,o,none⟩)) name) w=.ok (f,v) w:=by
 obtain⟨i,hi,h⟩:=Option.map_eq_some_iff.1 h
 obtain⟨m,hm,h⟩:=Option.map_eq_some_iff.1 h
 simp only[Prod.mk.injEq] at h
 obtain⟨hp,hf⟩:=h
 have hu:=underlying94
 have hu2:=underlying90
 have hu3:=underlying88
 simp[method,typeInfo,hi,hm,hp,hf,follow,receiverAt,Place.get,fieldPlace,go_sem,hc]
theorem Z6i(name:String)(f:Nat)(h:((prog.info? 94).map fun i=>((i.methods.find? (·.name==name)).map fun m=>(m.path,m.func)))=some (some (#[],some (f,true))))
  (w:World) (v:Value) (n:Nat):Sem.run prog (method (n+1) 94 v name) w=.ok (f,v) w:=by
 obtain⟨i,hi,h⟩:=Option.map_eq_some_iff.1 h
 obtain⟨m,hm,h⟩:=Option.map_eq_some_iff.1 h
 simp only[Prod.mk.injEq] at h
 obtain⟨hp,hf⟩:=h
 have hu:=underlying94
 simp[method,typeInfo,hi,hm,hp,hf,follow,receiverAt,Place.get,go_sem]
theorem Zhn (w : World) (b o : Nat) (v : Value) (hc : w.cell? ⟨b, o, none⟩ = some v) : ∀ n, Sem.run prog (method (n + 1) 94 (.pointer (some ⟨b, o, none⟩)) "Len") w = .ok (65, v) w := Z32 _ _ Zlf w b o v hc
theorem Z2e (w : World) (b o : Nat) (v : Value) (hc : w.cell? ⟨b, o, none⟩ = some v) : ∀ n, Sem.run prog (method (n + 1) 94 (.pointer (some ⟨b, o, none⟩)) "Less") w = .ok (202, v) w := Z32 _ _ Zho w b o v hc
theorem Z2f (w : World) (b o : Nat) (v : Value) (hc : w.cell? ⟨b, o, none⟩ = some v) : ∀ n, Sem.run prog (method (n + 1) 94 (.pointer (some ⟨b, o, none⟩)) "Swap") w = .ok (204, v) w := Z32 _ _ Zhq w b o v hc
theorem Zle (w : World) (v : Value) : ∀ n, Sem.run prog (method (n + 1) 94 v "Push") w = .ok (206, v) w := Z6i _ _ Zhp w v
theorem Zor (w : World) (v : Value) : ∀ n, Sem.run prog (method (n + 1) 94 v "Pop") w = .ok (205, v) w := Z6i _ _ Zlg w v
theorem Zhl:∀args w,(callFunc 65 args).run prog w=.ok (.enter 65 args) w:=enters_of func65 (by kernel_rfl) rfl
theorem Zd2:∀args w,(callFunc 202 args).run prog w=.ok (.enter 202 args) w:=enters_of func202 (by kernel_rfl) rfl
theorem Z7v:∀args w,(callFunc 204 args).run prog w=.ok (.enter 204 args) w:=enters_of func204 (by kernel_rfl) rfl
theorem Zlc:∀args w,(callFunc 206 args).run prog w=.ok (.enter 206 args) w:=enters_of func206 (by kernel_rfl) rfl
theorem Zoq:∀args w,(callFunc 205 args).run prog w=.ok (.enter 205 args) w:=enters_of func205 (by kernel_rfl) rfl
structure Zt(w:World)(hb ho g cap:Nat)(l:List Int):Prop where
 hd:w.cell? ⟨hb,ho,none⟩=some (.slice (some ⟨g,0,none⟩) l.length cap)
 hf:w.frozen? ⟨hb,ho,none⟩=false
 row:Yz w g cap l
 ne:hb≠g
theorem Zt.lt{w:World}{hb ho g cap:Nat}{l:List Int}(h:Zt w hb ho g cap l):hb<w.heap.size:=World.block_lt_of_cell? _ ⟨hb,ho,none⟩ h.hd
theorem Zt.nw{w w':World}{hb ho g cap:Nat}{l:List Int}(h:Zt w hb ho g cap l)(k:Nw w w'):Zt w' hb ho g cap l :=
 ⟨(k.cell h.lt).trans h.hd,(World.frozen?_of_block (k.block hb h.lt)).trans h.hf,Z35 h.row (k.block g (IS.glt h.row)),h.ne⟩
theorem Zt.tch{S:Nat→Prop}{w w':World}{hb ho g cap:Nat}{l:List Int}(h:Zt w hb ho g cap l)(k:Z3 S w w')(h1:¬S hb)(h2:¬S g):Zt w' hb ho g cap l :=
 ⟨(k.cell h.lt h1).trans h.hd,(k.froz h.lt h1).trans h.hf,Zqm h.row k h2,h.ne⟩
theorem Zt.turned{w w':World}{hb ho g cap:Nat}{l l':List Int}(h:Zt w hb ho g cap l)(k:Z3 (fun k=>k=g) w w')(r:Yz w' g cap l')(hl:l'.length=l.length):Zt w' hb ho g cap l' :=
 ⟨by rw[hl];exact(k.cell h.lt h.ne).trans h.hd,(k.froz h.lt h.ne).trans h.hf,r,h.ne⟩
def Yv(hb ho:Nat)(w w':World):Prop:=∀o,o≠ho→w'.cell? ⟨hb,o,none⟩=w.cell? ⟨hb,o,none⟩∧w'.frozen? ⟨hb,o,none⟩=w.frozen? ⟨hb,o,none⟩
theorem Yv.trans{hb ho:Nat}{a b c:World}(h:Yv hb ho a b)(k:Yv hb ho b c):Yv hb ho a c:=fun o e=>⟨(k o e).1.trans (h o e).1,(k o e).2.trans (h o e).2⟩
theorem Yv.tch{hb ho:Nat}{S:Nat→Prop}{a b:World}(h:Z3 S a b)(hl:hb<a.heap.size)(hn:¬S hb):Yv hb ho a b:=fun _ _=>⟨h.cell hl hn,h.froz hl hn⟩
theorem Yv.set{hb ho:Nat}(a:World)(v:Value):Yv hb ho a (a.setCell ⟨hb,ho,none⟩ v):=fun o e=>⟨World.cell?_setCell_other _ _ _ _ (fun q=>e (by simpa using q.symm)),by rw[World.frozen?_setCell]⟩
def Zjw(w:World)(hb ho g cap n:Nat)(l:List Int)(w':World):Prop :=
 ∃l':List Int,l'.Perm l∧(∀k,n≤k→Y2 l' k=Y2 l k)∧IHp (Y2 l') n∧Zt w' hb ho g cap l'∧Z3 (fun k=>k=g) w w'
theorem Z6h(l:List Int){i j k:Nat}(hi:i<l.length)(hj:j<l.length)(h:k≠i)(h':k≠j):Y2 (Z1e l i j) k=Y2 l k:=by rw[Z44 l hi hj,Uc _ h h']
theorem Zlj(hb ho g cap:Nat)(l:List Int)(n j:Nat)(hjn:j<n)(hn:n≤l.length)(w:World)(h:Zt w hb ho g cap l)(hex:IEx (Y2 l) n j)(hgr:IGr (Y2 l) n j)(hch:ICh (Y2 l) n j) :
  Calls prog 76 #[.iface 94 (.pointer (some ⟨hb,ho,none⟩)),.int .i64 j] w fun e w'=>e=.returned (.tuple #[])∧Zjw w hb ho g cap n l w':=by
 have hm:=Nat.le_trans (V1 h.row).1 (V1 h.row).2
 unfold maxLen at hm
 have H0:=hD0 (aI0 h (aI0 hex (aI0 hgr hch)))
 clear h hex hgr hch
 have el:=Zd2
 have es:=Z7v
 go_enter func76,ntmps76
 go_wp2
 go_loopw [1] (fun vj wr=>∃(k:Nat) (l':List Int),vj=.int .i64 k∧k<n∧l'.length=l.length∧Hid (l'.Perm l∧(∀x,n≤x→Y2 l' x=Y2 l x)∧IEx (Y2 l') n k∧IGr (Y2 l') n k∧ICh (Y2 l') n k∧Zt wr hb ho g cap l'∧Z3 (fun x=>x=g) w wr)) (fun vj _=>(intOf vj).toNat)
 case atStart=>exact⟨j,l,rfl,hjn,rfl,.refl _,fun _ _=>rfl,H0.out.2.1,H0.out.2.2.1,H0.out.2.2.2,H0.out.1,Z3.refl _ _⟩
 case round =>
  obtain⟨k,l',rfl,hk,hl,HR⟩:=hrel
  have hc:=HR.out.2.2.2.2.2.1.hd
  rw[hl] at hc
  have mL:=Z2e wr _ _ _ hc
  rcases Nat.eq_zero_or_pos k with rfl | hk0
  ·go_wp2
   go_end0
   exact⟨rfl,l',HR.out.1,HR.out.2.1,IHp.of HR.out.2.2.1 HR.out.2.2.2.2.1 (fun h=>absurd h (by omega)),HR.out.2.2.2.2.2⟩
  ·obtain⟨i,hi⟩:∃i,(k-1)/2=i:=⟨_,rfl⟩
   have hi':((k:Int)-1)/2=(i:Int):=by omega
   have hik:¬i=k:=by omega
   have hik':((i:Int)==(k:Int))=false:=by simp;omega
   have HL:=Uv g cap l' k i (by omega) (by omega) wr HR.out.2.2.2.2.2.1.row
   rw[hl,←hi'] at HL
   have Hi':=hD0 hi'
   have Hi:=hD0 hi
   clear hi'
   cases Z1:Z1f (Y2 l' k) (Y2 l' i) with
   | true =>
    rw[Z1] at HL
    have Hlt:=hD0 Z1
    clear Z1
    go_wp2_with fail
    refine HL.mono ?_
    rintro e w1 ⟨rfl,hg1⟩
    have h1:=HR.out.2.2.2.2.2.1.nw hg1
    have hc1:=h1.hd
    rw[hl] at hc1
    have mS:=Z2f w1 _ _ _ hc1
    have HS:=Z01 g cap l' i k (by omega) (by omega) w1 h1.row
    rw[hl,←Hi'.out] at HS
    have H1:=hD0 h1
    clear h1 mL
    go_wp2_with fail
    refine HS.mono ?_
    rintro e w2 ⟨rfl,hr2,ht2⟩
    have H2:=hD0 (H1.out.turned ht2 hr2 (Yp _ _ _))
    have T2:=hD0 (HR.out.2.2.2.2.2.2.trans ((Z3.nw (S:=fun x=>x=g) hg1).trans ht2))
    have U:=hD0 (Zhw Hi.out hk0 hk HR.out.2.2.1 HR.out.2.2.2.1 HR.out.2.2.2.2.1 Hlt.out)
    clear hr2 ht2 mS hc hc1
    go_wp2
    go_roundw
    case rel =>
     have hs:=Z44 l' (i:=i) (j:=k) (by omega) (by omega)
     refine⟨i,Z1e l' i k,by rw[Hi'.out],by omega,by rw[Yp];exact hl,(Z34 l' (by omega) (by omega)).trans HR.out.1,fun x hx=>?_,?_,?_,?_,H2.out,T2.out⟩
     ·rw[Z6h l' (by omega) (by omega) (by omega) (by omega)];exact HR.out.2.1 x hx
     ·rw[hs];exact U.out.1
     ·rw[hs];exact U.out.2.1
     ·rw[hs];exact U.out.2.2
    case measure=>simp[intOf];omega
   | false =>
    rw[Z1] at HL
    have Hlt:=hD0 Z1
    clear Z1
    go_wp2_with fail
    refine HL.mono ?_
    rintro e w1 ⟨rfl,hg1⟩
    have H1:=hD0 (HR.out.2.2.2.2.2.1.nw hg1)
    have T1:=hD0 (HR.out.2.2.2.2.2.2.trans (Z3.nw hg1))
    clear mL hc
    go_wp2
    go_end0
    exact⟨rfl,l',HR.out.1,HR.out.2.1,IHp.of HR.out.2.2.1 HR.out.2.2.2.2.1 (fun _=>by rw[Hi.out];exact Hlt.out),H1.out,T1.out⟩
end Go.Proofs.YtfepoibfbmehiaaGreatDoor
