/- Texts merged: Rw, R1, R1B, QuA, QuC, QuD, QuT, Region, Lex, Ord, OrdP, QuE, QuF, QuG -/
import Derived.Test.YtpffldfpabglbaaGreatDoorTableScriptB1
import Derived.Deep.QuietTactic
import Derived.BigQuiet
import Derived.Deep.RegionHeld3
set_option linter.unusedVariables false
set_option maxRecDepth 100000
set_option maxHeartbeats 16000000
namespace Go.Proofs.YtpffldfpabglbaaGreatDoor
open Go.RowKit _root_.Go.Proofs.Tryz
theorem Nw.kp{a b:World}(g:Nw a b){k o:Nat}{v:Value}(h:a.cell? ⟨k,o,none⟩=some v):b.cell? ⟨k,o,none⟩=some v :=
 (g.cell (World.block_lt_of_cell? _ _ h)).trans h
theorem Nw.dr{a b:World}(h:Nw a b):Nw a b.drew:=h.drewN 1
theorem Nw.at'{a b:World}(g:Nw a b){k:Nat}{o:Obj}(h:a.heap[k]?=some o):b.heap[k]?=some o:=(g.block k (Array.getElem?_eq_some_iff.1 h).1).trans h
theorem Z1(w:World)(o:Obj):(w.alloc o).heap[w.heap.size]?=some o:=by
 show(w.heap.push o)[w.heap.size]?=some o
 simp
theorem Z0{w:World}{B j:Nat}{c:Array Value}{T:TypeId}{fr:Nat × Nat}(hb:w.heap[B]?=some (.cells c T fr)):w.cell? ⟨B,j,none⟩=c[j]?:=by simp[World.cell?,hb]
theorem hfz{w:World}{B j:Nat}{c:Array Value}{T:TypeId}(hb:w.heap[B]?=some (.cells c T (0,0))):w.frozen? ⟨B,j,none⟩=false:=by simp[World.frozen?,hb]
theorem hlt{w:World}{B:Nat}{o:Obj}(hb:w.heap[B]?=some o):B<w.heap.size:=(Array.getElem?_eq_some_iff.1 hb).1
theorem Vw{w:World}{B j:Nat}{c:Array Value}{T:TypeId}{fr:Nat × Nat}(u:Value)(hb:w.heap[B]?=some (.cells c T fr)):(w.setCell ⟨B,j,none⟩ u).heap[B]?=some (.cells (c.setIfInBounds j u) T fr):=by
 simp[World.setCell,Array.getElem?_modify,hb]
theorem Yg(w:World)(p:Addr)(u:Value):w.grownBy (w.setCell p u) (some p.block) :=
 ⟨rfl,rfl,rfl,by simp[World.setCell],fun k _ hk=>Below.heap_setCell _ _ _ _ (fun q=>hk (by rw[q]))⟩
theorem Nw.gro{w a b:World}{row:Option Nat}(h:Nw w a)(g:a.grownBy b row)(hB:∀k,row=some k→w.heap.size≤k):Nw w b :=
 ⟨g.os.trans h.os,g.tape.trans h.tape,g.output.trans h.output,Nat.le_trans h.size g.size,fun j hj=>(g.block j (lL0 hj h.size) (fun q=>by have:=hB j q.symm;omega)).trans (h.block j hj)⟩
section
variable {w w':World} {g0 e size n:Nat} {v:Value} {xs:List Value}
theorem Ug{row:Option Nat}(ho:w.ownsRow g0 e size v n xs)(hg:w.grownBy w' row)(hne:∀g,v.ownBlock=some g→row≠some g):w'.ownsRow g0 e size v n xs:=by
 cases hv:v.ownBlock with
 | none=>exact ho.kept hg (.inl hv)
 | some g=>exact ho.kept hg (.inr fun q=>hne g hv (q▸hv))
theorem onw(ho:w.ownsRow g0 e size v n xs)(hg:Nw w w'):w'.ownsRow g0 e size v n xs:=Ug ho (hg.grownBy none) (fun _ _=>by simp)
theorem Z4h(ho:w.ownsRow g0 e size v n xs){g:Nat}(hv:v.ownBlock=some g):∃c,w.heap[g]?=some (.cells c e (0,0)):=by
 rcases ho.2 with⟨rfl,_⟩ | ⟨g',cap,cur,rfl,_,hh,_⟩
 ·simp[Value.ownBlock] at hv
 ·simp only[Value.ownBlock,Option.some.injEq] at hv
  subst hv
  exact⟨cur,hh⟩
theorem olt(ho:w.ownsRow g0 e size v n xs){g:Nat}(hv:v.ownBlock=some g):g<w.heap.size:=(World.ownsRow.lt ho g hv).2
theorem Vr(ho:w.ownsRow g0 e size v n xs){g:Nat}(hv:v.ownBlock=some g):g0≤g:=(World.ownsRow.lt ho g hv).1
theorem Y7(h:w.ownsRow g0 e size v n xs):(v=.slice none 0 0∧n=0)∨∃g cap,v=.slice (some ⟨g,0,none⟩) n cap:=by
 rcases h.2 with q | ⟨g,cap,cur,rfl,_⟩
 ·exact .inl q
 ·exact .inr ⟨g,cap,rfl⟩
theorem Z4i(ho:w.ownsRow g0 e size v n xs){g1:Nat}(h:∀g,v.ownBlock=some g→g1≤g):w.ownsRow g1 e size v n xs:=by
 refine⟨ho.1,?_⟩
 rcases ho.2 with q | ⟨g,cap,cur,rfl,hb,rest⟩
 ·exact .inl q
 ·exact .inr ⟨g,cap,cur,rfl,h g rfl,rest⟩
end
theorem Nw.st{w a:World}{p:Addr}(h:Nw w a)(hB:w.heap.size≤p.block)(u:Value):Nw w (a.setCell p u):=h.gro (Yg a p u) (fun k hk=>by have:=Option.some.inj hk;omega)
theorem Yn{w:World}{g0 e size n:Nat}{v:Value}{xs:List Value}{p:Addr}(h:w.ownsRow g0 e size v n xs)(hp:p.block<g0)(u:Value):(w.setCell p u).ownsRow g0 e size v n xs :=
 Ug h (Yg w p u) (fun g hg q=>by have:=Vr h hg;have:=Option.some.inj q;omega)
structure Z29{α:Type}(P:Program)(ST T:TypeId)(sz bytes:Nat)(row:α→List Value):Prop where
 und:P.underlying ST=some (.slice T)
 inf:∃i z,P.info? T=some i∧i.zero=some z∧i.size=sz∧i.bytes=bytes∧z.cells.size=sz
 pos:0<sz
 byt:bytes≤800
 len:∀a,(row a).length=sz
 one:∀a,∀u∈row a,u.oneCell'=true
def Z6{α:Type}(row:α→List Value)(l:List α):List Value:=l.flatMap row
abbrev Yz{α:Type}(T:TypeId)(sz:Nat)(row:α→List Value)(w:World)(g0:Nat)(v:Value)(l:List α):Prop:=w.ownsRow g0 T sz v l.length (Z6 row l)
structure RdC{α:Type}(sz:Nat)(row:α→List Value)(w:World)(b o:Nat)(l:List α):Prop where
 lt:b<w.heap.size
 cell:∀i (h:i<l.length) c u,(row l[i])[c]?=some u→w.cell? ⟨b,o+i*sz+c,none⟩=some u
def Rd{α:Type}(sz:Nat)(row:α→List Value)(w:World)(v:Value)(l:List α):Prop:=∃a c,v=.slice a l.length c∧(l=[]∧(a=none→c=0)∨∃b o,a=some ⟨b,o,none⟩∧RdC sz row w b o l)
section
variable {α:Type} {sz:Nat} {row:α→List Value} {w w':World} {b o:Nat} {l:List α} {v:Value}
theorem RdC.nw(h:RdC sz row w b o l)(g:Nw w w'):RdC sz row w' b o l:=⟨lL0 h.lt g.sz,fun i hi c u hu=>(g.cell h.lt).trans (h.cell i hi c u hu)⟩
theorem Rd.nw(h:Rd sz row w v l)(g:Nw w w'):Rd sz row w' v l:=by
 obtain⟨a,c,rfl,h | ⟨b,o,rfl,h⟩⟩:=h
 ·exact⟨a,c,rfl,.inl h⟩
 ·exact⟨_,c,rfl,.inr ⟨b,o,rfl,h.nw g⟩⟩
theorem Rd.nil(w:World):Rd sz row w (.slice none 0 0) []:=⟨none,0,rfl,.inl ⟨rfl,fun _=>rfl⟩⟩
theorem Rd.form(h:Rd sz row w v l):∃a c,v=.slice a l.length c:=by
 obtain⟨a,c,rfl,_⟩:=h
 exact⟨a,c,rfl⟩
theorem Yw(hl:∀a,(row a).length=sz):∀l:List α,(Z6 row l).length=l.length*sz
 | []=>by simp[Z6]
 | s::r=>by
  show(row s++Z6 row r).length=_
  rw[List.length_append,Yw hl r,hl,List.length_cons,Nat.add_mul,Nat.one_mul,Nat.add_comm]
theorem Z0q(hl:∀a,(row a).length=sz):∀(l:List α) (j c:Nat) (hj:j<l.length),c<sz→(Z6 row l)[j*sz+c]?=(row l[j])[c]?
 | s::r,0,c,_,hc=>by
  show(row s++Z6 row r)[0*sz+c]?=_
  rw[List.getElem?_append_left (by rw[hl];simpa using hc)]
  simp
 | s::r,j+1,c,hj,hc=>by
  have hj':j<r.length:=by simpa using hj
  show(row s++Z6 row r)[(j+1)*sz+c]?=_
  rw[Nat.add_mul,Nat.one_mul,List.getElem?_append_right (by rw[hl];omega),hl,show j*sz+sz+c-sz=j*sz+c by omega,Z0q hl r j c hj' hc]
  rfl
theorem Z4s(a b:List α):Z6 row (a++b)=Z6 row a++Z6 row b:=by simp[Z6]
theorem Zpa(hl:∀a,(row a).length=sz){B:Nat}{T:TypeId}{fr:Nat × Nat}(h:w.heap[B]?=some (.cells ⟨Z6 row l⟩ T fr))(c:Nat):Rd sz row w (.slice (some ⟨B,0,none⟩) l.length c) l:=by
 refine⟨_,c,rfl,.inr ⟨B,0,rfl,hlt h,fun i hi c u hu=>?_⟩⟩
 have hc:c<sz:=by have:=(List.getElem?_eq_some_iff.1 hu).1;rwa [hl] at this
 rw[Nat.zero_add,Z0 h,←Array.getElem?_toList]
 show(Z6 row l)[i*sz+c]?=_
 rw[Z0q hl l i c hi hc];exact hu
theorem Yz.rd{T g0:Nat}(hl:∀a,(row a).length=sz)(h:Yz T sz row w g0 v l):Rd sz row w v l:=by
 rcases Y7 h with⟨rfl,q⟩ | ⟨g,cap,rfl⟩
 ·exact⟨none,0,by rw[q],.inl ⟨List.length_eq_zero_iff.1 q,fun _=>rfl⟩⟩
 ·refine⟨_,cap,rfl,.inr ⟨g,0,rfl,olt h rfl,fun i hi c u hu=>?_⟩⟩
  have hc:c<sz:=by have:=(List.getElem?_eq_some_iff.1 hu).1;rwa [hl] at this
  rw[Nat.zero_add]
  have hb:i*sz+c<l.length*sz:=by
   have:(i+1)*sz≤l.length*sz:=Nat.mul_le_mul_right _ hi
   rw[Nat.add_mul,Nat.one_mul] at this
   omega
  refine(World.ownsRow.cellAt h (i*sz+c) hb).trans ?_
  rw[Z0q hl l i c hi hc];exact hu
theorem RdC.flat(hl:∀a,(row a).length=sz)(hz:0<sz)(h:RdC sz row w b o l):∀j u,(Z6 row l)[j]?=some u→w.cell? ((⟨b,o,none⟩:Addr).add j)=some u:=by
 intro j u hu
 have hj:=(List.getElem?_eq_some_iff.1 hu).1
 rw[Yw hl] at hj
 have hq:j/sz<l.length:=Nat.div_lt_of_lt_mul (by rwa [Nat.mul_comm])
 have hm:j%sz<sz:=Nat.mod_lt _ hz
 have e:j=j/sz*sz+j%sz:=by rw[Nat.mul_comm];exact(Nat.div_add_mod j sz).symm
 rw[e,Z0q hl _ _ _ hq hm] at hu
 have:=h.cell _ hq _ u hu
 rw[Addr.add_lit]
 rwa [Nat.add_assoc,←e] at this
theorem RdC.part(h:RdC sz row w b o l)(i m:Nat):RdC sz row w b (o+i*sz) ((l.drop i).take m):=⟨h.lt,fun k hk c u hu=>by
  simp only[List.length_take,List.length_drop] at hk
  simp only[List.getElem_take,List.getElem_drop] at hu
  have:=h.cell (i+k) (by omega) c u hu
  rw[Nat.add_mul] at this
  rwa [show o+i*sz+k*sz+c=o+(i*sz+k*sz)+c by omega]⟩
end
section
variable {α:Type} {P:Program} {ST T:TypeId} {sz bytes:Nat} {row:α→List Value}
theorem Z29.oneAll(E:Z29 P ST T sz bytes row)(l:List α):∀u∈Z6 row l,u.oneCell'=true:=by
 intro u hu
 obtain⟨a,_,hu⟩:=List.mem_flatMap.1 hu
 exact E.one a u hu
theorem Yz.many(E:Z29 P ST T sz bytes row){w:World}{g0:Nat}{v:Value}{l:List α}(h:Yz T sz row w g0 v l)(sg:List α)(a:Addr)(c:Nat)(hc:∀j u,(Z6 row sg)[j]?=some u→w.cell? (a.add j)=some u)(hsm:l.length+sg.length≤100000)(hg0:g0≤w.heap.size) :
  ∃v' w1,(Builtin.append_ #[ST,ST] ST #[v,.slice (some a) sg.length c]).run P w=.ok v' w1∧Yz T sz row w1 g0 v' (l++sg)∧w.grownBy w1 v.ownBlock∧(v'.ownBlock=v.ownBlock∨v'.ownBlock=some w.heap.size):=by
 obtain⟨i0,z,hi,hz0,hz1,hz2,hz3⟩:=E.inf
 have hb:=E.byt
 obtain⟨v',w1,hrun,ho,hg,hp⟩:=Um (P:=P) w g0 ST ST T i0 z sz bytes E.und hi hz0 hz1 hz2 hz3 E.pos v l.length _ h
  a sg.length c (Z6 row sg) (Yw E.len sg) hc (E.oneAll sg) (by unfold maxLen;omega) (Nat.le_trans (Nat.mul_le_mul hsm hb) (by omega)) hg0
 refine⟨v',w1,hrun,?_,hg,hp⟩
 unfold Yz
 rw[List.length_append,Z4s]
 exact ho
theorem Yz.push(E:Z29 P ST T sz bytes row){w:World}{g0:Nat}{v:Value}{l:List α}(h:Yz T sz row w g0 v l)(x:α)(b:Nat)(c:Nat)(hx:∀j u,(row x)[j]?=some u→w.cell? ⟨b,j,none⟩=some u)(hsm:l.length<100000)(hg0:g0≤w.heap.size) :
  ∃v' w1,(Builtin.append_ #[ST,ST] ST #[v,.slice (some ⟨b,0,none⟩) 1 c]).run P w=.ok v' w1∧Yz T sz row w1 g0 v' (l++[x])∧w.grownBy w1 v.ownBlock∧(v'.ownBlock=v.ownBlock∨v'.ownBlock=some w.heap.size)∧∃g cap,v'=.slice (some ⟨g,0,none⟩) (l.length+1) cap:=by
 obtain⟨v',w1,h1,h2,h3,h4⟩:=Yz.many E h [x] ⟨b,0,none⟩ c (fun j u hu=>by
  rw[Addr.add_lit,Nat.zero_add]
  exact hx j u (by simpa [Z6] using hu)) (by rw[List.length_singleton];omega) hg0
 refine⟨v',w1,h1,h2,h3,h4,?_⟩
 rcases Y7 h2 with⟨_,q⟩ | ⟨g,cap,rfl⟩
 ·simp at q
 ·exact⟨g,cap,by simp⟩
theorem Zk5(w:World):(w.alloc (.cells #[] T)).ownsRow w.heap.size T sz (.slice (some ⟨w.heap.size,0,none⟩) 0 0) 0 []:=World.ownsRow_lit w #[] 0 (Nat.le_refl _) (Nat.zero_le _) (by simp)
theorem U4(E:Z29 P ST T sz bytes row){w:World}{v:Value}{l:List α}(h:Rd sz row w v l)(hsm:l.length≤100000) :
  ∃v' w1,(Builtin.append_ #[ST,ST] ST #[.slice (some ⟨w.heap.size,0,none⟩) 0 0,v]).run P (w.alloc (.cells #[] T))=.ok v' w1∧Yz T sz row w1 w.heap.size v' l∧Nw w w1:=by
 have he:=Zk5 (T:=T) (sz:=sz) w
 have hN:Nw w (w.alloc (.cells #[] T)):=(Nw.refl w).alloc _
 have hE:Yz T sz row (w.alloc (.cells #[] T)) w.heap.size (.slice (some ⟨w.heap.size,0,none⟩) 0 0) ([]:List α):=he
 obtain⟨a,c,rfl,⟨rfl,h0⟩ | ⟨b,o,rfl,hc⟩⟩:=h
 ·cases a with
  | none =>
   obtain rfl:=h0 rfl
   obtain⟨i0,z,hi,hz0,hz1,hz2,hz3⟩:=E.inf
   exact⟨_,_,run_append_owned_none (P:=P) (w.alloc (.cells #[] T)) w.heap.size ST ST T i0 sz E.und hi _ 0 [] he,hE,hN⟩
  | some ad =>
   obtain⟨v',w1,h1,h2,h3,_⟩:=Yz.many E hE [] ad c (fun j u hu=>by simp[Z6] at hu) (by simp) hN.sz
   exact⟨v',w1,h1,h2,hN.gro h3 (fun k hk=>Nat.le_of_eq (Option.some.inj hk))⟩
 ·obtain⟨v',w1,h1,h2,h3,_⟩:=Yz.many E hE l ⟨b,o,none⟩ c ((hc.nw hN).flat E.len E.pos) (by simpa using hsm) hN.sz
  exact⟨v',w1,h1,by simpa using h2,hN.gro h3 (fun k hk=>Nat.le_of_eq (Option.some.inj hk))⟩
end
theorem Z5{P:Program}{w:World}{ops:Array Oper}{rest:List Oper}{o:Oper}{a:Act}{Q:Exit→Act→World→Prop}
  (hgd:Region.wanted o (yielded ops a.tmps)=true) (s x:Operand) (t:TypeId) (hop:o.op=Op.call { callee:=Callee.builtin Builtin.append,args:=#[s,x],argTypes:=#[t,t] })
  (v u v':Value) (w':World) (hs:a.eval s=v) (hx:a.eval x=u) (hr:(Builtin.append_ #[t,t] o.type #[v,u]).run P w=.ok v' w') (h:wpList P ops Q rest (a.put o.dst v') w'):wpList P ops Q (o::rest) a w:=by
 refine wpList_step fun _ hK=>?_
 rw[if_pos hgd]
 unfold Oper.wp execOp
 simp only[hop,resolve,invoke,builtin,Sem.run_bind,Sem.run_pure,Result.andThen_ok,List.map_toArray,List.map_cons,List.map_nil,hs,hx,hr]
 exact hK _ _ h
theorem Ztq{P:Program}{ops:Array Oper}{o:Oper}{a:Act}{w:World}{K:Act→World→Prop}{Q:Exit→Act→World→Prop}{E:Prop}(hgd:Region.wanted o (yielded ops a.tmps)=true)(s x:Operand)(t:TypeId)
  (ho:o.op=.call { callee:=.builtin .append,args:=#[s,x],argTypes:=#[t,t] }) (v u v':Value) (w':World) (hs:a.eval s=v) (hx:a.eval x=u) (hr:(Builtin.append_ #[t,t] o.type #[v,u]).run P w=.ok v' w')
  (h:K (a.put o.dst v') w'):if Region.wanted o (yielded ops a.tmps)=true then Oper.wp P o a w K Q else E:=by
 rw[if_pos hgd]
 unfold Oper.wp execOp
 simp only[ho,resolve,invoke,builtin,Sem.run_bind,Sem.run_pure,Result.andThen_ok,List.map_toArray,List.map_cons,List.map_nil,hs,hx,hr]
 exact h
theorem Zz2(m:Int):Zr m=false↔m<0∨7≤m:=by
 rw[Bool.eq_false_iff,ne_eq,Va];omega
theorem Z0z(m:Int)(w:World):Calls prog 87 #[.int .i64 m] w fun e w'=>e=.returned (.bool (Zr m))∧w=w':=by
 cases h:Zr m with
 | true =>
  rw[Va] at h
  obtain⟨h0,h1⟩:=h
  have h2:m≤6:=by omega
  go_enter func87,ntmps87
  go_wp2
  go_ret
  exact⟨rfl,rfl⟩
 | false =>
  rw[Zz2] at h
  rcases h with h | h
  ·go_enter func87,ntmps87
   go_wp2
   go_ret
   exact⟨rfl,rfl⟩
  ·have h0:0≤m:=by omega
   have hd:decide (m≤6)=false:=by simp;omega
   go_enter func87,ntmps87
   go_wp2
   go_ret
   exact⟨rfl,rfl⟩
theorem Z1i{m:Int}(h:Zr m=true):m=0∨m=1∨m=2∨m=3∨m=4∨m=5∨m=6:=by
 rw[Va] at h;omega
theorem Z9k(m:Int)(h:Zr m=true)(w:World):Calls prog 87 #[.int .i64 m] w fun e w'=>e=.returned (.bool true)∧w=w':=by
 have:=Z0z m w;rwa [h] at this
theorem Zif(m:Int)(h:Zr m=false)(w:World):Calls prog 87 #[.int .i64 m] w fun e w'=>e=.returned (.bool false)∧w=w':=by
 have:=Z0z m w;rwa [h] at this
def Zzs:List ByteArray:=[⟨#[43,43,43,43,43,43,43]⟩,⟨#[43,43,43,43,43,43,46]⟩,⟨#[43,43,43,46,46,46,46]⟩,⟨#[43,43,46,43,46,43,46]⟩,⟨#[43,43,46,46,46,46,46]⟩,⟨#[43,43,46,43,46,46,46]⟩,⟨#[43,46,46,46,46,46,46]⟩]
def Zzv:List ByteArray:=[⟨#[43,46,46,46,46,46,46]⟩,⟨#[43,43,46,46,46,46,46]⟩,⟨#[43,43,43,46,46,46,46]⟩,⟨#[43,43,46,43,46,46,46]⟩,⟨#[43,43,43,43,43,46,46]⟩,⟨#[43,43,46,43,46,43,46]⟩,⟨#[43,43,43,43,43,43,43]⟩]
theorem Zzc(a:Int)(h:Zr a=true)(w:World):Calls prog 88 #[.int .i64 a] w fun e w'=>e=.returned (.string (Zzs.getD a.toNat ByteArray.empty))∧Nw w w':=by
 rcases Z1i h with rfl | rfl | rfl | rfl | rfl | rfl | rfl
 all_goals
  go_enter func88,ntmps88
  go_wp2
  go_ret
  exact⟨rfl,(Nw.refl _).alloc _⟩
theorem Zt8(a:Int)(h:Zr a=true)(w:World):Calls prog 169 #[.int .i64 a] w fun e w'=>e=.returned (.string (Zzv.getD a.toNat ByteArray.empty))∧Nw w w':=by
 rcases Z1i h with rfl | rfl | rfl | rfl | rfl | rfl | rfl
 all_goals
  go_enter func169,ntmps169
  go_wp2
  go_ret
  exact⟨rfl,(Nw.refl _).alloc _⟩
theorem Zk8(a b:Int)(ha:Zr a=true)(hb:Zr b=true)(w:World):Calls prog 33 #[.int .i64 a,.int .i64 b] w fun e w'=>e=.returned (.bool (U2 a b))∧Nw w w':=by
 have hr:=Zzc a ha
 rcases Z1i ha with rfl | rfl | rfl | rfl | rfl | rfl | rfl<;>rcases Z1i hb with rfl | rfl | rfl | rfl | rfl | rfl | rfl
 all_goals
  go_enter func33,ntmps33
  go_wp2_with (first | (go_at_call 87;refine(Z9k _ rfl _).mono ?_;rintro e w' ⟨rfl,rfl⟩) | (go_at_call 88;refine(hr _).mono ?_;rintro e w' ⟨rfl,hg⟩))
  go_ret
  exact⟨rfl,hg⟩
theorem Zxf(a b:Int)(w:World):Calls prog 33 #[.int .i64 a,.int .i64 b] w fun e w'=>e=.returned (.bool (U2 a b))∧Nw w w':=by
 cases ha:Zr a with
 | true =>
  cases hb:Zr b with
  | true=>exact Zk8 a b ha hb w
  | false =>
   have hc:U2 a b=false:=by simp[U2,hb]
   rw[hc]
   have HA:=hD0 (Z9k a ha)
   have HB:=hD0 (Zif b hb)
   clear ha hb hc
   go_enter func33,ntmps33
   go_wp2_with fail
   refine(HA.out _).mono ?_
   rintro e w' ⟨rfl,rfl⟩
   go_wp2_with fail
   refine(HB.out _).mono ?_
   rintro e w' ⟨rfl,rfl⟩
   go_wp2
   go_ret
   exact⟨rfl,Nw.refl _⟩
 | false =>
  have hc:U2 a b=false:=by simp[U2,ha]
  rw[hc]
  have HA:=hD0 (Zif a ha)
  clear ha hc
  go_enter func33,ntmps33
  go_wp2_with fail
  refine(HA.out _).mono ?_
  rintro e w' ⟨rfl,rfl⟩
  go_wp2
  go_ret
  exact⟨rfl,Nw.refl _⟩
theorem Zp2(a b:Int)(ha:Zr a=true)(hb:Zr b=true)(w:World):Calls prog 126 #[.int .i64 a,.int .i64 b] w fun e w'=>e=.returned (.bool (cvI a b))∧Nw w w':=by
 have hr:=Zt8 a ha
 rcases Z1i ha with rfl | rfl | rfl | rfl | rfl | rfl | rfl<;>rcases Z1i hb with rfl | rfl | rfl | rfl | rfl | rfl | rfl
 all_goals
  go_enter func126,ntmps126
  go_wp2_with (first | (go_at_call 87;refine(Z9k _ rfl _).mono ?_;rintro e w' ⟨rfl,rfl⟩) | (go_at_call 169;refine(hr _).mono ?_;rintro e w' ⟨rfl,hg⟩))
  go_ret
  exact⟨rfl,hg⟩
theorem Zp1(a b:Int)(w:World):Calls prog 126 #[.int .i64 a,.int .i64 b] w fun e w'=>e=.returned (.bool (cvI a b))∧Nw w w':=by
 cases ha:Zr a with
 | true =>
  cases hb:Zr b with
  | true=>exact Zp2 a b ha hb w
  | false =>
   have hc:cvI a b=false:=by simp[cvI,hb]
   rw[hc]
   have HA:=hD0 (Z9k a ha)
   have HB:=hD0 (Zif b hb)
   clear ha hb hc
   go_enter func126,ntmps126
   go_wp2_with fail
   refine(HA.out _).mono ?_
   rintro e w' ⟨rfl,rfl⟩
   go_wp2_with fail
   refine(HB.out _).mono ?_
   rintro e w' ⟨rfl,rfl⟩
   go_wp2
   go_ret
   exact⟨rfl,Nw.refl _⟩
 | false =>
  have hc:cvI a b=false:=by simp[cvI,ha]
  rw[hc]
  have HA:=hD0 (Zif a ha)
  clear ha hc
  go_enter func126,ntmps126
  go_wp2_with fail
  refine(HA.out _).mono ?_
  rintro e w' ⟨rfl,rfl⟩
  go_wp2
  go_ret
  exact⟨rfl,Nw.refl _⟩
def Zbk(a b o m:Int):Int:=if ((cvI m a&&cvI m b)&&cvI o m)=true then m else o
def Ze6(a b:Int)(k:Nat):Int:=(([6,5,4,3,2,1,0]:List Int).take k).foldl (Zbk a b) 6
theorem Zps:∀i<7,∀j<7,(Ze6 (Int.ofNat i) (Int.ofNat j) 7==Yi (Int.ofNat i) (Int.ofNat j))=true:=by decide +kernel
theorem Zts(a b:Int)(ha:Zr a=true)(hb:Zr b=true):Ze6 a b 7=Yi a b:=by
 have:=Z2u (p:=fun a b=>Ze6 a b 7==Yi a b) Zps a b ha hb
 simpa using this
theorem Zks(a b:Int)(k:Nat)(hk:k<7):Ze6 a b (k+1)=Zbk a b (Ze6 a b k) (6-(k:Int)):=by
 unfold Ze6
 rw[List.take_add_one,List.foldl_append]
 match k,hk with
 | 0,_=>rfl
 | 1,_=>rfl
 | 2,_=>rfl
 | 3,_=>rfl
 | 4,_=>rfl
 | 5,_=>rfl
 | 6,_=>rfl
theorem Zp3(a b:Int)(ha:Zr a=true)(hb:Zr b=true)(w:World):Calls prog 182 #[.int .i64 a,.int .i64 b] w fun e w'=>e=.returned (.int .i64 (Yi a b))∧Nw w w':=by
 have HR:=hD0 (Zts a b ha hb)
 have HK:=hD0 (fun k hk=>Zks a b k hk)
 have HA:=hD0 (Z9k a ha)
 have HB:=hD0 (Z9k b hb)
 clear ha hb
 go_enter func182,ntmps182
 go_wp2_with fail
 refine(HA.out _).mono ?_
 rintro e w' ⟨rfl,rfl⟩
 go_wp2_with fail
 refine(HB.out _).mono ?_
 rintro e w' ⟨rfl,rfl⟩
 go_wp2
 go_loopw [5,6] (fun o m wr=>∃k:Nat,k≤7∧m=.int .i64 (6-(k:Int))∧o=.int .i64 (Ze6 a b k)∧Nw w wr) (fun _ m _=>(intOf m+1).toNat)
 case atStart=>exact⟨0,Nat.zero_le _,rfl,rfl,Nw.refl _⟩
 case round =>
  obtain⟨k,hk,rfl,rfl,hG⟩:=hrel
  have HG:=hD0 hG
  clear hG
  by_cases hlt:k<7
  ·have hs:=HK.out k hlt
   obtain⟨m,hm⟩:∃m:Int,m=6-(k:Int):=⟨_,rfl⟩
   have hm0:0≤m:=by omega
   have hm1:m≤6:=by omega
   have hmn:(6-((k+1:Nat):Int))=m-1:=by omega
   have HM:=hD0 hmn
   rw[←hm] at hs
   rw[←hm]
   clear hmn hm
   obtain⟨o,ho⟩:∃o,Ze6 a b k=o:=⟨_,rfl⟩
   rw[ho] at hs ⊢
   clear ho HK HR HA HB
   unfold Zbk at hs
   have C1:=hD0 (fun w=>Zp1 m a w)
   have C2:=hD0 (fun w=>Zp1 m b w)
   have C3:=hD0 (fun w=>Zp1 o m w)
   obtain⟨x1,hx1⟩:∃x,cvI m a=x:=⟨_,rfl⟩
   obtain⟨x2,hx2⟩:∃x,cvI m b=x:=⟨_,rfl⟩
   obtain⟨x3,hx3⟩:∃x,cvI o m=x:=⟨_,rfl⟩
   rw[hx1] at hs C1
   rw[hx2] at hs C2
   rw[hx3] at hs C3
   clear hx1 hx2 hx3
   have HS:=hD0 hs
   clear hs
   cases x1
   ·go_wp2_with fail
    refine(C1.out _).mono ?_
    rintro e w1 ⟨rfl,g1⟩
    go_wp2
    go_roundw
    case rel=>exact⟨k+1,by omega,by rw[HM.out],by rw[HS.out];simp,HG.out.trans g1⟩
    case measure=>simp[intOf];omega
   ·go_wp2_with fail
    refine(C1.out _).mono ?_
    rintro e w1 ⟨rfl,g1⟩
    go_wp2_with fail
    refine(C2.out _).mono ?_
    rintro e w2 ⟨rfl,g2⟩
    cases x2
    ·go_wp2
     go_roundw
     case rel=>exact⟨k+1,by omega,by rw[HM.out],by rw[HS.out];simp,HG.out.trans (g1.trans g2)⟩
     case measure=>simp[intOf];omega
    ·go_wp2_with fail
     refine(C3.out _).mono ?_
     rintro e w3 ⟨rfl,g3⟩
     cases x3
     ·go_wp2
      go_roundw
      case rel=>exact⟨k+1,by omega,by rw[HM.out],by rw[HS.out];simp,HG.out.trans (g1.trans (g2.trans g3))⟩
      case measure=>simp[intOf];omega
     ·go_wp2
      go_roundw
      case rel=>exact⟨k+1,by omega,by rw[HM.out],by rw[HS.out];simp,HG.out.trans (g1.trans (g2.trans g3))⟩
      case measure=>simp[intOf];omega
  ·obtain rfl:k=7:=by omega
   have e:=HR.out
   rw[e]
   clear HR HK HA HB
   go_wp2
   go_ret
   exact⟨rfl,HG.out⟩
def Zk(r:Rq):List Value:=[.int .i64 r.id,.int .i64 r.txn,.int .i64 r.md,.int .i64 r.wt,.int .i64 r.sn]
def rqV(r:Rq):Value:=.agg #[.int .i64 r.id,.int .i64 r.txn,.int .i64 r.md,.int .i64 r.wt,.int .i64 r.sn]
def Yf(t r:Int)(v:Value)(W:Int):Value:=.agg #[.int .i64 t,.int .i64 r,v,.int .i64 W]
theorem Z57:Z29 prog 61 50 5 40 Zk where
 und:=underlying61
 inf:=by
  have h:(prog.info? 50).map (fun i=>(i.zero,i.size,i.bytes))=some (some (.agg #[.int .i64 0,.int .i64 0,.int .i64 0,.int .i64 0,.int .i64 0]),5,40):=by kernel_rfl
  cases e:prog.info? 50 with
  | none=>rw[e] at h;cases h
  | some i =>
   rw[e] at h
   simp only[Option.map_some,Option.some.injEq,Prod.mk.injEq] at h
   exact⟨i,_,rfl,h.1,h.2.1,h.2.2,rfl⟩
 pos:=by decide
 byt:=by decide
 len:=fun _=>rfl
 one:=fun a u hu=>by
  simp only[Zk,List.mem_cons,List.not_mem_nil,or_false] at hu
  rcases hu with rfl | rfl | rfl | rfl | rfl<;>rfl
abbrev RqC:=RdC 5 Zk
abbrev Zl:=Rd 5 Zk
abbrev Z2(w:World)(g0:Nat)(v:Value)(q:List Rq):Prop:=Yz 50 5 Zk w g0 v q
theorem Z2.rd{w:World}{g0:Nat}{v:Value}{q:List Rq}(h:Z2 w g0 v q):Zl w v q:=Yz.rd (fun _=>rfl) h
structure Z63(w:World)(p:Nat)(t r:Int)(v:Value)(W:Int):Prop where
 lt:p<w.heap.size
 c0:w.cell? ⟨p,0,none⟩=some (.int .i64 t)
 c1:w.cell? ⟨p,1,none⟩=some (.int .i64 r)
 c2:w.cell? ⟨p,2,none⟩=some v
 c3:w.cell? ⟨p,3,none⟩=some (.int .i64 W)
theorem Z63.nw{w w':World}{p:Nat}{t r:Int}{v:Value}{W:Int}(h:Z63 w p t r v W)(g:Nw w w'):Z63 w' p t r v W :=
 ⟨lL0 h.lt g.sz,(g.cell h.lt).trans h.c0,(g.cell h.lt).trans h.c1,(g.cell h.lt).trans h.c2,(g.cell h.lt).trans h.c3⟩
theorem Z63.made(w:World)(t r:Int)(v:Value)(W:Int)(T:TypeId):Z63 (w.alloc (.cells #[.int .i64 t,.int .i64 r,v,.int .i64 W] T)) w.heap.size t r v W:=by
 have h:=Z1 w (.cells #[.int .i64 t,.int .i64 r,v,.int .i64 W] T)
 exact⟨hlt h,Z0 h,Z0 h,Z0 h,Z0 h⟩
theorem Z32(a b m wn s:Int)(w:World):Calls prog 86 #[.agg #[.int .i64 a,.int .i64 b,.int .i64 m,.int .i64 wn,.int .i64 s]] w fun e w'=>e=.returned (.bool (m != 0))∧Nw w w':=by
 go_enter func86,ntmps86
 go_wp2
 go_ret
 exact⟨rfl,(Nw.refl _).alloc _⟩
theorem Z6r(a b m wn s:Int)(w:World):Calls prog 85 #[.agg #[.int .i64 a,.int .i64 b,.int .i64 m,.int .i64 wn,.int .i64 s]] w fun e w'=>e=.returned (.bool (decide (0<s)))∧Nw w w':=by
 go_enter func85,ntmps85
 go_wp2
 go_ret
 exact⟨rfl,(Nw.refl _).alloc _⟩
theorem Zig(m:Int)(w:World):Calls prog 181 #[.int .i64 m] w fun e w'=>e=.returned (.bool ((m != 0)&&Zr m))∧Nw w w':=by
 cases h:(m != 0) with
 | false =>
  go_enter func181,ntmps181
  go_wp2
  go_ret
  exact⟨rfl,Nw.refl _⟩
 | true =>
  have HK:=hD0 (Z0z m)
  go_enter func181,ntmps181
  go_wp2_with (go_at_call 87;refine(HK.out _).mono ?_;rintro e w' ⟨rfl,rfl⟩)
  go_ret
  exact⟨rfl,Nw.refl _⟩
theorem Zrw{w:World}{B:Nat}{o:Obj}(hb:w.heap[B]?=some o):B<w.heap.size:=hlt hb
def Zve(q:List Rq)(id i:Int):Prop:=(i = -1∧Yr q id=none)∨∃k:Nat,i=k∧∃h:k<q.length,Yr q id=some q[k]
theorem Zmv{q:List Rq}{id:Int}{k:Nat}(hk:k<q.length)(h:Yr (q.take k) id=none)(e:q[k].id=id):Yr q id=some q[k]:=by
 have e2:q=q.take k++q[k]::q.drop (k+1):=by rw[←List.drop_eq_getElem_cons hk,List.take_append_drop]
 have:Yr (q.take k++q[k]::q.drop (k+1)) id=some q[k]:=by
  unfold Yr at h ⊢
  rw[List.find?_append,h,List.find?_cons]
  simp[e]
 rwa [←e2] at this
theorem Zmu{q:List Rq}{id:Int}{k:Nat}(hk:k<q.length)(h:Yr (q.take k) id=none)(e:q[k].id≠id):Yr (q.take (k+1)) id=none:=by
 unfold Yr at h ⊢
 rw[List.take_add_one,List.getElem?_eq_getElem hk,List.find?_append,h]
 simp[e]
theorem Zp5(t r W id:Int)(v:Value)(q:List Rq)(w:World)(hl:q.length≤1000)(h:Zl w v q) :
  Calls prog 168 #[Yf t r v W,.int .i64 id] w fun e w'=>∃i,e=.returned (.int .i64 i)∧Nw w w'∧Zve q id i:=by
 unfold Yf
 obtain⟨a,c,rfl,⟨rfl,_⟩ | ⟨b,o,rfl,hc⟩⟩:=h
 ·go_enter func168,ntmps168
  go_wp2
  refine wp_loop_rounds 1 ?_
  repeat (rw[rounds_succ];go_wp2)
  go_ret
  exact⟨-1,rfl,(Nw.refl _).alloc _,.inl ⟨rfl,rfl⟩⟩
 ·have HA:Hid (∀k (hk:k<q.length),Yr (q.take k) id=none→q[k].id=id→Zve q id (k:Int)):=hD0 fun k hk h1 h2=>.inr ⟨k,rfl,hk,Zmv hk h1 h2⟩
  have HC:=hD0 hc
  clear hc
  go_enter func168,ntmps168
  go_wp2
  have hB:=Z63.made w t r (.slice (some ⟨b,o,none⟩) q.length c) W 63
  have hN:Nw w (w.alloc (.cells #[.int .i64 t,.int .i64 r,.slice (some ⟨b,o,none⟩) q.length c,.int .i64 W] 63)):=(Nw.refl w).alloc _
  obtain⟨p,hp⟩:∃p,w.heap.size=p:=⟨_,rfl⟩
  rw[hp] at hB
  rw[hp]
  clear hp
  generalize w.alloc (.cells #[.int .i64 t,.int .i64 r,.slice (some ⟨b,o,none⟩) q.length c,.int .i64 W] 63)=z at *
  have HZ:=hD0 (aI0 hB hN)
  have HR:=hD0 (HC.out.nw hN)
  clear hB hN HC
  go_loopw [5] (fun i wr=>∃k:Nat,k≤q.length∧i=.int .i64 k∧Yr (q.take k) id=none∧Nw z wr) (fun i _=>q.length-(intOf i).toNat)
  case atStart=>exact⟨0,Nat.zero_le _,rfl,rfl,Nw.refl _⟩
  case round =>
   obtain⟨k,hk,rfl,hf,hG⟩:=hrel
   have hb:=HZ.out.1.nw hG
   have h0:=hb.c0
   have h1:=hb.c1
   have h2:=hb.c2
   have h3:=hb.c3
   clear hb
   have HG:=hD0 (HZ.out.2.trans hG)
   have HG2:=hD0 hG
   by_cases hlt:k<q.length
   ·have hce:=(HR.out.nw hG).cell k hlt
    have HA2:=hD0 (HA.out k hlt hf)
    have HS:=hD0 (fun e=>Zmu hlt hf e)
    generalize q[k]=R at *
    obtain⟨b0,b1,b2,b3,b4⟩:=R
    have e0:=hce 0 _ rfl
    simp only[Nat.add_zero] at e0
    clear hce hf hG
    by_cases he:b0=id
    ·have d:(b0==id)=true:=by simpa using he
     have hr:=HA2.out he
     have HR2:=hD0 hr
     clear he hr
     go_wp2
     go_ret
     exact⟨_,rfl,HG.out,HR2.out⟩
    ·have d:(b0==id)=false:=by simpa using he
     have HS2:=hD0 (HS.out he)
     clear he HS HA2
     go_wp2
     go_roundw
     case rel=>exact⟨k+1,by omega,by go_num,HS2.out,HG2.out⟩
     case measure=>simp[intOf];omega
   ·obtain rfl:k=q.length:=by omega
    rw[List.take_length] at hf
    have HF:=hD0 hf
    clear hf hG
    go_wp2
    go_ret
    exact⟨-1,rfl,HG.out,.inl ⟨rfl,HF.out⟩⟩
def Zyd(q:List Rq)(i:Int):Prop:=(i = -1∧∀a∈q,a.md≠0)∨∃k:Nat,i=k∧∃h:k<q.length,q[k].md=0∧∀a∈q.take k,a.md≠0
theorem Z1o{α:Type}{l:List α}{k:Nat}(hk:k<l.length){x:α}(hx:x∈l.take (k+1)):x∈l.take k∨x=l[k]:=by
 rw[List.take_add_one,List.getElem?_eq_getElem hk] at hx
 rcases List.mem_append.1 hx with h | h
 ·exact .inl h
 ·simp at h;exact .inr h
theorem Z9l(t r W:Int)(v:Value)(q:List Rq)(w:World)(hl:q.length≤1000)(h:Zl w v q) :
  Calls prog 82 #[Yf t r v W] w fun e w'=>∃i,e=.returned (.int .i64 i)∧Nw w w'∧Zyd q i:=by
 unfold Yf
 obtain⟨a,c,rfl,⟨rfl,_⟩ | ⟨b,o,rfl,hc⟩⟩:=h
 ·go_enter func82,ntmps82
  go_wp2
  refine wp_loop_rounds 1 ?_
  repeat (rw[rounds_succ];go_wp2)
  go_ret
  exact⟨-1,rfl,(Nw.refl _).alloc _,.inl ⟨rfl,by simp⟩⟩
 ·have HC:=hD0 hc
  clear hc
  go_enter func82,ntmps82
  go_wp2
  have hB:=Z63.made w t r (.slice (some ⟨b,o,none⟩) q.length c) W 63
  have hN:Nw w (w.alloc (.cells #[.int .i64 t,.int .i64 r,.slice (some ⟨b,o,none⟩) q.length c,.int .i64 W] 63)):=(Nw.refl w).alloc _
  obtain⟨p,hp⟩:∃p,w.heap.size=p:=⟨_,rfl⟩
  rw[hp] at hB
  rw[hp]
  clear hp
  generalize w.alloc (.cells #[.int .i64 t,.int .i64 r,.slice (some ⟨b,o,none⟩) q.length c,.int .i64 W] 63)=z at *
  have HZ:=hD0 (aI0 hB hN)
  have HR:=hD0 (HC.out.nw hN)
  clear hB hN HC
  go_loopw [3] (fun i wr=>∃k:Nat,k≤q.length∧i=.int .i64 k∧(∀a∈q.take k,a.md≠0)∧Nw z wr) (fun i _=>q.length-(intOf i).toNat)
  case atStart=>exact⟨0,Nat.zero_le _,rfl,by simp,Nw.refl _⟩
  case round =>
   obtain⟨k,hk,rfl,hf,hG⟩:=hrel
   have hb:=HZ.out.1.nw hG
   have h0:=hb.c0
   have h1:=hb.c1
   have h2:=hb.c2
   have h3:=hb.c3
   clear hb
   by_cases hlt:k<q.length
   ·have hce:=(HR.out.nw hG).cell k hlt
    have HA2:=hD0 (show q[k].md=0→Zyd q (k:Int) from fun e=>.inr ⟨k,rfl,hlt,e,hf⟩)
    have HS:=hD0 (show q[k].md≠0→∀a∈q.take (k+1),a.md≠0 from fun e a ha=>by
     rcases Z1o hlt ha with h | rfl
     ·exact hf a h
     ·exact e)
    generalize q[k]=R at *
    obtain⟨b0,b1,b2,b3,b4⟩:=R
    have e0:=hce 0 _ rfl
    have e1:=hce 1 _ rfl
    have e2:=hce 2 _ rfl
    have e3:=hce 3 _ rfl
    have e4:=hce 4 _ rfl
    simp only[Nat.add_zero] at e0
    have HG:=hD0 hG
    clear hce hf hG
    go_wp2_with fail
    refine(Z32 _ _ _ _ _ _).mono ?_
    rintro e w2 ⟨rfl,g2⟩
    have HG3:=hD0 (HG.out.trans g2)
    have n0:=g2.kp h0
    have n1:=g2.kp h1
    have n2:=g2.kp h2
    have n3:=g2.kp h3
    clear h0 h1 h2 h3 e0 e1 e2 e3 e4 g2 HG
    by_cases he:b2=0
    ·have d:(b2 != 0)=false:=by simpa using he
     have HR2:=hD0 (HA2.out he)
     clear he HA2 HS
     go_wp2
     go_ret
     exact⟨_,rfl,HZ.out.2.trans HG3.out,HR2.out⟩
    ·have d:(b2 != 0)=true:=by simpa using he
     have HS2:=hD0 (HS.out he)
     clear he HS HA2
     go_wp2
     go_roundw
     case rel=>exact⟨k+1,by omega,by go_num,HS2.out,HG3.out⟩
     case measure=>simp[intOf];omega
   ·obtain rfl:k=q.length:=by omega
    rw[List.take_length] at hf
    have HF:=hD0 hf
    have HG:=hD0 hG
    clear hf hG
    go_wp2
    go_ret
    exact⟨-1,rfl,HZ.out.2.trans HG.out,.inl ⟨rfl,HF.out⟩⟩
def Z67(q:List Rq)(m but:Int):Prop:=∀k (h:k<q.length),(k:Int)≠but→q[k].md≠0→U2 q[k].md m=true
theorem Zfx(t r W m but:Int)(v:Value)(q:List Rq)(w:World)(hl:q.length≤1000)(h:Zl w v q) :
  Calls prog 83 #[Yf t r v W,.int .i64 m,.int .i64 but] w fun e w'=>∃f,e=.returned (.bool f)∧Nw w w'∧(f=true↔Z67 q m but):=by
 unfold Yf
 obtain⟨a,c,rfl,⟨rfl,_⟩ | ⟨b,o,rfl,hc⟩⟩:=h
 ·go_enter func83,ntmps83
  go_wp2
  refine wp_loop_rounds 1 ?_
  repeat (rw[rounds_succ];go_wp2)
  go_ret
  exact⟨true,rfl,(Nw.refl _).alloc _,by simp[Z67]⟩
 ·have HC:=hD0 hc
  clear hc
  go_enter func83,ntmps83
  go_wp2
  have hB:=Z63.made w t r (.slice (some ⟨b,o,none⟩) q.length c) W 63
  have hN:Nw w (w.alloc (.cells #[.int .i64 t,.int .i64 r,.slice (some ⟨b,o,none⟩) q.length c,.int .i64 W] 63)):=(Nw.refl w).alloc _
  obtain⟨p,hp⟩:∃p,w.heap.size=p:=⟨_,rfl⟩
  rw[hp] at hB
  rw[hp]
  clear hp
  generalize w.alloc (.cells #[.int .i64 t,.int .i64 r,.slice (some ⟨b,o,none⟩) q.length c,.int .i64 W] 63)=z at *
  have HZ:=hD0 (aI0 hB hN)
  have HR:=hD0 (HC.out.nw hN)
  clear hB hN HC
  go_loopw [7] (fun i wr=>∃k:Nat,k≤q.length∧i=.int .i64 k∧(∀j (h:j<q.length),j<k→(j:Int)≠but→q[j].md≠0→U2 q[j].md m=true)∧Nw z wr) (fun i _=>q.length-(intOf i).toNat)
  case atStart=>exact⟨0,Nat.zero_le _,rfl,fun j _ h=>absurd h (Nat.not_lt_zero _),Nw.refl _⟩
  case round =>
   obtain⟨k,hk,rfl,hf,hG⟩:=hrel
   have hb:=HZ.out.1.nw hG
   have h0:=hb.c0
   have h1:=hb.c1
   have h2:=hb.c2
   have h3:=hb.c3
   clear hb
   by_cases hlt:k<q.length
   ·have hRw:=HR.out.nw hG
    have hce:=hRw.cell k hlt
    have HA2:=hD0 (show(k:Int)≠but→q[k].md≠0→U2 q[k].md m=false→¬Z67 q m but from fun e1 e2 e3 h=>by
     have:=h k hlt e1 e2
     rw[e3] at this;cases this)
    have HS:=hD0 (show((k:Int)≠but→q[k].md≠0→U2 q[k].md m=true)→∀j (h:j<q.length),j<k+1→(j:Int)≠but→q[j].md≠0→U2 q[j].md m=true from fun e j hj hjk=>by
     rcases Nat.lt_or_ge j k with g | g
     ·exact hf j hj g
     ·obtain rfl:j=k:=by omega
      exact e)
    have hCP:=fun w=>Zxf q[k].md m w
    generalize q[k]=R at *
    obtain⟨b0,b1,b2,b3,b4⟩:=R
    have e0:=hce 0 _ rfl
    have e1:=hce 1 _ rfl
    have e2:=hce 2 _ rfl
    have e3:=hce 3 _ rfl
    have e4:=hce 4 _ rfl
    simp only[Nat.add_zero] at e0
    have HG:=hD0 hG
    simp only at hCP
    obtain⟨x,hx⟩:∃x,U2 b2 m=x:=⟨_,rfl⟩
    simp only at HA2 HS
    have CP:=hD0 hCP
    clear hce hf hG hCP hRw
    by_cases hbu:(k:Int)=but
    ·have d:((k:Int) != but)=false:=by simpa using hbu
     have HS2:=hD0 (HS.out (fun e=>absurd hbu e))
     clear hbu HS HA2 CP hx
     go_wp2
     go_roundw
     case rel=>exact⟨k+1,by omega,by go_num,HS2.out,HG.out⟩
     case measure=>simp[intOf];omega
    ·have d:((k:Int) != but)=true:=by simpa using hbu
     by_cases he:b2=0
     ·have d2:(b2 != 0)=false:=by simpa using he
      have HS2:=hD0 (HS.out (fun _ e=>absurd he e))
      clear hbu he HS HA2 CP hx
      go_wp2_with fail
      refine(Z32 _ _ _ _ _ _).mono ?_
      rintro e w2 ⟨rfl,g2⟩
      have HG3:=hD0 (HG.out.trans g2)
      have n0:=g2.kp h0
      have n1:=g2.kp h1
      have n2:=g2.kp h2
      have n3:=g2.kp h3
      clear h0 h1 h2 h3 e0 e1 e2 e3 e4 g2 HG
      go_wp2
      go_roundw
      case rel=>exact⟨k+1,by omega,by go_num,HS2.out,HG3.out⟩
      case measure=>simp[intOf];omega
     ·have d2:(b2 != 0)=true:=by simpa using he
      have HA3:=hD0 (HA2.out hbu he)
      have HS3:=hD0 (show U2 b2 m=true→_ from fun c=>HS.out (fun _ _=>c))
      clear hbu he HS HA2
      go_wp2_with fail
      refine(Z32 _ _ _ _ _ _).mono ?_
      rintro e w2 ⟨rfl,g2⟩
      replace h0:=g2.kp h0
      replace h1:=g2.kp h1
      replace h2:=g2.kp h2
      replace h3:=g2.kp h3
      replace e0:=g2.kp e0
      replace e1:=g2.kp e1
      replace e2:=g2.kp e2
      replace e3:=g2.kp e3
      replace e4:=g2.kp e4
      have HG3:=hD0 (HG.out.trans g2)
      clear g2 HG
      go_wp2_with fail
      refine(CP.out _).mono ?_
      rintro e w3 ⟨rfl,g3⟩
      have HG4:=hD0 (HG3.out.trans g3)
      have n0:=g3.kp h0
      have n1:=g3.kp h1
      have n2:=g3.kp h2
      have n3:=g3.kp h3
      clear h0 h1 h2 h3 e0 e1 e2 e3 e4 g3 HG3 CP
      cases x
      ·have HA4:=hD0 (HA3.out hx)
       clear HA3 HS3
       go_wp2
       go_ret
       exact⟨false,rfl,HZ.out.2.trans HG4.out,by simpa using HA4.out⟩
      ·have HS4:=hD0 (HS3.out hx)
       clear HA3 HS3
       go_wp2
       go_roundw
       case rel=>exact⟨k+1,by omega,by go_num,HS4.out,HG4.out⟩
       case measure=>simp[intOf];omega
   ·obtain rfl:k=q.length:=by omega
    have HF:=hD0 (show Z67 q m but from fun k hk=>hf k hk hk)
    have HG:=hD0 hG
    clear hf hG
    go_wp2
    go_ret
    exact⟨true,rfl,HZ.out.2.trans HG.out,by simpa using HF.out⟩
def Z3n(a:Rq):Prop:=a.md≠0∧0<a.sn
theorem Zlu{W:Int}{q:List Rq}{r:Rq}(h:Ok W q)(hr:r∈q)(hs:0<r.sn)(hb:∀o∈q,o.id≠r.id→blk r o=false):V4 q r=true:=by
 unfold V4
 rw[Bool.and_eq_true]
 refine⟨by simpa using hs,List.all_eq_true.2 fun o ho=>?_⟩
 by_cases e:o.id=r.id
 ·simp[e]
 ·simp[hb o ho e]
theorem Z6o{q:List Rq}{r o:Rq}(ho:o∈q)(ne:o.id≠r.id)(hb:blk r o=true):V4 q r=false:=by
 cases e:V4 q r with
 | false=>rfl
 | true =>
  have:=Z5h e ho ne
  rw[hb] at this;cases this
theorem Z8t{r o:Rq}(hm:o.md≠0)(hc:U2 o.md r.wt=false):blk r o=true:=by simp[blk,hm,hc]
theorem Zr3{r o:Rq}(hm:o.md≠0)(hs:0<o.sn)(h:r.md=0∨o.sn<r.sn):blk r o=true:=by
 rcases h with h | h<;>simp[blk,hm,hs,h]
theorem Zja{r o:Rq}(h1:r.md=0)(h2:o.md=0)(h3:o.sn<r.sn):blk r o=true:=by simp[blk,h1,h2,h3]
theorem Zh2{W:Int}{q:List Rq}(h:Ok W q){r:Rq}(hr:r∈q)(hu:Z3n r)(hmin:∀a∈q,Z3n a→r.sn≤a.sn)(hf:∀o∈q,o.id≠r.id→o.md≠0→U2 o.md r.wt=true):V4 q r=true :=
 Zlu h hr hu.2 fun o ho ne=>by
  have hz:=hu.1
  cases e:blk r o with
  | false=>rfl
  | true =>
   exfalso
   unfold blk at e
   simp only[Bool.or_eq_true,Bool.and_eq_true,bne_iff_ne,beq_iff_eq,Bool.not_eq_true',decide_eq_true_eq] at e
   rcases e with(⟨e1,e2⟩ | ⟨⟨e1,e2⟩,e3⟩) | ⟨⟨e1,_⟩,_⟩
   ·rw[hf o ho ne e1] at e2;cases e2
   ·rcases e3 with e3 | e3
    ·exact hz e3
    ·have:=hmin o ho ⟨e1,e2⟩;omega
   ·exact hz e1
theorem Zh3{W:Int}{q:List Rq}(h:Ok W q){k:Nat}(hk:k<q.length)(hz:q[k].md=0)(hfirst:∀a∈q.take k,a.md≠0)(hno:∀a∈q,¬Z3n a)(hf:∀o∈q,o.id≠q[k].id→o.md≠0→U2 o.md q[k].wt=true):V4 q q[k]=true :=
 Zlu h (gM0 hk) ((h.rt _ (gM0 hk)).w' hz) fun o ho ne=>by
  cases e:blk q[k] o with
  | false=>rfl
  | true =>
   exfalso
   unfold blk at e
   simp only[Bool.or_eq_true,Bool.and_eq_true,bne_iff_ne,beq_iff_eq,Bool.not_eq_true',decide_eq_true_eq] at e
   rcases e with(⟨e1,e2⟩ | ⟨⟨e1,e2⟩,_⟩) | ⟨⟨_,e1⟩,e2⟩
   ·rw[hf o ho ne e1] at e2;cases e2
   ·exact hno o ho ⟨e1,e2⟩
   ·obtain⟨j,hj,rfl⟩:=List.getElem_of_mem ho
    rcases Nat.lt_trichotomy j k with g | g | g
    ·exact hfirst _ (List.mem_take_iff_getElem.2 ⟨j,by omega,rfl⟩) e1
    ·subst g;exact ne rfl
    ·have:=((List.pairwise_iff_getElem.1 h.pr k j hk hj g).ord hz).2;omega
theorem Zhc{W:Int}{q:List Rq}(h:Ok W q){r:Rq}(hr:r∈q)(hu:Z3n r)(hmin:∀a∈q,Z3n a→r.sn≤a.sn)(hf:∃o∈q,o.id≠r.id∧o.md≠0∧U2 o.md r.wt=false):Z02 q:=by
 intro s hs
 by_cases e:s.id=r.id
 ·obtain rfl:=h.inj s hs r hr e
  obtain⟨o,ho,ne,h1,h2⟩:=hf
  exact Z6o ho ne (Z8t h1 h2)
 ·cases c:V4 q s with
  | false=>rfl
  | true =>
   have hsn:=Z13 c
   rw[Z6o hr (fun x=>e x.symm) (Zr3 hu.1 hu.2 ?_)] at c
   ·cases c
   ·by_cases z:s.md=0
    ·exact .inl z
    ·refine .inr ?_
     have h1:=hmin s hs ⟨z,hsn⟩
     have h2:r.sn≠s.sn:=fun x=>e (by rw[h.injS r hr s hs hu.2 x])
     omega
theorem Zhd{W:Int}{q:List Rq}(h:Ok W q){k:Nat}(hk:k<q.length)(hz:q[k].md=0)(hfirst:∀a∈q.take k,a.md≠0)(hno:∀a∈q,¬Z3n a)(hf:∃o∈q,o.id≠q[k].id∧o.md≠0∧U2 o.md q[k].wt=false):Z02 q:=by
 intro s hs
 by_cases e:s.id=q[k].id
 ·obtain rfl:=h.inj s hs _ (gM0 hk) e
  obtain⟨o,ho,ne,h1,h2⟩:=hf
  exact Z6o ho ne (Z8t h1 h2)
 ·cases c:V4 q s with
  | false=>rfl
  | true =>
   have hsn:=Z13 c
   have hsz:s.md=0:=by
    refine Classical.byContradiction fun z=>hno s hs ⟨z,hsn⟩
   obtain⟨j,hj,rfl⟩:=List.getElem_of_mem hs
   rcases Nat.lt_trichotomy j k with g | g | g
   ·exact absurd hsz (hfirst _ (List.mem_take_iff_getElem.2 ⟨j,by omega,rfl⟩))
   ·subst g;exact absurd rfl e
   ·have:=((List.pairwise_iff_getElem.1 h.pr k j hk hj g).ord hz).2
    rw[Z6o (gM0 hk) (fun x=>e x.symm) (Zja hsz hz this)] at c
    cases c
theorem Zjm{q:List Rq}(hno:∀a∈q,¬Z3n a)(hw:∀a∈q,a.md≠0):Z02 q:=by
 intro s hs
 cases c:V4 q s with
 | false=>rfl
 | true=>exact absurd ⟨hw s hs,Z13 c⟩ (hno s hs)
structure Wd(S:World→Prop):Type where
 w:World
 h:S w
theorem Zf{P:Program}{id:Nat}{Q:Exit→Act→World→Prop}{a:Act}{w:World}{l:List Oper}(S:World→Prop)(hm:P.follows .mixedOrders=true)(hB:Region.lexB .any l.toArray=true)(hS:S w.drew)
  (h:wpQuiet P l.toArray (fun w'=>∃d:Wd S,w'=d.w) (fun a'=>∀d:Wd S,Q .normal a' d.w) l a):(Code.region id l.toArray true).wp P Q a w:=by
 refine wp_region_quiet (C:=fun w'=>∃d:Wd S,w'=d.w) hm hB ⟨⟨w.drew,hS⟩,rfl⟩ ?_
 have e:(fun a'=>∀w',(∃d:Wd S,w'=d.w)→Q .normal a' w')=(fun a'=>∀d:Wd S,Q .normal a' d.w):=by
  funext a'
  exact propext ⟨fun H d=>H _ ⟨d,rfl⟩,fun H _ ⟨d,hd⟩=>hd▸H d⟩
 rw[e]
 simpa using h
theorem Zd{P:Program}{f:FuncId}{args:Array Value}{S:World→Prop}(hS:∀a b,S a→Nw a b→S b){d:Wd S}{v:Value}
  (h:Calls P f args d.w fun e w'=>e=.returned v∧Nw d.w w'):Calls P f args d.w fun e w''=>e=.returned v∧∃d':Wd S,w''=d'.w :=
 h.mono fun _ w'' ⟨he,hg⟩=>⟨he,⟨w'',hS _ _ d.h hg⟩,rfl⟩
section
open Go
def Vp(ops:Array Oper)(o:Oper):Option Tmp × List Tmp × List Nat:=(o.dst,o.looksAt ops,(o.after.toList.filter (Region.binds .any)).map (·.on))
def Z9i(k:Nat)(x y:Option Tmp × List Tmp × List Nat):Bool :=
 y.2.2.contains k || ((match x.1 with
  | some d=>!y.2.1.contains d&&y.1 != some d
  | none=>true)&&(match y.1 with
  | some d=>!x.2.1.contains d
  | none=>true))
end
section
open Go
def Vs(k:Nat)(q:Option (Nat × Option Tmp × List Tmp × List Nat))(e:Nat):Bool :=
 decide (e<k)&&(match q with
  | some y=>!(e==y.1)
  | none=>true)
def Z5i:List (Option Bool)→Nat→List (Option Tmp × List Tmp × List Nat)→Option (Nat × Option Tmp × List Tmp × List Nat)→Bool
 | [],_,l,q=>l.isEmpty&&q.isNone
 | some true::fs,k,l,q =>
  match l with
  | []=>false
  | x::r=>x.2.2.all (Vs k q)&&r.all (Z9i k x)&&(match q with
   | some y=>Z9i k x y.2
   | none=>true)&&Z5i fs (k+1) r q
 | some false::fs,k,l,q =>
  match l,q with
  | x::r,none=>Z5i fs (k+1) r (some (k,x))
  | _,_=>false
 | none::fs,k,l,q =>
  match q with
  | some y=>y.2.2.2.all (Vs k q)&&l.all (fun x=>x.2.2.any fun e=>!Vs k q e)&&Z5i fs k l none
  | none=>false
def HW(P:Program)(ops:Array Oper)(Q:Exit→Act→World→Prop)(S:World→Prop):List (Option Bool)→List Oper→Option Oper→Act→World→Prop
 | [],_,_,a,w=>Q .normal a w
 | some true::fs,l,q,a,w =>
  match l with
  | []=>False
  | o::r=>∃v,YieldsIf P ops S o v a∧HW P ops Q S fs r q (a.put o.dst v) w
 | some false::fs,l,q,a,w =>
  match l,q with
  | o::r,none=>HW P ops Q S fs r (some o) a w
  | _,_=>False
 | none::fs,l,q,a,w =>
  match q with
  | some o=>∀K':Act→World→Prop,Shut (∀a w,S w→(S w→HW P ops Q S fs l none a w)→K' a w)→if Region.wanted o (yielded ops a.tmps)=true then Oper.wp P o a w K' Q else K' (a.put o.dst undef) w
  | none=>False
section
variable {P:Program} {ops:Array Oper} {Q:Exit→Act→World→Prop} {S:World→Prop}
theorem HW.end_{l:List Oper}{q:Option Oper}{a:Act}{w:World}(h:Q .normal a w):HW P ops Q S [] l q a w:=h
theorem HW.take'{fs:List (Option Bool)}{o:Oper}{r:List Oper}{q:Option Oper}{a:Act}{w:World}(h:∃v,YieldsIf P ops S o v a∧HW P ops Q S fs r q (a.put o.dst v) w):HW P ops Q S (some true::fs) (o::r) q a w:=h
theorem HW.off{fs:List (Option Bool)}{o:Oper}{r:List Oper}{a:Act}{w:World}(h:HW P ops Q S fs r (some o) a w):HW P ops Q S (some false::fs) (o::r) none a w:=h
theorem HW.go{fs:List (Option Bool)}{o:Oper}{l:List Oper}{a:Act}{w:World}
  (h:∀K':Act→World→Prop,Shut (∀a w,S w→(S w→HW P ops Q S fs l none a w)→K' a w)→if Region.wanted o (yielded ops a.tmps)=true then Oper.wp P o a w K' Q else K' (a.put o.dst undef) w):HW P ops Q S (none::fs) l (some o) a w:=h
theorem Z3x{k:Nat}{o oj:Oper}(h:Z9i k (Vp ops o) (Vp ops oj)=true)(hno:∀e∈oj.after,Region.binds .any e=true→e.on≠k):o.apart ops oj=true:=by
 unfold Z9i at h
 rw[Bool.or_eq_true] at h
 rcases h with h | h
 ·obtain⟨e,he,heq⟩:=List.mem_map.1 (List.contains_iff_mem.1 h)
  obtain⟨he1,he2⟩:=List.mem_filter.1 he
  exact absurd heq (hno e (Array.mem_toList_iff.1 he1) he2)
 ·exact h
theorem HW.run(hs:Region.noSelect ops=true)(hQ:∀c a d v w,Q (.panic c) (Act.put a d v) w→Q (.panic c) a w):∀(fs:List (Option Bool)) (k:Nat) (l:List Oper) (qi:Option (Nat × Oper)) (listed:Array Bool) (a:Act) (w:World),
  (∀j,l[j]?=ops[k+j]?)→k+l.length=ops.size→(∀p,qi=some p→ops[p.1]?=some p.2∧p.1<k)→listed.size=ops.size →
  (∀j,j<ops.size→(listed.getD j false=true↔Vs k (qi.map fun p=>(p.1,Vp ops p.2)) j=true)) →
  Z5i fs k (l.map (Vp ops)) (qi.map fun p=>(p.1,Vp ops p.2))=true→S w→HW P ops Q S fs l (qi.map (·.2)) a w →
  wpAnyH P .any ops Q S (l.length+(qi.map fun _=>1).getD 0) listed a w
 | [],k,l,qi,listed,a,w,hl,hn,hq,hsz,hD,hB,hS,h=>by
  unfold Z5i at hB
  rw[Bool.and_eq_true] at hB
  obtain rfl:l=[]:=by cases l with
   | nil=>rfl
   | cons o r=>simp at hB
  obtain rfl:qi=none:=by cases qi with
   | none=>rfl
   | some p=>simp at hB
  refine wpAnyH_done ?_ h _
  rw[List.eq_nil_iff_forall_not_mem]
  intro j hj
  obtain⟨h1,o,ho,_⟩:=mem_ready.1 hj
  have hlt:j<ops.size:=(Array.getElem?_eq_some_iff.1 ho).1
  have h2:=(hD j hlt).2 (by unfold Vs;simp at hn ⊢;omega)
  simp[hsz,hlt] at h1 h2
  rw[h1] at h2
  cases h2
 | some true::fs,k,[],qi,listed,a,w,hl,hn,hq,hsz,hD,hB,hS,h=>by unfold Z5i at hB;simp at hB
 | some true::fs,k,o::r,qi,listed,a,w,hl,hn,hq,hsz,hD,hB,hS,h=>by
  have h0:ops[k]?=some o:=by simpa using(hl 0).symm
  have hk:k<ops.size:=(Array.getElem?_eq_some_iff.1 h0).1
  simp only[List.map_cons,Z5i,Bool.and_eq_true,List.all_eq_true] at hB
  obtain⟨⟨⟨hd,hp⟩,hpq⟩,hB'⟩:=hB
  obtain⟨v,hy,hK⟩:=h
  have hnk:∀p,qi=some p→p.1≠k:=fun p hp=>Nat.ne_of_lt (hq p hp).2
  have hun:listed.getD k true=false:=by
   have h1:¬listed.getD k false=true:=fun e=>by
    have:=(hD k hk).1 e
    unfold Vs at this
    simp at this
   simp[hsz,hk] at h1 ⊢
   exact h1
  have hr:k∈Region.ready .any ops listed:=by
   refine mem_ready.2 ⟨hun,o,h0,fun e he hb=>?_⟩
   have hdn:=hd e.on (List.mem_map.2 ⟨e,List.mem_filter.2 ⟨Array.mem_toList_iff.2 he,hb⟩,rfl⟩)
   have hek:e.on<k:=by unfold Vs at hdn;simp at hdn;exact hdn.1
   exact(hD e.on (by omega)).2 hdn
  have hfree:∀j oj,ops[j]?=some oj→j≠k→listed.getD j true=false→(∀e∈oj.after,Region.binds .any e=true→e.on≠k)→o.apart ops oj=true:=by
   intro j oj hoj hne hju hno
   have hj:j<ops.size:=(Array.getElem?_eq_some_iff.1 hoj).1
   have hnd:¬Vs k (qi.map fun p=>(p.1,Vp ops p.2)) j=true:=fun e=>by
    have:=(hD j hj).2 e
    simp[hsz,hj] at this hju
    rw[this] at hju
    cases hju
   rcases Nat.lt_or_ge j k with g | g
   ·cases hqi:qi with
    | none=>rw[hqi] at hnd;exact absurd (by unfold Vs;simp[g]) hnd
    | some p =>
     rw[hqi] at hnd hpq
     have hjp:j=p.1:=by
      rcases Nat.decEq j p.1 with h | h
      ·exact absurd (by unfold Vs;simp[g,h]) hnd
      ·exact h
     have hpo:=(hq p hqi).1
     rw[←hjp,hoj] at hpo
     obtain rfl:=Option.some.inj hpo
     exact Z3x hpq hno
   ·have hlj:=hl (j-k)
    rw[show k+(j-k)=j by omega,hoj,show j-k=(j-k-1)+1 by omega,List.getElem?_cons_succ] at hlj
    exact Z3x (hp _ (List.mem_map.2 ⟨oj,List.mem_of_getElem? hlj,rfl⟩)) hno
  have ih:=HW.run hs hQ fs (k+1) r qi (listed.setIfInBounds k true) (a.put o.dst v) w (fun j=>by
    have:=hl (j+1)
    simpa [Nat.add_assoc,Nat.add_comm 1 j] using this) (by simp at hn;omega) (fun p hp=>⟨(hq p hp).1,Nat.lt_succ_of_lt (hq p hp).2⟩) (by simpa using hsz) (fun j hj=>by
    by_cases hjk:k=j
    ·subst hjk
     have h1:(listed.setIfInBounds k true).getD k false=true:=by simp[hsz,hk]
     refine⟨fun _=>?_,fun _=>h1⟩
     unfold Vs
     cases hqi:qi with
     | none=>simp
     | some p=>have:=hnk p hqi;simp;exact fun e=>this e.symm
    ·rw[getD_set_ne false hjk,hD j hj]
     unfold Vs
     have:decide (j<k+1)=decide (j<k):=decide_eq_decide.2 (by omega)
     rw[this]) hB' hS hK
  rw[show(o::r).length+(qi.map fun _=>1).getD 0=(r.length+(qi.map fun _=>1).getD 0)+1 by simp;omega]
  exact wpAnyH_first h0 (Region.noSelect_spec hs) (fun c a w=>hQ c a _ _ w) _ listed a w hfree hr hy hS ih
 | some false::fs,k,[],qi,listed,a,w,hl,hn,hq,hsz,hD,hB,hS,h=>by unfold Z5i at hB;simp at hB
 | some false::fs,k,o::r,some p,listed,a,w,hl,hn,hq,hsz,hD,hB,hS,h=>by unfold Z5i at hB;simp at hB
 | some false::fs,k,o::r,none,listed,a,w,hl,hn,hq,hsz,hD,hB,hS,h=>by
  have h0:ops[k]?=some o:=by simpa using(hl 0).symm
  have ih:=HW.run hs hQ fs (k+1) r (some (k,o)) listed a w (fun j=>by
    have:=hl (j+1)
    simpa [Nat.add_assoc,Nat.add_comm 1 j] using this) (by simp at hn;omega) (fun p hp=>by obtain rfl:=Option.some.inj hp;exact⟨h0,Nat.lt_succ_self _⟩) hsz (fun j hj=>by
    rw[hD j hj]
    unfold Vs
    simp
    omega) (by unfold Z5i at hB;exact hB) hS h
  exact ih
 | none::fs,k,l,none,listed,a,w,hl,hn,hq,hsz,hD,hB,hS,h=>by unfold Z5i at hB;simp at hB
 | none::fs,k,l,some p,listed,a,w,hl,hn,hq,hsz,hD,hB,hS,h=>by
  obtain⟨i,o⟩:=p
  obtain⟨h0,hik⟩:=hq (i,o) rfl
  have hi:i<ops.size:=(Array.getElem?_eq_some_iff.1 h0).1
  simp only[Option.map_some,Z5i,Bool.and_eq_true,List.all_eq_true,List.any_eq_true] at hB
  obtain⟨⟨hd,hw⟩,hB'⟩:=hB
  have hDu:∀j,j<ops.size→¬Vs k (some (i,Vp ops o)) j=true→listed.getD j true=false:=fun j hj hnd=>by
   have h1:¬listed.getD j false=true:=fun e=>hnd ((hD j hj).1 e)
   simp[hsz,hj] at h1 ⊢
   exact h1
  have hr:i∈Region.ready .any ops listed:=by
   refine mem_ready.2 ⟨hDu i hi (by unfold Vs;simp),o,h0,fun e he hb=>?_⟩
   have hdn:=hd e.on (List.mem_map.2 ⟨e,List.mem_filter.2 ⟨Array.mem_toList_iff.2 he,hb⟩,rfl⟩)
   have hek:e.on<k:=by unfold Vs at hdn;simp at hdn;exact hdn.1
   exact(hD e.on (by omega)).2 hdn
  refine⟨fun hz=>(by rw[hz] at hr;cases hr),fun j hj=>?_⟩
  have hji:j=i:=by
   obtain⟨h1,oj,hoj,hall⟩:=mem_ready.1 hj
   have hjs:j<ops.size:=(Array.getElem?_eq_some_iff.1 hoj).1
   rcases Nat.decEq j i with hne | he
   case isTrue=>exact he
   exfalso
   have hnd:¬Vs k (some (i,Vp ops o)) j=true:=fun e=>by
    have:=(hD j hjs).2 e
    simp[hsz,hjs] at this h1
    rw[this] at h1
    cases h1
   have hjk:k≤j:=by
    rcases Nat.lt_or_ge j k with g | g
    ·exact absurd (by unfold Vs;simp[g,hne]) hnd
    ·exact g
   have hlj:=hl (j-k)
   rw[show k+(j-k)=j by omega,hoj] at hlj
   obtain⟨e,he,hen⟩:=hw _ (List.mem_map.2 ⟨oj,List.mem_of_getElem? hlj,rfl⟩)
   obtain⟨ea,hea,rfl⟩:=List.mem_map.1 he
   obtain⟨he1,he2⟩:=List.mem_filter.1 hea
   have hls:=hall ea (Array.mem_toList_iff.1 he1) he2
   have hlt:ea.on<ops.size:=by
    rcases Nat.lt_or_ge ea.on ops.size with g | g
    ·exact g
    ·rw[←hsz] at g;simp[Array.getElem?_eq_none g] at hls
   have h3:=(hD ea.on hlt).1 hls
   simp only[Option.map_some] at h3
   rw[h3] at hen
   cases hen
  subst hji
  refine wpOp_step h0 (fun K' hK=>h K' (fun a' w' hS' hW=>hK a' w' ⟨hS',?_⟩))
  exact HW.run hs hQ fs k l none (listed.setIfInBounds j true) a' w' hl hn (fun p hp=>by cases hp) (by simpa using hsz) (fun m hm=>by
   by_cases hmj:j=m
   ·subst hmj
    have h1:(listed.setIfInBounds j true).getD j false=true:=by simp[hsz,hi]
    exact⟨fun _=>by unfold Vs;simp[hik],fun _=>h1⟩
   ·rw[getD_set_ne false hmj,hD m hm]
    unfold Vs
    have:¬m=j:=fun e=>hmj e.symm
    simp[this]) hB' hS' (hW hS')
theorem Z8{id:Nat}{a:Act}{w:World}{l:List Oper}(fs:List (Option Bool))(S:World→Prop)(hm:P.follows .mixedOrders=true)(hs:Region.noSelect l.toArray=true)
  (hB:Z5i fs 0 (l.map (Vp l.toArray)) none=true) (hS:S w.drew) (h:HW P l.toArray (NoPanic Q) S fs l none a w.drew):(Code.region id l.toArray true).wp P Q a w:=by
 refine wp_region_noPanic (wp_region_held (S:=S) hm ?_)
 have:=HW.run hs (fun c a d v w h=>h) fs 0 l none (Array.replicate l.toArray.size false) a w.drew (by simp) (by simp) (fun p hp=>by cases hp) (by simp) (fun j hj=>by unfold Vs;simp at hj ⊢;simp[hj]) hB hS h
 simpa using this
end
end
section
open Go
inductive Pl where
 | fin
 | take (p:Pl)
 | off (p:Pl)
 | go1 (p:Pl)
 | go2 (p q:Pl)
abbrev Inf:=Option Tmp × List Tmp × List Nat
def Uv(k:Nat)(qs:List (Nat × Inf))(e:Nat):Bool:=decide (e<k)&&qs.all fun y=>!(e==y.1)
def Z1l:Pl→Nat→List Inf→List (Nat × Inf)→Bool
 | .fin,_,l,qs=>l.isEmpty&&qs.isEmpty
 | .take p,k,l,qs =>
  match l with
  | []=>false
  | x::r=>x.2.2.all (Uv k qs)&&r.all (Z9i k x)&&qs.all (fun y=>Z9i k x y.2)&&Z1l p (k+1) r qs
 | .off p,k,l,qs =>
  match l with
  | []=>false
  | x::r=>Z1l p (k+1) r (qs++[(k,x)])
 | .go1 p,k,l,qs =>
  match qs with
  | [y]=>y.2.2.2.all (Uv k qs)&&l.all (fun x=>x.2.2.any fun e=>!Uv k qs e)&&Z1l p k l []
  | _=>false
 | .go2 p q,k,l,qs =>
  match qs with
  | [y,z]=>y.2.2.2.all (Uv k qs)&&z.2.2.2.all (Uv k qs)&&!(y.1==z.1)&&l.all (fun x=>x.2.2.any fun e=>!Uv k qs e)&&Z1l p k l [z]&&Z1l q k l [y]
  | _=>false
def HP(P:Program)(ops:Array Oper)(Q:Exit→Act→World→Prop)(S:World→Prop):Pl→List Oper→List Oper→Act→World→Prop
 | .fin,_,_,a,w=>Q .normal a w
 | .take p,l,qs,a,w =>
  match l with
  | []=>False
  | o::r=>∃v,YieldsIf P ops S o v a∧HP P ops Q S p r qs (a.put o.dst v) w
 | .off p,l,qs,a,w =>
  match l with
  | []=>False
  | o::r=>HP P ops Q S p r (qs++[o]) a w
 | .go1 p,l,qs,a,w =>
  match qs with
  | [o]=>∀K':Act→World→Prop,Shut (∀a w,S w→(S w→HP P ops Q S p l [] a w)→K' a w)→if Region.wanted o (yielded ops a.tmps)=true then Oper.wp P o a w K' Q else K' (a.put o.dst undef) w
  | _=>False
 | .go2 p q,l,qs,a,w =>
  match qs with
  | [o,o']=>(∀K':Act→World→Prop,Shut (∀a w,S w→(S w→HP P ops Q S p l [o'] a w)→K' a w)→if Region.wanted o (yielded ops a.tmps)=true then Oper.wp P o a w K' Q else K' (a.put o.dst undef) w) ∧
    ∀K':Act→World→Prop,Shut (∀a w,S w→(S w→HP P ops Q S q l [o] a w)→K' a w)→if Region.wanted o' (yielded ops a.tmps)=true then Oper.wp P o' a w K' Q else K' (a.put o'.dst undef) w
  | _=>False
section
variable {P:Program} {ops:Array Oper} {Q:Exit→Act→World→Prop} {S:World→Prop}
theorem HP.end_{l qs:List Oper}{a:Act}{w:World}(h:Q .normal a w):HP P ops Q S .fin l qs a w:=h
theorem HP.take'{p:Pl}{o:Oper}{r qs:List Oper}{a:Act}{w:World}(h:∃v,YieldsIf P ops S o v a∧HP P ops Q S p r qs (a.put o.dst v) w):HP P ops Q S (.take p) (o::r) qs a w:=h
theorem HP.off{p:Pl}{o:Oper}{r qs:List Oper}{a:Act}{w:World}(h:HP P ops Q S p r (qs++[o]) a w):HP P ops Q S (.off p) (o::r) qs a w:=h
theorem HP.go1{p:Pl}{o:Oper}{l:List Oper}{a:Act}{w:World}
  (h:∀K':Act→World→Prop,Shut (∀a w,S w→(S w→HP P ops Q S p l [] a w)→K' a w)→if Region.wanted o (yielded ops a.tmps)=true then Oper.wp P o a w K' Q else K' (a.put o.dst undef) w):HP P ops Q S (.go1 p) l [o] a w:=h
def Z0t(ops:Array Oper)(qs:List (Nat × Oper)):List (Nat × Inf):=qs.map fun p=>(p.1,Vp ops p.2)
theorem Zu{k:Nat}{qs:List (Nat × Oper)}{e:Nat}:Uv k (Z0t ops qs) e=true↔e<k∧∀p∈qs,e≠p.1:=by
 unfold Uv Z0t
 simp
structure HI(ops:Array Oper)(k:Nat)(l:List Oper)(qs:List (Nat × Oper))(listed:Array Bool):Prop where
 rest:∀j,l[j]?=ops[k+j]?
 len:k+l.length=ops.size
 put:∀p∈qs,ops[p.1]?=some p.2∧p.1<k
 size:listed.size=ops.size
 come:∀j,j<ops.size→(listed.getD j false=true↔Uv k (Z0t ops qs) j=true)
theorem HI.un{k:Nat}{l:List Oper}{qs:List (Nat × Oper)}{listed:Array Bool}(h:HI ops k l qs listed){j:Nat}(hj:j<ops.size)(hd:¬Uv k (Z0t ops qs) j=true):listed.getD j true=false:=by
 have h1:¬listed.getD j false=true:=fun e=>hd ((h.come j hj).1 e)
 have:=h.size
 simp[this,hj] at h1 ⊢
 exact h1
theorem HI.deps{k:Nat}{l:List Oper}{qs:List (Nat × Oper)}{listed:Array Bool}(h:HI ops k l qs listed)(hk:k≤ops.size){o:Oper}(hd:(Vp ops o).2.2.all (Uv k (Z0t ops qs))=true):∀e∈o.after,Region.binds .any e=true→listed.getD e.on false=true:=by
 intro e he hb
 have hdn:=List.all_eq_true.1 hd e.on (List.mem_map.2 ⟨e,List.mem_filter.2 ⟨Array.mem_toList_iff.2 he,hb⟩,rfl⟩)
 have hek:=(Zu.1 hdn).1
 exact(h.come e.on (by omega)).2 hdn
theorem HI.waits{k:Nat}{l:List Oper}{qs:List (Nat × Oper)}{listed:Array Bool}(h:HI ops k l qs listed)(hw:(l.map (Vp ops)).all (fun x=>x.2.2.any fun e=>!Uv k (Z0t ops qs) e)=true) :
  ∀j∈Region.ready .any ops listed,∃p∈qs,j=p.1:=by
 intro j hj
 obtain⟨h1,oj,hoj,hall⟩:=mem_ready.1 hj
 have hjs:j<ops.size:=(Array.getElem?_eq_some_iff.1 hoj).1
 have hnd:¬Uv k (Z0t ops qs) j=true:=fun e=>by
  have:=(h.come j hjs).2 e
  have hsz:=h.size
  simp[hsz,hjs] at this h1
  rw[h1] at this
  cases this
 rcases Nat.lt_or_ge j k with g | g
 ·refine Classical.byContradiction fun hne=>hnd (Zu.2 ⟨g,fun p hp e=>hne ⟨p,hp,e⟩⟩)
 ·exfalso
  have hlj:=h.rest (j-k)
  rw[show k+(j-k)=j by omega,hoj] at hlj
  have hx:=List.all_eq_true.1 hw _ (List.mem_map.2 ⟨oj,List.mem_of_getElem? hlj,rfl⟩)
  obtain⟨e,he,hen⟩:=List.any_eq_true.1 hx
  obtain⟨ea,hea,rfl⟩:=List.mem_map.1 he
  obtain⟨he1,he2⟩:=List.mem_filter.1 hea
  have hls:=hall ea (Array.mem_toList_iff.1 he1) he2
  have hlt:ea.on<ops.size:=by
   rcases Nat.lt_or_ge ea.on ops.size with g | g
   ·exact g
   ·have hsz:=h.size
    rw[←hsz] at g;simp[Array.getElem?_eq_none g] at hls
  have h3:=(h.come ea.on hlt).1 hls
  rw[h3] at hen
  cases hen
theorem HI.set{k k':Nat}{l l':List Oper}{qs qs':List (Nat × Oper)}{listed:Array Bool}(h:HI ops k l qs listed){i:Nat}(hi:i<ops.size)(hr:∀j,l'[j]?=ops[k'+j]?)(hlen:k'+l'.length=ops.size)(hput:∀p∈qs',ops[p.1]?=some p.2∧p.1<k')
  (hd:∀j,Uv k' (Z0t ops qs') j=true↔(j=i∨Uv k (Z0t ops qs) j=true)):HI ops k' l' qs' (listed.setIfInBounds i true):=by
 refine⟨hr,hlen,hput,by simpa using h.size,fun j hj=>?_⟩
 rw[hd]
 by_cases q:i=j
 ·subst q
  have h1:(listed.setIfInBounds i true).getD i false=true:=by simp[h.size,hi]
  exact⟨fun _=>.inl rfl,fun _=>h1⟩
 ·rw[getD_set_ne false q,h.come j hj]
  exact⟨fun x=>.inr x,fun x=>x.resolve_left fun e=>q e.symm⟩
theorem HP.run(hs:Region.noSelect ops=true)(hQ:∀c a d v w,Q (.panic c) (Act.put a d v) w→Q (.panic c) a w):∀(p:Pl) (k:Nat) (l:List Oper) (qs:List (Nat × Oper)) (listed:Array Bool) (a:Act) (w:World),
  HI ops k l qs listed→Z1l p k (l.map (Vp ops)) (Z0t ops qs)=true→S w→HP P ops Q S p l (qs.map (·.2)) a w→wpAnyH P .any ops Q S (l.length+qs.length) listed a w
 | .fin,k,l,qs,listed,a,w,hI,hB,hS,h=>by
  simp only[Z1l,Bool.and_eq_true,List.isEmpty_iff,List.map_eq_nil_iff,Z0t] at hB
  obtain⟨rfl,rfl⟩:=hB
  refine wpAnyH_done ?_ h _
  rw[List.eq_nil_iff_forall_not_mem]
  intro j hj
  obtain⟨q,hq,_⟩:=hI.waits (by simp) j hj
  simp at hq
 | .take p,k,[],qs,listed,a,w,hI,hB,hS,h=>by simp[Z1l] at hB
 | .take p,k,o::r,qs,listed,a,w,hI,hB,hS,h=>by
  have h0:ops[k]?=some o:=by simpa using(hI.rest 0).symm
  have hk:k<ops.size:=(Array.getElem?_eq_some_iff.1 h0).1
  simp only[List.map_cons,Z1l,Bool.and_eq_true] at hB
  obtain⟨⟨⟨hd,hp⟩,hpq⟩,hB'⟩:=hB
  obtain⟨v,hy,hK⟩:=h
  have hnk:∀q∈qs,q.1≠k:=fun q hq=>Nat.ne_of_lt (hI.put q hq).2
  have hkd:¬Uv k (Z0t ops qs) k=true:=fun e=>by have:=(Zu.1 e).1;omega
  have hun:=hI.un hk hkd
  have hr:k∈Region.ready .any ops listed:=mem_ready.2 ⟨hun,o,h0,hI.deps (by omega) hd⟩
  have hfree:∀j oj,ops[j]?=some oj→j≠k→listed.getD j true=false→(∀e∈oj.after,Region.binds .any e=true→e.on≠k)→o.apart ops oj=true:=by
   intro j oj hoj hne hju hno
   have hj:j<ops.size:=(Array.getElem?_eq_some_iff.1 hoj).1
   have hsz:=hI.size
   have hnd:¬Uv k (Z0t ops qs) j=true:=fun e=>by
    have:=(hI.come j hj).2 e
    simp[hsz,hj] at this hju
    rw[this] at hju
    cases hju
   rcases Nat.lt_or_ge j k with g | g
   ·obtain⟨q,hq,e⟩:∃q∈qs,j=q.1:=Classical.byContradiction fun hx=>hnd (Zu.2 ⟨g,fun q hq e=>hx ⟨q,hq,e⟩⟩)
    have hqo:=(hI.put q hq).1
    rw[←e,hoj] at hqo
    have e2:=Option.some.inj hqo
    have:=List.all_eq_true.1 hpq (q.1,Vp ops q.2) (List.mem_map.2 ⟨q,hq,rfl⟩)
    rw[←e2] at this
    exact Z3x this hno
   ·have hlj:=hI.rest (j-k)
    rw[show k+(j-k)=j by omega,hoj,show j-k=(j-k-1)+1 by omega,List.getElem?_cons_succ] at hlj
    exact Z3x (List.all_eq_true.1 hp _ (List.mem_map.2 ⟨oj,List.mem_of_getElem? hlj,rfl⟩)) hno
  have hlen:=hI.len
  have hI':HI ops (k+1) r qs (listed.setIfInBounds k true):=hI.set hk (fun j=>by
    have:=hI.rest (j+1)
    simpa [Nat.add_assoc,Nat.add_comm 1 j] using this) (by simp at hlen;omega) (fun q hq=>⟨(hI.put q hq).1,Nat.lt_succ_of_lt (hI.put q hq).2⟩) (fun j=>by
    rw[Zu,Zu]
    constructor
    ·rintro⟨h1,h2⟩
     by_cases q:j=k
     ·exact .inl q
     ·exact .inr ⟨by omega,h2⟩
    ·rintro(rfl | ⟨h1,h2⟩)
     ·exact⟨by omega,fun q hq e=>hnk q hq e.symm⟩
     ·exact⟨by omega,h2⟩)
  have ih:=HP.run hs hQ p (k+1) r qs (listed.setIfInBounds k true) (a.put o.dst v) w hI' hB' hS hK
  rw[show(o::r).length+qs.length=(r.length+qs.length)+1 by simp;omega]
  exact wpAnyH_first h0 (Region.noSelect_spec hs) (fun c a w=>hQ c a _ _ w) _ listed a w hfree hr hy hS ih
 | .off p,k,[],qs,listed,a,w,hI,hB,hS,h=>by simp[Z1l] at hB
 | .off p,k,o::r,qs,listed,a,w,hI,hB,hS,h=>by
  have h0:ops[k]?=some o:=by simpa using(hI.rest 0).symm
  have hlen:=hI.len
  have hI':HI ops (k+1) r (qs++[(k,o)]) listed:=⟨fun j=>by
    have:=hI.rest (j+1)
    simpa [Nat.add_assoc,Nat.add_comm 1 j] using this,by simp at hlen;omega,fun q hq=>by
    rcases List.mem_append.1 hq with hq | hq
    ·exact⟨(hI.put q hq).1,Nat.lt_succ_of_lt (hI.put q hq).2⟩
    ·simp at hq;subst hq;exact⟨h0,Nat.lt_succ_self _⟩,hI.size,fun j hj=>by
    rw[hI.come j hj,Zu,Zu]
    constructor
    ·rintro⟨h1,h2⟩
     refine⟨by omega,fun q hq=>?_⟩
     rcases List.mem_append.1 hq with hq | hq
     ·exact h2 q hq
     ·simp at hq;subst hq;show j≠k;omega
    ·rintro⟨h1,h2⟩
     have h3:=h2 (k,o) (by simp)
     exact⟨by simp only at h3;omega,fun q hq=>h2 q (List.mem_append_left _ hq)⟩⟩
  have hB':Z1l p (k+1) (r.map (Vp ops)) (Z0t ops (qs++[(k,o)]))=true:=by
   simp only[List.map_cons,Z1l] at hB
   simpa [Z0t] using hB
  have ih:=HP.run hs hQ p (k+1) r (qs++[(k,o)]) listed a w hI' hB' hS (by simpa [HP] using h)
  rw[show(o::r).length+qs.length=r.length+(qs++[(k,o)]).length by simp;omega]
  exact ih
 | .go1 p,k,l,[],listed,a,w,hI,hB,hS,h=>by simp[Z1l,Z0t] at hB
 | .go1 p,k,l,[(i,o)],listed,a,w,hI,hB,hS,h=>by
  obtain⟨h0,hik⟩:=hI.put (i,o) (by simp)
  simp only at h0 hik
  have hi:i<ops.size:=(Array.getElem?_eq_some_iff.1 h0).1
  simp only[Z1l,Z0t,List.map_cons,List.map_nil,Bool.and_eq_true] at hB
  obtain⟨⟨hd,hw⟩,hB'⟩:=hB
  have hkl:=hI.len
  have hr:i∈Region.ready .any ops listed:=mem_ready.2 ⟨hI.un hi fun e=>by have:=(Zu.1 e).2 (i,o) (by simp);exact this rfl,o,h0,hI.deps (by omega) hd⟩
  refine⟨fun hz=>(by rw[hz] at hr;cases hr),fun j hj=>?_⟩
  obtain⟨q,hq,hji⟩:=hI.waits hw j hj
  simp at hq
  subst hq
  simp only at hji
  subst hji
  refine wpOp_step h0 (fun K' hK=>h K' (fun a' w' hS' hW=>hK a' w' ⟨hS',?_⟩))
  have hI':HI ops k l [] (listed.setIfInBounds j true):=hI.set hi hI.rest hI.len (by simp) (fun m=>by
   rw[Zu,Zu]
   constructor
   ·rintro⟨h1,_⟩
    by_cases q:m=j
    ·exact .inl q
    ·exact .inr ⟨h1,fun p hp=>by simp at hp;subst hp;exact q⟩
   ·rintro(rfl | ⟨h1,_⟩)
    ·exact⟨hik,by simp⟩
    ·exact⟨h1,by simp⟩)
  exact HP.run hs hQ p k l [] _ a' w' hI' hB' hS' (hW hS')
 | .go1 p,k,l,_::_::_,listed,a,w,hI,hB,hS,h=>by simp[Z1l,Z0t] at hB
 | .go2 p q,k,l,[],listed,a,w,hI,hB,hS,h=>by simp[Z1l,Z0t] at hB
 | .go2 p q,k,l,[_],listed,a,w,hI,hB,hS,h=>by simp[Z1l,Z0t] at hB
 | .go2 p q,k,l,[(i,o),(i',o')],listed,a,w,hI,hB,hS,h=>by
  obtain⟨h0,hik⟩:=hI.put (i,o) (by simp)
  obtain⟨h0',hik'⟩:=hI.put (i',o') (by simp)
  simp only at h0 hik h0' hik'
  have hi:i<ops.size:=(Array.getElem?_eq_some_iff.1 h0).1
  have hi':i'<ops.size:=(Array.getElem?_eq_some_iff.1 h0').1
  simp only[Z1l,Z0t,List.map_cons,List.map_nil,Bool.and_eq_true] at hB
  obtain⟨⟨⟨⟨⟨hd,hd'⟩,hne⟩,hw⟩,hB1⟩,hB2⟩:=hB
  have hne':i≠i':=by simpa using hne
  have hkl:=hI.len
  have hr:i∈Region.ready .any ops listed:=mem_ready.2 ⟨hI.un hi fun e=>by have:=(Zu.1 e).2 (i,o) (by simp);exact this rfl,o,h0,hI.deps (by omega) hd⟩
  refine⟨fun hz=>(by rw[hz] at hr;cases hr),fun j hj=>?_⟩
  obtain⟨x,hx,hji⟩:=hI.waits hw j hj
  simp at hx
  rcases hx with rfl | rfl
  ·simp only at hji
   subst hji
   refine wpOp_step h0 (fun K' hK=>h.1 K' (fun a' w' hS' hW=>hK a' w' ⟨hS',?_⟩))
   have hI':HI ops k l [(i',o')] (listed.setIfInBounds j true):=hI.set hi hI.rest hI.len (fun p hp=>hI.put p (by simp at hp;simp[hp])) (fun m=>by
    rw[Zu,Zu]
    constructor
    ·rintro⟨h1,h2⟩
     by_cases q:m=j
     ·exact .inl q
     ·exact .inr ⟨h1,fun p hp=>by
       simp at hp
       rcases hp with rfl | rfl
       ·exact q
       ·exact h2 _ (by simp)⟩
    ·rintro(rfl | ⟨h1,h2⟩)
     ·exact⟨hik,fun p hp=>by simp at hp;subst hp;exact hne'⟩
     ·exact⟨h1,fun p hp=>h2 p (by simp at hp;simp[hp])⟩)
   have ih:=HP.run hs hQ p k l [(i',o')] _ a' w' hI' hB1 hS' (hW hS')
   exact ih
  ·simp only at hji
   subst hji
   refine wpOp_step h0' (fun K' hK=>h.2 K' (fun a' w' hS' hW=>hK a' w' ⟨hS',?_⟩))
   have hI':HI ops k l [(i,o)] (listed.setIfInBounds j true):=hI.set hi' hI.rest hI.len (fun p hp=>hI.put p (by simp at hp;simp[hp])) (fun m=>by
    rw[Zu,Zu]
    constructor
    ·rintro⟨h1,h2⟩
     by_cases q:m=j
     ·exact .inl q
     ·exact .inr ⟨h1,fun p hp=>by
       simp at hp
       rcases hp with rfl | rfl
       ·exact h2 _ (by simp)
       ·exact q⟩
    ·rintro(rfl | ⟨h1,h2⟩)
     ·exact⟨hik',fun p hp=>by simp at hp;subst hp;exact fun e=>hne' e.symm⟩
     ·exact⟨h1,fun p hp=>h2 p (by simp at hp;simp[hp])⟩)
   have ih:=HP.run hs hQ q k l [(i,o)] _ a' w' hI' hB2 hS' (hW hS')
   exact ih
 | .go2 p q,k,l,_::_::_::_,listed,a,w,hI,hB,hS,h=>by simp[Z1l,Z0t] at hB
theorem Zp{id:Nat}{a:Act}{w:World}{l:List Oper}(p:Pl)(S:World→Prop)(hm:P.follows .mixedOrders=true)(hs:Region.noSelect l.toArray=true)
  (hB:Z1l p 0 (l.map (Vp l.toArray)) []=true) (hS:S w.drew) (h:HP P l.toArray (NoPanic Q) S p l [] a w.drew):(Code.region id l.toArray true).wp P Q a w:=by
 refine wp_region_noPanic (wp_region_held (S:=S) hm ?_)
 have:=HP.run hs (fun c a d v w h=>h) p 0 l [] (Array.replicate l.toArray.size false) a w.drew ⟨by simp,by simp,by simp,by simp,fun j hj=>by rw[Zu];simp at hj ⊢;simp[hj]⟩ hB hS h
 simpa using this
end
end
def UpT(q:List Rq)(k:Nat)(i:Int):Prop:=(i = -1∧∀a∈q.take k,¬Z3n a)∨∃m:Nat,i=m∧m<k∧∃h:m<q.length,Z3n q[m]∧∀a∈q.take k,Z3n a→q[m].sn≤a.sn
theorem UpT.no{q:List Rq}{k:Nat}{i:Int}(h:UpT q k i)(hk:k<q.length)(hn:¬Z3n q[k]):UpT q (k+1) i:=by
 rcases h with⟨rfl,h⟩ | ⟨m,rfl,hm,hml,hu,h⟩
 ·refine .inl ⟨rfl,fun a ha=>?_⟩
  rcases Z1o hk ha with q1 | rfl
  ·exact h a q1
  ·exact hn
 ·refine .inr ⟨m,rfl,by omega,hml,hu,fun a ha=>?_⟩
  rcases Z1o hk ha with q1 | rfl
  ·exact h a q1
  ·exact fun e=>absurd e hn
theorem UpT.yes{q:List Rq}{k:Nat}{i:Int}(h:UpT q k i)(hk:k<q.length)(hu:Z3n q[k])(hl:∀m:Nat,i=m→∀h:m<q.length,q[k].sn≤q[m].sn):UpT q (k+1) k:=by
 refine .inr ⟨k,rfl,by omega,hk,hu,fun a ha hau=>?_⟩
 rcases Z1o hk ha with q1 | rfl
 ·rcases h with⟨_,h⟩ | ⟨m,e,hm,hml,_,h⟩
  ·exact absurd hau (h a q1)
  ·exact Int.le_trans (hl m e hml) (h a q1 hau)
 ·exact Int.le_refl _
theorem UpT.keep{q:List Rq}{k m:Nat}(h:UpT q k m)(hk:k<q.length)(hml:m<q.length)(hl:q[m].sn≤q[k].sn):UpT q (k+1) m:=by
 rcases h with⟨e,h⟩ | ⟨m',e,hm,hml',hu,h⟩
 ·omega
 ·obtain rfl:m=m':=by omega
  refine .inr ⟨m,rfl,by omega,hml,hu,fun a ha hau=>?_⟩
  rcases Z1o hk ha with q1 | rfl
  ·exact h a q1 hau
  ·exact hl
def Hs(S:World→Prop)(x:World):Prop:=S x
theorem Z2r(t r W:Int)(v:Value)(q:List Rq)(w:World)(hl:q.length≤1000)(h:Zl w v q) :
  Calls prog 81 #[Yf t r v W] w fun e w'=>∃i,e=.returned (.int .i64 i)∧Nw w w'∧UpT q q.length i:=by
 unfold Yf
 obtain⟨a,c,rfl,⟨rfl,_⟩ | ⟨b,o,rfl,hc⟩⟩:=h
 ·go_enter func81,ntmps81
  go_wp2
  refine wp_loop_rounds 1 ?_
  repeat (rw[rounds_succ];go_wp2)
  go_ret
  exact⟨-1,rfl,(Nw.refl _).alloc _,.inl ⟨rfl,by simp⟩⟩
 ·have HC:=hD0 hc
  clear hc
  go_enter func81,ntmps81
  go_wp2
  have hB:=Z63.made w t r (.slice (some ⟨b,o,none⟩) q.length c) W 63
  have hN:Nw w (w.alloc (.cells #[.int .i64 t,.int .i64 r,.slice (some ⟨b,o,none⟩) q.length c,.int .i64 W] 63)):=(Nw.refl w).alloc _
  obtain⟨p,hp⟩:∃p,w.heap.size=p:=⟨_,rfl⟩
  rw[hp] at hB
  rw[hp]
  clear hp
  generalize w.alloc (.cells #[.int .i64 t,.int .i64 r,.slice (some ⟨b,o,none⟩) q.length c,.int .i64 W] 63)=z at *
  have HZ:=hD0 (aI0 hB hN)
  have HR:=hD0 (HC.out.nw hN)
  clear hB hN HC
  go_loopw [3,4] (fun u i wr=>∃(k:Nat) (j:Int),k≤q.length∧i=.int .i64 k∧u=.int .i64 j∧UpT q k j∧Nw z wr) (fun _ i _=>q.length-(intOf i).toNat)
  case atStart=>exact⟨0,-1,Nat.zero_le _,rfl,rfl,.inl ⟨rfl,by simp⟩,Nw.refl _⟩
  case round =>
   obtain⟨k,j,hk,rfl,rfl,hf,hG⟩:=hrel
   have hb:=HZ.out.1.nw hG
   have h0:=hb.c0
   have h1:=hb.c1
   have h2:=hb.c2
   have h3:=hb.c3
   have hpl:=hb.lt
   clear hb
   by_cases hlt:k<q.length
   ·have hRw:=HR.out.nw hG
    have hce:=hRw.cell k hlt
    have HNo:=hD0 (fun e=>hf.no hlt e)
    have HYes:=hD0 (fun e1 e2=>hf.yes hlt e1 e2)
    have HKeep:=hD0 (show ∀m:Nat,j=m→∀h:m<q.length,q[m].sn≤q[k].sn→UpT q (k+1) j from fun m e h l=>by subst e;exact UpT.keep hf hlt h l)
    have HF:=hD0 hf
    generalize q[k]=R at *
    obtain⟨b0,b1,b2,b3,b4⟩:=R
    have e0:=hce 0 _ rfl
    have e1:=hce 1 _ rfl
    have e2:=hce 2 _ rfl
    have e3:=hce 3 _ rfl
    have e4:=hce 4 _ rfl
    simp only[Nat.add_zero] at e0
    have HG:=hD0 hG
    have HRw:=hD0 hRw
    have hbl:=hRw.lt
    clear hce hf hG hRw
    go_wp2_with fail
    have hal:=Z1 wr (.cells #[.int .i64 b0,.int .i64 b1,.int .i64 b2,.int .i64 b3,.int .i64 b4] 50)
    have hNa:Nw wr (wr.alloc (.cells #[.int .i64 b0,.int .i64 b1,.int .i64 b2,.int .i64 b3,.int .i64 b4] 50)):=(Nw.refl wr).alloc _
    obtain⟨pb,hpb⟩:∃pb,wr.heap.size=pb:=⟨_,rfl⟩
    rw[hpb] at hal
    rw[hpb]
    generalize wr.alloc (.cells #[.int .i64 b0,.int .i64 b1,.int .i64 b2,.int .i64 b3,.int .i64 b4] 50)=y at *
    have HGy:=hD0 (HG.out.trans hNa)
    have HRy:=hD0 (HRw.out.nw hNa)
    replace h0:=hNa.kp h0
    replace h1:=hNa.kp h1
    replace h2:=hNa.kp h2
    replace h3:=hNa.kp h3
    clear e0 e1 e2 e3 e4 hNa hpb HG HRw hbl hpl
    clear wr
    obtain⟨S,hSe⟩:∃S,S=Nw y:=⟨_,rfl⟩
    have hS0:Hs S y.drew:=by subst hSe;exact(Nw.refl _).dr
    have f0:∀x,Hs S x→x.cell? ⟨pb,0,none⟩=some (.int .i64 b0):=fun x h=>by subst hSe;exact Nw.kp h (Z0 hal)
    have f1:∀x,Hs S x→x.cell? ⟨pb,1,none⟩=some (.int .i64 b1):=fun x h=>by subst hSe;exact Nw.kp h (Z0 hal)
    have f2:∀x,Hs S x→x.cell? ⟨pb,2,none⟩=some (.int .i64 b2):=fun x h=>by subst hSe;exact Nw.kp h (Z0 hal)
    have f3:∀x,Hs S x→x.cell? ⟨pb,3,none⟩=some (.int .i64 b3):=fun x h=>by subst hSe;exact Nw.kp h (Z0 hal)
    have f4:∀x,Hs S x→x.cell? ⟨pb,4,none⟩=some (.int .i64 b4):=fun x h=>by subst hSe;exact Nw.kp h (Z0 hal)
    have p0:∀x,Hs S x→x.cell? ⟨p,0,none⟩=some (.int .i64 t):=fun x h=>by subst hSe;exact Nw.kp h h0
    have p1:∀x,Hs S x→x.cell? ⟨p,1,none⟩=some (.int .i64 r):=fun x h=>by subst hSe;exact Nw.kp h h1
    have p2:∀x,Hs S x→x.cell? ⟨p,2,none⟩=some (.slice (some ⟨b,o,none⟩) q.length c):=fun x h=>by subst hSe;exact Nw.kp h h2
    have p3:∀x,Hs S x→x.cell? ⟨p,3,none⟩=some (.int .i64 W):=fun x h=>by subst hSe;exact Nw.kp h h3
    have HN:=hD0 (show ∀a b,Hs S a→Nw a b→Hs S b from fun a b h g=>by subst hSe;exact Nw.trans h g)
    have HV:=hD0 (show ∀a,Hs S a→Nw y a from fun a h=>by subst hSe;exact h)
    have HQ:=hD0 (show ∀m:Nat,∀hm:m<q.length,∀x,Hs S x→x.cell? ⟨b,o+m*5+4,none⟩=some (.int .i64 q[m].sn) from fun m hm x h=>by subst hSe;exact(HRy.out.nw h).cell m hm 4 _ rfl)
    clear hSe h0 h1 h2 h3 hal HRy
    by_cases hmd:b2=0
    ·have d1:(b2 != 0)=false:=by simpa using hmd
     have HU:=hD0 (HNo.out (fun e=>e.1 hmd))
     have HH:=hD0 (fun w=>Z32 b0 b1 b2 b3 b4 w)
     rw[d1] at HH
     clear HNo HYes HKeep hmd HQ HF
     refine Zp (.take (.off (.go1 (.take (.take (.off (.go1 (.take (.take (.take (.take (.take (.take (.take (.take (.take (.take (.take (.take (.take (.take (.take (.take .fin))))))))))))))))))))))) (Hs S) (by kernel_rfl) (by kernel_rfl) (by kernel_rfl) hS0 ?_
     iterate 1 (refine HP.take' ?_;(first | (refine⟨undef,Or.inr ⟨by rfl,rfl⟩,?_⟩) | (apply Exists.intro;refine⟨Or.inl ⟨by rfl,?_⟩,?_⟩;(intro x hx';go_simp;first | done | with_reducible rfl)));(try simp only[Act.put,List.setIfInBounds_toArray,List.set_cons_zero,List.set_cons_succ]))
     refine HP.off ?_
     refine HP.go1 (fun KK hKK=>?_)
     go_simp
     refine(HH.out _).mono ?_
     rintro e y1 ⟨rfl,g⟩
     have hS1:=HN.out _ _ hS0 g
     refine hKK.out _ _ hS1 ?_
     intro _
     clear hKK KK g
     (try simp only[Act.put,List.setIfInBounds_toArray,List.set_cons_zero,List.set_cons_succ])
     iterate 2 (refine HP.take' ?_;(first | (refine⟨undef,Or.inr ⟨by rfl,rfl⟩,?_⟩) | (apply Exists.intro;refine⟨Or.inl ⟨by rfl,?_⟩,?_⟩;(intro x hx';go_simp;first | done | with_reducible rfl)));(try simp only[Act.put,List.setIfInBounds_toArray,List.set_cons_zero,List.set_cons_succ]))
     refine HP.off ?_
     refine HP.go1 (fun KK hKK=>?_)
     go_simp
     have hS2:=hS1
     refine hKK.out _ _ hS2 ?_
     intro _
     clear hKK KK
     (try simp only[Act.put,List.setIfInBounds_toArray,List.set_cons_zero,List.set_cons_succ])
     iterate 16 (refine HP.take' ?_;(first | (refine⟨undef,Or.inr ⟨by rfl,rfl⟩,?_⟩) | (apply Exists.intro;refine⟨Or.inl ⟨by rfl,?_⟩,?_⟩;(intro x hx';go_simp;first | done | with_reducible rfl)));(try simp only[Act.put,List.setIfInBounds_toArray,List.set_cons_zero,List.set_cons_succ]))
     refine HP.end_ ?_
     refine NoPanic.normal ?_
     have hZ:=HGy.out.trans (HV.out _ hS2)
     clear hS0 hS1 hS2 f0 f1 f2 f3 f4 p0 p1 p2 p3 HN HV
     go_wp2
     go_roundw
     case rel=>exact⟨k+1,_,by omega,by go_num,rfl,HU.out,hZ⟩
     case measure=>simp[intOf];omega
    ·have d1:(b2 != 0)=true:=by simpa using hmd
     have HH:=hD0 (fun w=>Z32 b0 b1 b2 b3 b4 w)
     rw[d1] at HH
     have HWt:=hD0 (fun w=>Z6r b0 b1 b2 b3 b4 w)
     by_cases hsn:0<b4
     ·have d2:decide (0<b4)=true:=by simpa using hsn
      rw[d2] at HWt
      have hY:=HYes.out ⟨hmd,hsn⟩
      rcases HF.out with⟨hj,_⟩ | ⟨m,hj,_,hm,_,_⟩
      ·subst hj
       have HU:=hD0 (hY (fun m e=>by omega))
       clear HNo HYes HKeep hmd hsn HQ HF hY
       refine Zp (.take (.off (.go1 (.take (.take (.off (.go1 (.take (.take (.take (.take (.take (.take (.take (.take (.take (.take (.take (.take (.take (.take (.take (.take .fin))))))))))))))))))))))) (Hs S) (by kernel_rfl) (by kernel_rfl) (by kernel_rfl) hS0 ?_
       iterate 1 (refine HP.take' ?_;(first | (refine⟨undef,Or.inr ⟨by rfl,rfl⟩,?_⟩) | (apply Exists.intro;refine⟨Or.inl ⟨by rfl,?_⟩,?_⟩;(intro x hx';go_simp;first | done | with_reducible rfl)));(try simp only[Act.put,List.setIfInBounds_toArray,List.set_cons_zero,List.set_cons_succ]))
       refine HP.off ?_
       refine HP.go1 (fun KK hKK=>?_)
       go_simp
       refine(HH.out _).mono ?_
       rintro e y1 ⟨rfl,g⟩
       have hS1:=HN.out _ _ hS0 g
       refine hKK.out _ _ hS1 ?_
       intro _
       clear hKK KK g
       (try simp only[Act.put,List.setIfInBounds_toArray,List.set_cons_zero,List.set_cons_succ])
       iterate 2 (refine HP.take' ?_;(first | (refine⟨undef,Or.inr ⟨by rfl,rfl⟩,?_⟩) | (apply Exists.intro;refine⟨Or.inl ⟨by rfl,?_⟩,?_⟩;(intro x hx';go_simp;first | done | with_reducible rfl)));(try simp only[Act.put,List.setIfInBounds_toArray,List.set_cons_zero,List.set_cons_succ]))
       refine HP.off ?_
       refine HP.go1 (fun KK hKK=>?_)
       go_simp
       refine(HWt.out _).mono ?_
       rintro e y2 ⟨rfl,g⟩
       have hS2:=HN.out _ _ hS1 g
       refine hKK.out _ _ hS2 ?_
       intro _
       clear hKK KK g
       (try simp only[Act.put,List.setIfInBounds_toArray,List.set_cons_zero,List.set_cons_succ])
       iterate 16 (refine HP.take' ?_;(first | (refine⟨undef,Or.inr ⟨by rfl,rfl⟩,?_⟩) | (apply Exists.intro;refine⟨Or.inl ⟨by rfl,?_⟩,?_⟩;(intro x hx';go_simp;first | done | with_reducible rfl)));(try simp only[Act.put,List.setIfInBounds_toArray,List.set_cons_zero,List.set_cons_succ]))
       refine HP.end_ ?_
       refine NoPanic.normal ?_
       have hZ:=HGy.out.trans (HV.out _ hS2)
       clear hS0 hS1 hS2 f0 f1 f2 f3 f4 p0 p1 p2 p3 HN HV
       go_wp2
       go_roundw
       case rel=>exact⟨k+1,_,by omega,by go_num,rfl,HU.out,hZ⟩
       case measure=>simp[intOf];omega
      ·have d3:decide ((m:Int)<0)=false:=by simp
       have c4:=HQ.out m hm
       have hK:=HKeep.out m hj hm
       have hY2:b4≤q[m].sn→UpT q (k+1) k:=fun h=>hY (fun m' e h'=>by
        obtain rfl:m=m':=by omega
        exact h)
       subst hj
       generalize q[m].sn=s at *
       have hmi:(m:Int)<(q.length:Int):=by omega
       by_cases hs:b4<s
       ·have d4:decide (b4<s)=true:=by simpa using hs
        have HU:=hD0 (hY2 (Int.le_of_lt hs))
        clear HNo HYes HKeep hmd hsn HQ HF hY hK hY2 hs
        refine Zp (.take (.off (.go1 (.take (.take (.off (.go1 (.take (.take (.take (.take (.take (.take (.take (.take (.take (.take (.take (.take (.take (.take (.take (.take .fin))))))))))))))))))))))) (Hs S) (by kernel_rfl) (by kernel_rfl) (by kernel_rfl) hS0 ?_
        iterate 1 (refine HP.take' ?_;(first | (refine⟨undef,Or.inr ⟨by rfl,rfl⟩,?_⟩) | (apply Exists.intro;refine⟨Or.inl ⟨by rfl,?_⟩,?_⟩;(intro x hx';go_simp;first | done | with_reducible rfl)));(try simp only[Act.put,List.setIfInBounds_toArray,List.set_cons_zero,List.set_cons_succ]))
        refine HP.off ?_
        refine HP.go1 (fun KK hKK=>?_)
        go_simp
        refine(HH.out _).mono ?_
        rintro e y1 ⟨rfl,g⟩
        have hS1:=HN.out _ _ hS0 g
        refine hKK.out _ _ hS1 ?_
        intro _
        clear hKK KK g
        (try simp only[Act.put,List.setIfInBounds_toArray,List.set_cons_zero,List.set_cons_succ])
        iterate 2 (refine HP.take' ?_;(first | (refine⟨undef,Or.inr ⟨by rfl,rfl⟩,?_⟩) | (apply Exists.intro;refine⟨Or.inl ⟨by rfl,?_⟩,?_⟩;(intro x hx';go_simp;first | done | with_reducible rfl)));(try simp only[Act.put,List.setIfInBounds_toArray,List.set_cons_zero,List.set_cons_succ]))
        refine HP.off ?_
        refine HP.go1 (fun KK hKK=>?_)
        go_simp
        refine(HWt.out _).mono ?_
        rintro e y2 ⟨rfl,g⟩
        have hS2:=HN.out _ _ hS1 g
        refine hKK.out _ _ hS2 ?_
        intro _
        clear hKK KK g
        (try simp only[Act.put,List.setIfInBounds_toArray,List.set_cons_zero,List.set_cons_succ])
        iterate 16 (refine HP.take' ?_;(first | (refine⟨undef,Or.inr ⟨by rfl,rfl⟩,?_⟩) | (apply Exists.intro;refine⟨Or.inl ⟨by rfl,?_⟩,?_⟩;(intro x hx';go_simp;first | done | with_reducible rfl)));(try simp only[Act.put,List.setIfInBounds_toArray,List.set_cons_zero,List.set_cons_succ]))
        refine HP.end_ ?_
        refine NoPanic.normal ?_
        have hZ:=HGy.out.trans (HV.out _ hS2)
        clear hS0 hS1 hS2 f0 f1 f2 f3 f4 p0 p1 p2 p3 HN HV c4
        go_wp2
        go_roundw
        case rel=>exact⟨k+1,_,by omega,by go_num,rfl,HU.out,hZ⟩
        case measure=>simp[intOf];omega
       ·have d4:decide (b4<s)=false:=by simpa using hs
        have HU:=hD0 (hK (Int.not_lt.1 hs))
        clear HNo HYes HKeep hmd hsn HQ HF hY hK hY2 hs
        refine Zp (.take (.off (.go1 (.take (.take (.off (.go1 (.take (.take (.take (.take (.take (.take (.take (.take (.take (.take (.take (.take (.take (.take (.take (.take .fin))))))))))))))))))))))) (Hs S) (by kernel_rfl) (by kernel_rfl) (by kernel_rfl) hS0 ?_
        iterate 1 (refine HP.take' ?_;(first | (refine⟨undef,Or.inr ⟨by rfl,rfl⟩,?_⟩) | (apply Exists.intro;refine⟨Or.inl ⟨by rfl,?_⟩,?_⟩;(intro x hx';go_simp;first | done | with_reducible rfl)));(try simp only[Act.put,List.setIfInBounds_toArray,List.set_cons_zero,List.set_cons_succ]))
        refine HP.off ?_
        refine HP.go1 (fun KK hKK=>?_)
        go_simp
        refine(HH.out _).mono ?_
        rintro e y1 ⟨rfl,g⟩
        have hS1:=HN.out _ _ hS0 g
        refine hKK.out _ _ hS1 ?_
        intro _
        clear hKK KK g
        (try simp only[Act.put,List.setIfInBounds_toArray,List.set_cons_zero,List.set_cons_succ])
        iterate 2 (refine HP.take' ?_;(first | (refine⟨undef,Or.inr ⟨by rfl,rfl⟩,?_⟩) | (apply Exists.intro;refine⟨Or.inl ⟨by rfl,?_⟩,?_⟩;(intro x hx';go_simp;first | done | with_reducible rfl)));(try simp only[Act.put,List.setIfInBounds_toArray,List.set_cons_zero,List.set_cons_succ]))
        refine HP.off ?_
        refine HP.go1 (fun KK hKK=>?_)
        go_simp
        refine(HWt.out _).mono ?_
        rintro e y2 ⟨rfl,g⟩
        have hS2:=HN.out _ _ hS1 g
        refine hKK.out _ _ hS2 ?_
        intro _
        clear hKK KK g
        (try simp only[Act.put,List.setIfInBounds_toArray,List.set_cons_zero,List.set_cons_succ])
        iterate 16 (refine HP.take' ?_;(first | (refine⟨undef,Or.inr ⟨by rfl,rfl⟩,?_⟩) | (apply Exists.intro;refine⟨Or.inl ⟨by rfl,?_⟩,?_⟩;(intro x hx';go_simp;first | done | with_reducible rfl)));(try simp only[Act.put,List.setIfInBounds_toArray,List.set_cons_zero,List.set_cons_succ]))
        refine HP.end_ ?_
        refine NoPanic.normal ?_
        have hZ:=HGy.out.trans (HV.out _ hS2)
        clear hS0 hS1 hS2 f0 f1 f2 f3 f4 p0 p1 p2 p3 HN HV c4
        go_wp2
        go_roundw
        case rel=>exact⟨k+1,_,by omega,by go_num,rfl,HU.out,hZ⟩
        case measure=>simp[intOf];omega
     ·have d2:decide (0<b4)=false:=by simpa using hsn
      rw[d2] at HWt
      have HU:=hD0 (HNo.out (fun e=>hsn e.2))
      clear HNo HYes HKeep hmd hsn HQ HF
      refine Zp (.take (.off (.go1 (.take (.take (.off (.go1 (.take (.take (.take (.take (.take (.take (.take (.take (.take (.take (.take (.take (.take (.take (.take (.take .fin))))))))))))))))))))))) (Hs S) (by kernel_rfl) (by kernel_rfl) (by kernel_rfl) hS0 ?_
      iterate 1 (refine HP.take' ?_;(first | (refine⟨undef,Or.inr ⟨by rfl,rfl⟩,?_⟩) | (apply Exists.intro;refine⟨Or.inl ⟨by rfl,?_⟩,?_⟩;(intro x hx';go_simp;first | done | with_reducible rfl)));(try simp only[Act.put,List.setIfInBounds_toArray,List.set_cons_zero,List.set_cons_succ]))
      refine HP.off ?_
      refine HP.go1 (fun KK hKK=>?_)
      go_simp
      refine(HH.out _).mono ?_
      rintro e y1 ⟨rfl,g⟩
      have hS1:=HN.out _ _ hS0 g
      refine hKK.out _ _ hS1 ?_
      intro _
      clear hKK KK g
      (try simp only[Act.put,List.setIfInBounds_toArray,List.set_cons_zero,List.set_cons_succ])
      iterate 2 (refine HP.take' ?_;(first | (refine⟨undef,Or.inr ⟨by rfl,rfl⟩,?_⟩) | (apply Exists.intro;refine⟨Or.inl ⟨by rfl,?_⟩,?_⟩;(intro x hx';go_simp;first | done | with_reducible rfl)));(try simp only[Act.put,List.setIfInBounds_toArray,List.set_cons_zero,List.set_cons_succ]))
      refine HP.off ?_
      refine HP.go1 (fun KK hKK=>?_)
      go_simp
      refine(HWt.out _).mono ?_
      rintro e y2 ⟨rfl,g⟩
      have hS2:=HN.out _ _ hS1 g
      refine hKK.out _ _ hS2 ?_
      intro _
      clear hKK KK g
      (try simp only[Act.put,List.setIfInBounds_toArray,List.set_cons_zero,List.set_cons_succ])
      iterate 16 (refine HP.take' ?_;(first | (refine⟨undef,Or.inr ⟨by rfl,rfl⟩,?_⟩) | (apply Exists.intro;refine⟨Or.inl ⟨by rfl,?_⟩,?_⟩;(intro x hx';go_simp;first | done | with_reducible rfl)));(try simp only[Act.put,List.setIfInBounds_toArray,List.set_cons_zero,List.set_cons_succ]))
      refine HP.end_ ?_
      refine NoPanic.normal ?_
      have hZ:=HGy.out.trans (HV.out _ hS2)
      clear hS0 hS1 hS2 f0 f1 f2 f3 f4 p0 p1 p2 p3 HN HV
      go_wp2
      go_roundw
      case rel=>exact⟨k+1,_,by omega,by go_num,rfl,HU.out,hZ⟩
      case measure=>simp[intOf];omega
   ·obtain rfl:k=q.length:=by omega
    have HG:=hD0 hG
    have HF:=hD0 hf
    clear hf hG
    go_wp2
    go_ret
    exact⟨j,rfl,HZ.out.2.trans HG.out,HF.out⟩
theorem Z0o(t r W:Int)(v:Value)(q:List Rq)(w:World)(hl:q.length≤1000)(h:Zl w v q) :
  Calls prog 80 #[Yf t r v W] w fun e w'=>∃v',e=.returned (Yf t r v' W)∧Nw w w'∧Z2 w' w.heap.size v' q:=by
 unfold Yf
 have hN2:Nw w ((w.alloc (.cells #[.int .i64 t,.int .i64 r,v,.int .i64 W] 63)).alloc (.cells #[.int .i64 0,.int .i64 0,.slice none 0 0,.int .i64 0] 63)):=((Nw.refl w).alloc _).alloc _
 have hb:=hN2.sz
 have hp0:=Z1 w (.cells #[.int .i64 t,.int .i64 r,v,.int .i64 W] 63)
 have hp:=((Nw.refl _).alloc (.cells #[.int .i64 0,.int .i64 0,.slice none 0 0,.int .i64 0] 63)).at' hp0
 have hq:=Z1 (w.alloc (.cells #[.int .i64 t,.int .i64 r,v,.int .i64 W] 63)) (.cells #[.int .i64 0,.int .i64 0,.slice none 0 0,.int .i64 0] 63)
 obtain⟨v',w1,hrun,hO,hN⟩:=U4 Z57 (h.nw hN2) (by omega)
 have hp1:=hN.at' hp
 have hq1:=hN.at' hq
 have hOl:=fun g hg=>Vr hO (g:=g) hg
 obtain⟨a,c,rfl⟩:=h.form
 obtain⟨a',c',hv'⟩:=(Z2.rd hO).form
 subst hv'
 have hz:w.heap.size+1≤((w.alloc (.cells #[.int .i64 t,.int .i64 r,.slice a q.length c,.int .i64 W] 63)).alloc (.cells #[.int .i64 0,.int .i64 0,.slice none 0 0,.int .i64 0] 63)).heap.size:=by simp
 have hsz1:(w.alloc (.cells #[.int .i64 t,.int .i64 r,.slice a q.length c,.int .i64 W] 63)).heap.size=w.heap.size+1:=by simp
 rw[hsz1] at hq hq1
 have hsz2:((w.alloc (.cells #[.int .i64 t,.int .i64 r,.slice a q.length c,.int .i64 W] 63)).alloc (.cells #[.int .i64 0,.int .i64 0,.slice none 0 0,.int .i64 0] 63)).heap.size=w.heap.size+1+1:=by simp
 rw[hsz2] at hrun hO hOl
 have HR:=hD0 hrun
 have hw1:=hN2.trans hN
 have hz1:w.heap.size+1<w1.heap.size:=lL0 (by rw[hsz2];omega) hN.sz
 have hpc:∀k,w1.cell? ⟨w.heap.size,k,none⟩=_:=fun k=>Z0 (j:=k) hp1
 have c0:=hpc 0
 have c1:=hpc 1
 have c2:=hpc 2
 have c3:=hpc 3
 have hqc:∀k,w1.cell? ⟨w.heap.size+1,k,none⟩=_:=fun k=>Z0 (j:=k) hq1
 have d0:=hqc 0
 have d1:=hqc 1
 have d2:=hqc 2
 have d3:=hqc 3
 have fz:=fun k=>hfz (j:=k) hp1
 have fz':=fun k=>hfz (j:=k) hq1
 have HX:=hD0 (aI0 hO (aI0 hw1 (aI0 hp1 (aI0 hq1 hOl))))
 clear hrun hO hw1 hp1 hq1 hp hq hp0 hN hN2 h hb hOl hpc hqc hsz1 hsz2 hz
 go_enter func80,ntmps80
 go_wp2_with (at_builtin;refine Z5 (by rfl) (.tmp 3) (.tmp 5) 61 rfl _ _ _ _ rfl rfl HR.out ?_)
 refine bodyPost_ret (v:=.agg #[.int .i64 t,.int .i64 r,.slice a' q.length c',.int .i64 W]) (by simp[results,results80,go_sem, *]) rfl ⟨_,rfl,?_,?_⟩
 ·exact((((HX.out.2.1.st (Nat.le_refl _) _).st (Nat.le_succ _) _).st (Nat.le_succ _) _).st (Nat.le_succ _) _).st (Nat.le_succ _) _
 ·have hO:=HX.out.1
  have hr:=Yn (Yn (Yn (Yn (Yn hO (p:=⟨w.heap.size,2,none⟩) (by show w.heap.size<_;omega) (.slice a' q.length c')) (p:=⟨w.heap.size+1,0,none⟩) (by show w.heap.size+1<_;omega) (.int .i64 t)) (p:=⟨w.heap.size+1,1,none⟩) (by show w.heap.size+1<_;omega) (.int .i64 r)) (p:=⟨w.heap.size+1,2,none⟩) (by show w.heap.size+1<_;omega) (.slice a' q.length c')) (p:=⟨w.heap.size+1,3,none⟩) (by show w.heap.size+1<_;omega) (.int .i64 W)
  exact Z4i hr (fun g hg=>by have:=Vr hr hg;omega)
def Z38(q:List Rq)(id:Int):Value:=match Yr q id with
 | none=>.tuple #[rqV ⟨0,0,0,0,0⟩,.bool false]
 | some r=>.tuple #[rqV r,.bool true]
theorem Zfw(t r W id:Int)(v:Value)(q:List Rq)(w:World)(hl:q.length≤1000)(h:Zl w v q) :
  Calls prog 120 #[Yf t r v W,.int .i64 id] w fun e w'=>e=.returned (Z38 q id)∧Nw w w':=by
 have HA:=hD0 (fun(w1:World) (g:Nw w w1)=>Zp5 t r W id v q w1 hl (h.nw g))
 unfold Yf at HA ⊢
 obtain⟨a,c,rfl,h⟩:=h
 have HH:=hD0 h
 clear h
 obtain⟨V,hV⟩:∃V,Z38 q id=V:=⟨_,rfl⟩
 rw[hV]
 have HV:=hD0 hV
 clear hV
 have hN2:Nw w ((w.alloc (.cells #[.int .i64 t,.int .i64 r,.slice a q.length c,.int .i64 W] 63)).alloc (.cells #[.int .i64 0,.int .i64 0,.int .i64 0,.int .i64 0,.int .i64 0] 50)):=((Nw.refl w).alloc _).alloc _
 have hp0:=Z1 w (.cells #[.int .i64 t,.int .i64 r,.slice a q.length c,.int .i64 W] 63)
 have hp:=((Nw.refl _).alloc (.cells #[.int .i64 0,.int .i64 0,.int .i64 0,.int .i64 0,.int .i64 0] 50)).at' hp0
 have hq:=Z1 (w.alloc (.cells #[.int .i64 t,.int .i64 r,.slice a q.length c,.int .i64 W] 63)) (.cells #[.int .i64 0,.int .i64 0,.int .i64 0,.int .i64 0,.int .i64 0] 50)
 have hsz1:(w.alloc (.cells #[.int .i64 t,.int .i64 r,.slice a q.length c,.int .i64 W] 63)).heap.size=w.heap.size+1:=by simp
 rw[hsz1] at hq
 go_enter func120,ntmps120
 go_wp2_with fail
 refine(HA.out _ hN2).mono ?_
 rintro e w1 ⟨i,rfl,g1,hi⟩
 have hp1:=g1.at' hp
 have hq1:=g1.at' hq
 have hN1:=hN2.trans g1
 have c0:=Z0 (j:=0) hp1
 have c1:=Z0 (j:=1) hp1
 have c2:=Z0 (j:=2) hp1
 have c3:=Z0 (j:=3) hp1
 have d0:=Z0 (j:=0) hq1
 have d1:=Z0 (j:=1) hq1
 have d2:=Z0 (j:=2) hq1
 have d3:=Z0 (j:=3) hq1
 have d4:=Z0 (j:=4) hq1
 have fz:=fun k=>hfz (j:=k) hq1
 have hsl:=lL0 (Nat.lt_succ_self _) (Nat.le_of_lt (hlt hq1))
 have hsl2:=hlt hq1
 have HG:=hD0 hN1
 clear hp0 hp hq hsz1 hN2 hp1 hq1 hN1 g1 HA
 rcases hi with⟨rfl,hf⟩ | ⟨k,rfl,hk,hf⟩
 ·have HF:=hD0 (HV.out.symm.trans (show Z38 q id=.tuple #[rqV ⟨0,0,0,0,0⟩,.bool false] by unfold Z38;rw[hf]))
  clear hf HV HH
  go_wp2
  refine bodyPost_ret (v:=.tuple #[.agg #[.int .i64 0,.int .i64 0,.int .i64 0,.int .i64 0,.int .i64 0],.bool false]) (by simp[results,results120,go_sem, *]) rfl ⟨by rw[HF.out];rfl,?_⟩
  exact((((HG.out.st (Nat.le_succ _) _).st (Nat.le_succ _) _).st (Nat.le_succ _) _).st (Nat.le_succ _) _).st (Nat.le_succ _) _
 ·rcases HH.out with⟨e,_⟩ | ⟨b,o,rfl,hc⟩
  ·subst e;simp at hk
  have hce:=(hc.nw HG.out).cell k hk
  have hki:(k:Int)<(q.length:Int):=by omega
  generalize q[k]=R at *
  obtain⟨b0,b1,b2,b3,b4⟩:=R
  have e0:=hce 0 _ rfl
  have e1:=hce 1 _ rfl
  have e2:=hce 2 _ rfl
  have e3:=hce 3 _ rfl
  have e4:=hce 4 _ rfl
  simp only[Nat.add_zero] at e0
  clear hce
  have HF:=hD0 (HV.out.symm.trans (show Z38 q id=.tuple #[rqV ⟨b0,b1,b2,b3,b4⟩,.bool true] by unfold Z38;rw[hf]))
  clear hf HV HH hc
  go_wp2
  refine bodyPost_ret (v:=.tuple #[.agg #[.int .i64 b0,.int .i64 b1,.int .i64 b2,.int .i64 b3,.int .i64 b4],.bool true]) (by simp[results,results120,go_sem, *]) rfl ⟨by rw[HF.out];rfl,?_⟩
  exact((((HG.out.st (Nat.le_succ _) _).st (Nat.le_succ _) _).st (Nat.le_succ _) _).st (Nat.le_succ _) _).st (Nat.le_succ _) _
theorem Zsr{q:List Rq}{x:Int}{k:Nat}(hk:k<q.length)(h:(q.take k).find? (fun r=>r.txn==x)=none)(e:q[k].txn≠x):(q.take (k+1)).find? (fun r=>r.txn==x)=none:=by
 rw[List.take_add_one,List.getElem?_eq_getElem hk,List.find?_append,h]
 simp[e]
theorem Zx0{q:List Rq}{x:Int}{k:Nat}(hk:k<q.length)(h:(q.take k).find? (fun r=>r.txn==x)=none)(e:q[k].txn=x):mdQ q x=q[k].md:=by
 have e2:q=q.take k++q[k]::q.drop (k+1):=by rw[←List.drop_eq_getElem_cons hk,List.take_append_drop]
 have:mdQ (q.take k++q[k]::q.drop (k+1)) x=q[k].md:=by
  unfold mdQ
  rw[List.find?_append,h,List.find?_cons]
  simp[e]
 rwa [←e2] at this
theorem Zsq{q:List Rq}{x:Int}(h:q.find? (fun r=>r.txn==x)=none):mdQ q x=0:=by
 unfold mdQ;rw[h]
theorem Zxg(t r W id:Int)(v:Value)(q:List Rq)(w:World)(hl:q.length≤1000)(h:Zl w v q) :
  Calls prog 64 #[Yf t r v W,.int .i64 id] w fun e w'=>e=.returned (.int .i64 (mdQ q id))∧Nw w w':=by
 unfold Yf
 obtain⟨a,c,rfl,⟨rfl,_⟩ | ⟨b,o,rfl,hc⟩⟩:=h
 ·go_enter func64,ntmps64
  go_wp2
  refine wp_loop_rounds 1 ?_
  repeat (rw[rounds_succ];go_wp2)
  go_ret
  exact⟨rfl,(Nw.refl _).alloc _⟩
 ·have HC:=hD0 hc
  obtain⟨V,hV⟩:∃V,mdQ q id=V:=⟨_,rfl⟩
  rw[hV]
  have HV:=hD0 hV
  clear hc hV
  go_enter func64,ntmps64
  go_wp2
  have hB:=Z63.made w t r (.slice (some ⟨b,o,none⟩) q.length c) W 63
  have hN:Nw w (w.alloc (.cells #[.int .i64 t,.int .i64 r,.slice (some ⟨b,o,none⟩) q.length c,.int .i64 W] 63)):=(Nw.refl w).alloc _
  obtain⟨p,hp⟩:∃p,w.heap.size=p:=⟨_,rfl⟩
  rw[hp] at hB
  rw[hp]
  clear hp
  generalize w.alloc (.cells #[.int .i64 t,.int .i64 r,.slice (some ⟨b,o,none⟩) q.length c,.int .i64 W] 63)=z at *
  have HZ:=hD0 (aI0 hB hN)
  have HR:=hD0 (HC.out.nw hN)
  clear hB hN HC
  go_loopw [5] (fun i wr=>∃k:Nat,k≤q.length∧i=.int .i64 k∧(q.take k).find? (fun r=>r.txn==id)=none∧Nw z wr) (fun i _=>q.length-(intOf i).toNat)
  case atStart=>exact⟨0,Nat.zero_le _,rfl,rfl,Nw.refl _⟩
  case round =>
   obtain⟨k,hk,rfl,hf,hG⟩:=hrel
   have hb:=HZ.out.1.nw hG
   have h0:=hb.c0
   have h1:=hb.c1
   have h2:=hb.c2
   have h3:=hb.c3
   have hpl:=hb.lt
   clear hb
   have HG:=hD0 (HZ.out.2.trans hG)
   have HG2:=hD0 hG
   by_cases hlt:k<q.length
   ·have hce:=(HR.out.nw hG).cell k hlt
    have HA:=hD0 (fun e=>Zx0 hlt hf e)
    have HS:=hD0 (fun e=>Zsr hlt hf e)
    generalize q[k]=R at *
    obtain⟨b0,b1,b2,b3,b4⟩:=R
    have e0:=hce 0 _ rfl
    have e1:=hce 1 _ rfl
    have e2:=hce 2 _ rfl
    have e3:=hce 3 _ rfl
    have e4:=hce 4 _ rfl
    simp only[Nat.add_zero] at e0
    clear hce
    clear hf hG
    by_cases he:b1=id
    ·have d:(b1==id)=true:=by simpa using he
     have HF:=hD0 (HV.out.symm.trans (HA.out he))
     clear he HA HS HV
     go_wp2
     go_ret
     exact⟨by rw[HF.out];rfl,HG.out⟩
    ·have d:(b1==id)=false:=by simpa using he
     have HS2:=hD0 (HS.out he)
     clear he HA HS
     go_wp2
     go_roundw
     case rel=>exact⟨k+1,by omega,by go_num,HS2.out,HG2.out⟩
     case measure=>simp[intOf];omega
   ·obtain rfl:k=q.length:=by omega
    rw[List.take_length] at hf
    have HF:=hD0 (HV.out.symm.trans (Zsq hf))
    clear hf hG HV
    go_wp2
    go_ret
    exact⟨by rw[HF.out];rfl,HG.out⟩
end Go.Proofs.YtpffldfpabglbaaGreatDoor
