/- Texts merged: QvG, QvH, QuL -/
import Derived.Test.YtodnlelnpidliaaGreatBucketHoldsB13
import Derived.Deep.RegionLaw

/- The developers' package queue: a request more. -/
section
namespace Go.Proofs.YtodnlelnpidliaaGreat
open Go.RowKit Go.Maps Go.ChangeMaps
set_option linter.unusedVariables false      -- a contract need not use every name

theorem step_app {P : Program} {ops : Array Oper} {o : Oper} {a : Act} {w : World} {K : Act → World → Prop} {Q : Exit → Act → World → Prop} {E : Prop} (hgd : o.guard = none) (s x : Operand) (t : TypeId)
    (ho : o.op = .call { callee := .builtin .append, args := #[s, x], argTypes := #[t, t] }) (v u v' : Value) (w' : World) (hs : a.eval s = v) (hx : a.eval x = u) (hr : (Builtin.append_ #[t, t] o.type #[v, u]).run P w = .ok v' w')
    (h : K (a.put o.dst v') w') : if Region.wanted o (yielded ops a.tmps) = true then Oper.wp P o a w K Q else E := by
  have hw : Region.wanted o (yielded ops a.tmps) = true := by simp [Region.wanted, hgd]
  rw [if_pos hw]
  unfold Oper.wp execOp
  simp only [ho, resolve, invoke, builtin, Sem.run_bind, Sem.run_pure, Result.andThen_ok, List.map_toArray, List.map_cons, List.map_nil, hs, hx, hr]
  exact h
theorem Tch.st {S : Nat → Prop} {a b : World} (h : Tch S a b) {p : Nat} (hp : S p) (j : Nat) (u : Value) : Tch S a (b.setCell ⟨p, j, none⟩ u) := h.set (p := ⟨p, j, none⟩) (.inl hp) u
set_option maxRecDepth 100000 in
set_option maxHeartbeats 4000000 in
theorem dAdd {w : World} {g0 p b n : Nat} {t r W : Int} {v : Value} {q : List Rq} {c : Int → Int} (h : Ln w g0 p t r W v b n q c) (R : Rq) (hkm : knI R.md = true) (hb : ∀ x, 0 ≤ c x ∧ c x ≤ 100000) (hn : n < 900000) (hl : q.length ≤ 1000) :
    Calls Tryz.prog 97 #[.pointer (some ⟨p, 0, none⟩), rqV R] w fun e w' => e = .returned (.int .i64 q.length) ∧ ∃ v', Ln w' g0 p t r W v' b (n + 1) (q ++ [R]) (setC c R.md (c R.md + 1)) ∧ Below g0 w w' := by
  have hbd := hb R.md
  obtain ⟨d0, d1, d2, d3, d4⟩ := R
  simp only at *
  have g1 : Nw w (w.alloc (.cells #[.int .i64 d0, .int .i64 d1, .int .i64 d2, .int .i64 d3, .int .i64 d4] 47)) := (Nw.refl w).alloc _
  have hq1 := RqB.made w d0 d1 d2 d3 d4 47
  obtain ⟨w1, hw1⟩ : ∃ w1, w.alloc (.cells #[.int .i64 d0, .int .i64 d1, .int .i64 d2, .int .i64 d3, .int .i64 d4] 47) = w1 := ⟨_, rfl⟩
  rw [hw1] at g1 hq1
  have hL1 := h.nw g1
  have g2 : Nw w1 ((w1.alloc (.cells #[.int .i64 d0, .int .i64 d1, .int .i64 d2, .int .i64 d3, .int .i64 d4] 47)).drew) := ((Nw.refl w1).alloc _).drewN 1
  have hbx := RqB.made w1 d0 d1 d2 d3 d4 47
  have hL2 := hL1.nw g2
  have hg2 : g0 ≤ w1.heap.size := by have := hL1.gp; have := hlt hL1.obj; omega
  obtain ⟨v', w3, r3, hO3, hG3, hv3, ⟨g', cap', hv'⟩⟩ := Own.push elemRq hL2.own ⟨d0, d1, d2, d3, d4⟩ w1.heap.size 1 (fun j u hu => (hbx.nw ((Nw.refl _).drewN 1)).cells j u hu) (by omega) (Nat.le_trans hg2 g2.sz)
  have hvp := hL2.vp
  have hvb := hL2.vb
  have ho3 : w3.heap[p]? = some _ := (hG3.block p (hlt hL2.obj) (fun e => hvp e.symm)).trans hL2.obj
  have hM3 := hL2.map.kept hG3 (fun e => hvb e.symm)
  have hb3 := hset (j := 2) v' ho3
  have hp3 : v'.ownBlock ≠ some p := fun e => by
    obtain ⟨cs, hc⟩ := oheap hO3 e
    rw [ho3] at hc
    injection hc with hc
    injection hc with _ hc
    exact absurd hc.symm types_ne
  have hL4 : Ln (w3.setCell ⟨p, 2, none⟩ v') g0 p t r W v' b n (q ++ [⟨d0, d1, d2, d3, d4⟩]) c :=
    ⟨hb3, okeep hO3 (sgrown w3 _ v') (fun g hv e => hp3 (hv.trans e.symm)), hM3.kept (sgrown w3 _ v') (fun e => hL2.bp (Option.some.inj e)), hL2.gp, hL2.gb⟩
  have hB4 : Below g0 w (w3.setCell ⟨p, 2, none⟩ v') := by
    have b2 : Tch (fun i => g0 ≤ i) w ((w1.alloc (.cells #[.int .i64 d0, .int .i64 d1, .int .i64 d2, .int .i64 d3, .int .i64 d4] 47)).drew) := Tch.nw (g1.trans g2)
    have b3 := (b2.grown hG3 (fun k hk => .inl (oge h.own hk))).set (p := ⟨p, 2, none⟩) (.inl h.gp) v'
    exact ⟨b3.os, b3.tape, b3.output, b3.size, fun k hk => b3.block k (by have := h.gp; have := hlt h.obj; omega) (by omega)⟩
  obtain ⟨w4, hw4⟩ : ∃ w4, w3.setCell ⟨p, 2, none⟩ v' = w4 := ⟨_, rfl⟩
  rw [hw4] at hL4 hB4
  have hlk := (hL4.map.nw (Nw.refl w4).drewQ).look hkm
  obtain ⟨x, hx⟩ : ∃ x, c d2 = x := ⟨_, rfl⟩
  rw [hx] at hlk hbd ⊢
  obtain ⟨x1, hx1⟩ : ∃ x1, x + 1 = x1 := ⟨_, rfl⟩
  rw [hx1]
  have hwx : IntKind.i64.wrap (x + 1) = x1 := by rw [IntKind.wrap_i64]; omega
  obtain ⟨w5, r5, hM5, hG5⟩ := (hL4.map.nw (Nw.refl w4).drewQ).put (by omega) hkm (x := x1) (by omega) (by omega)
  have hL5 := (hL4.nw (Nw.refl w4).drewQ).put hM5 hG5
  have hB5 : Below g0 w w5 := by
    have b3 : Tch (fun i => g0 ≤ i) w w5 := (((⟨hB4.os, hB4.tape, hB4.output, hB4.size, fun k _ hk => hB4.block k (by omega)⟩ : Tch (fun i => g0 ≤ i) w w4)).drewN 1).grown hG5 (fun k hk => .inl (by rw [← Option.some.inj hk]; exact h.gb))
    exact ⟨b3.os, b3.tape, b3.output, b3.size, fun k hk => b3.block k (by have := h.gp; have := hlt h.obj; omega) (by omega)⟩
  have HE := Lib.hid (And.intro hL5 hB5)
  have hwq : IntKind.i64.wrap (q.length : Int) = (q.length : Int) := by rw [IntKind.wrap_i64]; omega
  have hwq2 : wrap64 (q.length : Int) = (q.length : Int) := by unfold wrap64; omega
  obtain ⟨a0, c0, hvf⟩ := (RqOwn.rd hL1.own).form
  have hpl1 := hlt hL1.obj
  have p12 := hcell (j := 2) hL1.obj
  have hpl4 := hlt hL4.obj
  have p44 := hcell (j := 4) hL4.obj
  have hpl5 := hlt hL5.obj
  have p52 := hcell (j := 2) hL5.obj
  obtain ⟨hlq1, y0, y1, y2, y3, y4⟩ := hq1
  have hB34 : w4.cell? ⟨w.heap.size, 2, none⟩ = some (.int .i64 d2) := by
    have hne : w.heap.size ≠ p := fun e => by have := hlt h.obj; omega
    have hnv : v.ownBlock ≠ some w.heap.size := fun e => by have := olt h.own e; omega
    have e3 : w3.heap[w.heap.size]? = w1.heap[w.heap.size]? := (hG3.block _ (Nat.lt_of_lt_of_le hlq1 g2.sz) (fun e => hnv e.symm)).trans (g2.block _ hlq1)
    have e4 : w4.heap[w.heap.size]? = w1.heap[w.heap.size]? := by
      rw [← hw4]
      exact ((sgrown w3 ⟨p, 2, none⟩ v').block _ (Nat.lt_of_lt_of_le hlq1 (Nat.le_trans g2.sz hG3.size)) (fun e => hne (Option.some.inj e))).trans e3
    exact (World.cell?_of_block e4).trans y2
  have hB34l : w.heap.size < w4.heap.size := World.block_lt_of_cell? _ _ hB34
  have R3 := Lib.hid r3
  have R5 := Lib.hid r5
  have HW1 := Lib.hid hw1
  have HW4 := Lib.hid hw4
  have hc3 := hcell (j := 2) ho3
  have hf3 := hfz (j := 2) ho3
  subst hvf hv'
  clear h hb hL1 g1 g2 hbx hL2 hg2 hO3 hG3 hv3 hvp hvb ho3 hM3 hb3 hp3 hL4 hB4 hx hx1 hbd hM5 hG5 hL5 hB5 r3 r5 hw1 hw4 hkm hn hl
  unfold rqV
  go_enter Tryz.func97, Tryz.ntmps97
  go_wp2
  rw [HW1.out]
  go_region_law (refine step_app rfl (.tmp 10) (.tmp 12) 54 rfl _ _ _ _ rfl rfl R3.out ?_)
  all_goals
    go_wp2
    rw [HW4.out]
    refine wp_region_still_tail 8 (by kernel_rfl) (by kernel_rfl) ?_
    simp only [List.take_succ_cons, List.take_zero, List.drop_succ_cons, List.drop_zero]
    repeat still_step
    try refine wpStill_nil ?_
    change wpList _ _ _ _ _ w4.drew
    go_wp2_with (at_mapUpdate; refine wpl_mapUp rfl (.tmp 20) (.tmp 22) (.tmp 24) 137 rfl _ _ _ _ rfl rfl rfl R5.out ?_)
    go_ret
    exact ⟨rfl, _, HE.out⟩
end Go.Proofs.YtodnlelnpidliaaGreat
end

/- The developers' package queue: enter. -/
section
namespace Go.Proofs.YtodnlelnpidliaaGreat
open Go.RowKit Go.Maps Go.ChangeMaps
set_option linter.unusedVariables false      -- a contract need not use every name

def enR (R : Rq) (W : Int) : Rq := ⟨R.id, R.txn, R.md, R.wt, W + 1⟩
def ahB (q : List Rq) (R : Rq) : Bool := q.any fun X => decide (0 < X.sn) && decide (toI X R < 0)
theorem cntQ_same (q : List Rq) (k : Nat) (hk : k < q.length) (R : Rq) (hm : R.md = q[k].md) : cntQ (q.set k R) = cntQ q := by
  rw [cntQ_set q k hk R]
  funext x
  unfold setC
  rw [hm]
  by_cases e : x = q[k].md
  · rw [if_pos e, if_pos rfl, e]; omega
  · rw [if_neg e, if_neg e]
theorem Ln.eq {w : World} {g0 p : Nat} {t r W : Int} {v : Value} {b n : Nat} {q : List Rq} {c c' : Int → Int} (h : Ln w g0 p t r W v b n q c) (e : c = c') : Ln w g0 p t r W v b n q c' := e ▸ h
theorem Ln.wts {w : World} {g0 p : Nat} {t r W : Int} {v : Value} {b n : Nat} {q : List Rq} {c : Int → Int} (h : Ln w g0 p t r W v b n q c) (W' : Int) : Ln (w.setCell ⟨p, 3, none⟩ (.int .i64 W')) g0 p t r W' v b n q c :=
  ⟨hset (j := 3) _ h.obj, okeep h.own (sgrown w _ _) (fun g hv e => h.vp (hv.trans e.symm)), h.map.kept (sgrown w _ _) (fun e => h.bp (Option.some.inj e)), h.gp, h.gb⟩
theorem below_st {g0 : Nat} {w w' : World} (h : Below g0 w w') {p : Nat} (hp : g0 ≤ p) (j : Nat) (u : Value) : Below g0 w (w'.setCell ⟨p, j, none⟩ u) := Below.setCell h hp u
set_option maxRecDepth 100000 in
set_option maxHeartbeats 4000000 in
theorem dEnter {w : World} {g0 p b n : Nat} {t r W : Int} {v : Value} {q : List Rq} (h : Ln w g0 p t r W v b n q (cntQ q)) (k : Nat) (hk : k < q.length) (hW : 0 ≤ W ∧ W ≤ 4611686018427387904) (hkn : ∀ R ∈ q, knI R.md = true) (hkw : knI q[k].wt = true) (hn : n < 800000) (hl : q.length ≤ 1000)
    (B1 B2 : Bool) (hB1 : fitB (cntQ q) q[k].md q[k].wt = B1) (hB2 : ahB (q.set k (enR q[k] W)) (enR q[k] W) = B2) :
    Calls Tryz.prog 96 #[.pointer (some ⟨p, 0, none⟩), .int .i64 k] w fun e w' => e = .returned (.bool (B1 && !B2)) ∧ Below g0 w w' ∧ ∃ n', n' ≤ n + 2 ∧
      (if (B1 && !B2) = true then Ln w' g0 p t r W v b n' (q.set k ⟨q[k].id, q[k].txn, q[k].wt, q[k].wt, 0⟩) (cntQ (q.set k ⟨q[k].id, q[k].txn, q[k].wt, q[k].wt, 0⟩)) else Ln w' g0 p t r (W + 1) v b n' (q.set k (enR q[k] W)) (cntQ (q.set k (enR q[k] W)))) := by
  obtain ⟨g, cap, rfl, hg0, hgl, hce⟩ := RqOwn.at h.own hk
  have hki : (k : Int) < (q.length : Int) := by omega
  have hf0 := fun j => own_frz h.own rfl j
  have hup1 := own_upd h.own rfl k hk 4 (by decide) (.int .i64 (W + 1)) (enR q[k] W) rfl
  have hL1 := (h.row (a := ⟨g, k * 5 + 4, none⟩) rfl (.int .i64 (W + 1)) hup1).eq (cntQ_same q k hk (enR q[k] W) rfl).symm
  obtain ⟨w1, hw1⟩ : ∃ w1, w.setCell ⟨g, k * 5 + 4, none⟩ (.int .i64 (W + 1)) = w1 := ⟨_, rfl⟩
  have hb1 : Below g0 w w1 := by
    have b3 := (Tch.refl (fun i => g0 ≤ i) w).set (p := ⟨g, k * 5 + 4, none⟩) (.inl hg0) (.int .i64 (W + 1))
    rw [hw1] at b3
    exact ⟨b3.os, b3.tape, b3.output, b3.size, fun k hk => b3.block k (by have := h.gp; have := hlt h.obj; omega) (by omega)⟩
  rw [hw1] at hL1
  have hlen1 : (q.set k (enR q[k] W)).length = q.length := by simp
  obtain ⟨q1, hq1⟩ : ∃ q1, q.set k (enR q[k] W) = q1 := ⟨_, rfl⟩
  rw [hq1] at hL1 hB2 hlen1 ⊢
  have hk1 : k < q1.length := by omega
  have hq1k : q1[k] = enR q[k] W := by subst hq1; simp
  have hcnt : cntQ q1 = cntQ q := by rw [← hq1]; exact cntQ_same q k hk _ rfl
  have hmd : knI q[k].md = true := hkn _ (List.getElem_mem hk)
  have hset : q1.set k ⟨q[k].id, q[k].txn, q[k].wt, q[k].wt, 0⟩ = q.set k ⟨q[k].id, q[k].txn, q[k].wt, q[k].wt, 0⟩ := by rw [← hq1, List.set_set]
  have hmin : min W 9223372036854775806 = W := by omega
  have hwW : IntKind.i64.wrap (W + 1) = W + 1 := by rw [IntKind.wrap_i64]; omega
  have e2 := hce 2 _ rfl
  have e3 := hce 3 _ rfl
  have e4 := hce 4 _ rfl
  have hpl := hlt h.obj
  have p2 := hcell (j := 2) h.obj
  have p3 := hcell (j := 3) h.obj
  have HW1 := Lib.hid hw1
  have hc1 : ∀ j u, (rqrow (enR q[k] W))[j]? = some u → w1.cell? ⟨g, k * 5 + j, none⟩ = some u := fun j u hu => own_cell hL1.own hlen1.symm k hk1 j u (by rw [hq1k]; exact hu)
  have hpl1 := hlt hL1.obj
  have hgl1 := olt hL1.own rfl
  have s0 : ∀ x, Nw w1 x → x.cell? ⟨g, k * 5, none⟩ = some (.int .i64 q[k].id) := fun x hx => hx.kp (hc1 0 _ rfl)
  have s1 : ∀ x, Nw w1 x → x.cell? ⟨g, k * 5 + 1, none⟩ = some (.int .i64 q[k].txn) := fun x hx => hx.kp (hc1 1 _ rfl)
  have s2 : ∀ x, Nw w1 x → x.cell? ⟨g, k * 5 + 2, none⟩ = some (.int .i64 q[k].md) := fun x hx => hx.kp (hc1 2 _ rfl)
  have s3 : ∀ x, Nw w1 x → x.cell? ⟨g, k * 5 + 3, none⟩ = some (.int .i64 q[k].wt) := fun x hx => hx.kp (hc1 3 _ rfl)
  have s4 : ∀ x, Nw w1 x → x.cell? ⟨g, k * 5 + 4, none⟩ = some (.int .i64 (W + 1)) := fun x hx => hx.kp (hc1 4 _ rfl)
  have s5 : ∀ x, Nw w1 x → x.cell? ⟨p, 2, none⟩ = some (.slice (some ⟨g, 0, none⟩) q.length cap) := fun x hx => hx.kp (hcell (j := 2) hL1.obj)
  have HFt := Lib.hid (fun (x : World) (hx : Nw w1 x) => by
    have hLx := hL1.nw hx
    have := dFits p b n (cntQ q1) q[k].md q[k].wt _ _ _ _ _ x hLx.obj hLx.map (fun y => by have := cntQ_bd q1 y; omega) hkw
    rw [hcnt, hB1] at this
    exact this)
  have HAh := Lib.hid (dAheadOf (enR q[k] W))
  have HCo := Lib.hid (fun (x : World) (hx : Nw w1 x) (f : Value) (hf : Tells x f (fun X => decide (0 < X.sn) && decide (toI X (enR q[k] W) < 0))) => by
    have hLx := hL1.nw hx
    have := dContains _ f _ q1 x (by omega) (RqOwn.rd hLx.own) hf
    rw [show (q1.any fun X => decide (0 < X.sn) && decide (toI X (enR q[k] W) < 0)) = B2 from hB2] at this
    exact this)
  have HGr := Lib.hid (fun (x : World) (hx : Nw w1 x) => by
    have hLx : Ln x g0 p t r W (.slice (some ⟨g, 0, none⟩) q1.length cap) b n q1 (cntQ q1) := by rw [hlen1]; exact hL1.nw hx
    have := dGrant hLx k hk1 (by rw [hq1k]; exact hmd) (by rw [hq1k]; exact hkw) (fun y => by have := cntQ_bd q1 y; omega) (by omega) (by omega)
    rw [hlen1, show grtR q1[k] = ⟨q[k].id, q[k].txn, q[k].wt, q[k].wt, 0⟩ by rw [hq1k]; rfl] at this
    refine this.mono (R' := fun e w' => e = .returned (.tuple #[]) ∧ Ln w' g0 p t r W (.slice (some ⟨g, 0, none⟩) q.length cap) b (n + 2) (q.set k ⟨q[k].id, q[k].txn, q[k].wt, q[k].wt, 0⟩) (cntQ (q.set k ⟨q[k].id, q[k].txn, q[k].wt, q[k].wt, 0⟩)) ∧ Below g0 w w') ?_
    rintro e w' ⟨h1, h2, h3⟩
    rw [hset] at h2
    refine ⟨h1, h2.eq ?_, ?_⟩
    · rw [← hset, cntQ_set q1 k hk1]
      rw [hq1k]; rfl
    · have b3 : Tch (fun i => g0 ≤ i) w w' := ((⟨hb1.os, hb1.tape, hb1.output, hb1.size, fun k _ hk => hb1.block k (by omega)⟩ : Tch (fun i => g0 ≤ i) w w1).trans (Tch.nw hx)).trans' h3 (fun i _ hi => by rcases hi with rfl | rfl; exact h.gb; exact hg0)
      exact ⟨b3.os, b3.tape, b3.output, b3.size, fun k hk => b3.block k (by have := h.gp; have := hlt h.obj; omega) (by omega)⟩)
  have HL1 := Lib.hid (And.intro hL1 hb1)
  have HG := Lib.hid (And.intro h.gp hg0)
  have f3 := hfz (j := 3) hL1.obj
  clear hcnt hmd hset hkn hkw hn hB1 hB2 hq1 hq1k hlen1 hk1 hL1 hb1 hup1 hw1 hc1 hW hce h
  generalize q[k] = R at *
  obtain ⟨d0, d1, d2, d3, d4⟩ := R
  simp only [enR] at *
  unfold rqV at HAh
  go_enter Tryz.func96, Tryz.ntmps96
  go_wp2
  rw [HW1.out]
  have g1 := (Nw.refl w1).drewQ
  cases B1 <;> cases B2
  all_goals
   refine region_told [some true, some true, some true, some true, some true, some true, some true, some true, some true, some false, none, some true, some true, some true, some true, some true, some true, some true, some true, some true, some false, none, some false, none, some true, some true] (Nw w1) (by kernel_rfl) (by kernel_rfl) (by kernel_rfl) g1 ?_
   obtain ⟨wc, hwc⟩ : ∃ wc, w1.drew = wc := ⟨_, rfl⟩
   rw [hwc] at g1 ⊢
   clear hwc
   repeat (first
    | (refine HW.off ?_)
    | (refine HW.take' ?_; (first | (refine ⟨undef, Or.inr ⟨by rfl, rfl⟩, ?_⟩) | (apply Exists.intro; refine ⟨Or.inl ⟨by rfl, ?_⟩, ?_⟩; (intro x hx; go_simp; first | done | with_reducible rfl))); (try simp only [Act.put, List.setIfInBounds_toArray, List.set_cons_zero, List.set_cons_succ]))
    | (refine HW.go (fun K hK => ?_); go_simp; (first
      | (go_at_call 119; (with_reducible refine (HFt.out _ g1).mono ?_); rintro e wy ⟨rfl, g2⟩; refine hK.out _ _ (g1.trans g2) ?_; intro _; replace g1 := g1.trans g2; clear hK K g2)
      | (go_at_call 121; (with_reducible refine (HAh.out _).mono ?_); rintro e wy ⟨pa, rfl, g2, hbx⟩; refine hK.out _ _ (g1.trans g2) ?_; intro _; replace g1 := g1.trans g2; clear hK K g2; replace hbx := Tells.ahead (S := ⟨d0, d1, d2, d3, W + 1⟩) hbx)
      | (go_at_call 120; (with_reducible refine (HCo.out _ g1 _ hbx).mono ?_); rintro e wy ⟨rfl, g2⟩; refine hK.out _ _ (g1.trans g2) ?_; intro _; replace g1 := g1.trans g2; clear hK K g2 hbx)
      | (refine hK.out _ _ g1 ?_; intro _; clear hK K))))
   refine HW.end_ ?_
   refine NoPanic.normal ?_
   replace HL1 := Lib.hid (And.intro (HL1.out.1.nw g1) (Nw.below (B := g0) HL1.out.2 g1 (by have := HG.out.1; omega)))
   have s0' := s0 _ g1
   have s4' := s4 _ g1
   have s5' := s5 _ g1
   have hpl2 := hlt HL1.out.1.obj
   have hgl2 := olt HL1.out.1.own rfl
   have f3' := hfz (j := 3) HL1.out.1.obj
   have p3' := hcell (j := 3) HL1.out.1.obj
   clear s0 s1 s2 s3 s4 s5 f3 hf0 p2 p3 hpl hpl1 hgl1 HW1 hmin hwW HFt HAh HCo hgl
  · go_wp2
    go_ret
    exact ⟨rfl, below_st HL1.out.2 HG.out.1 3 _, n, by omega, HL1.out.1.wts _⟩
  · go_wp2
    go_ret
    exact ⟨rfl, below_st HL1.out.2 HG.out.1 3 _, n, by omega, HL1.out.1.wts _⟩
  · go_wp2_with (go_at_call 122; (with_reducible refine (HGr.out _ g1).mono ?_); rintro e wz ⟨rfl, hLz, hBz⟩)
    go_ret
    exact ⟨rfl, hBz, _, Nat.le_refl _, hLz⟩
  · go_wp2
    go_ret
    exact ⟨rfl, below_st HL1.out.2 HG.out.1 3 _, n, by omega, HL1.out.1.wts _⟩
end Go.Proofs.YtodnlelnpidliaaGreat
end

/- The document's own queue: Hand. -/
section
namespace Go.Proofs.YtodnlelnpidliaaGreat
open Go.RowKit
set_option linter.unusedVariables false      -- a contract need not use every name

theorem id_ne {W : Int} {q : List Rq} (h : Ok W q) {m k : Nat} (hm : m < q.length) (hk : k < q.length) (ne : m ≠ k) : q[m].id ≠ q[k].id := by
  rcases Nat.lt_or_gt_of_ne ne with g | g
  · exact (List.pairwise_iff_getElem.1 h.pr m k hm hk g).id
  · exact fun e => (List.pairwise_iff_getElem.1 h.pr k m hk hm g).id e.symm
theorem hn_hit {W : Int} {q : List Rq} {id x : Int} {m k : Nat} (h : Ok W q) (hk : k < q.length) (hf : fnd q id = some q[k]) (hm : m < q.length) (ne : m ≠ k) (e : q[m].txn = x) : (q.any fun o => !(o.id == id) && o.txn == x) = true := by
  have := id_ne h hm hk ne
  rw [(fnd_is hf).2] at this
  exact List.any_eq_true.2 ⟨q[m], List.getElem_mem hm, by simp [this, e]⟩
theorem hn_none {q : List Rq} {id x : Int} {k : Nat} (hk : k < q.length) (hf : fnd q id = some q[k]) (h : ∀ m (hm : m < q.length), m ≠ k → q[m].txn ≠ x) : (q.any fun o => !(o.id == id) && o.txn == x) = false := by
  rw [List.any_eq_false]
  intro a ha
  obtain ⟨m, hm, rfl⟩ := List.getElem_of_mem ha
  by_cases e : m = k
  · subst e; simp [(fnd_is hf).2]
  · simp [h m hm e]
theorem hn_at {W : Int} {q : List Rq} {id x : Int} {k : Nat} (h : Ok W q) (hk : k < q.length) (hf : fnd q id = some q[k]) : chg (fun r => ⟨r.id, x, r.md, r.wt, r.sn⟩) id q = q.set k ⟨q[k].id, x, q[k].md, q[k].wt, q[k].sn⟩ := by
  rw [← chg_set h (fun r => ⟨r.id, x, r.md, r.wt, r.sn⟩) k hk, (fnd_is hf).2]
end Go.Proofs.YtodnlelnpidliaaGreat
end
