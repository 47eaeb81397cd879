
/- The developers' package queue: a request more. -/
import Derived.Test.YtmciiobncfchlaaQvF
import Derived.Deep.RegionLaw
namespace Go.Proofs.Ytmciiobncfchlaa
open Go.RowKit Go.Maps Go.ChangeMaps
set_option linter.unusedVariables false      -- a contract need not use every name

theorem step_app {P : Program} {ops : Array Oper} {o : Oper} {a : Act} {w : World} {K : Act → World → Prop} {Q : Exit → Act → World → Prop} {E : Prop} (hgd : o.guard = none) (s x : Operand) (t : TypeId)
    (ho : o.op = .call { callee := .builtin .append, args := #[s, x], argTypes := #[t, t] }) (v u v' : Value) (w' : World) (hs : a.eval s = v) (hx : a.eval x = u) (hr : (Builtin.append_ #[t, t] o.type #[v, u]).run P w = .ok v' w')
    (h : K (a.put o.dst v') w') : if Region.wanted o (yielded ops a.tmps) = true then Oper.wp P o a w K Q else E := by
  have hw : Region.wanted o (yielded ops a.tmps) = true := by simp [Region.wanted, hgd]
  rw [if_pos hw]
  unfold Oper.wp execOp
  simp only [ho, resolve, invoke, builtin, Sem.run_bind, Sem.run_pure, Result.andThen_ok, List.map_toArray, List.map_cons, List.map_nil, hs, hx, hr]
  exact h
theorem Tch.st {S : Nat → Prop} {a b : World} (h : Tch S a b) {p : Nat} (hp : S p) (j : Nat) (u : Value) : Tch S a (b.setCell ⟨p, j, none⟩ u) := h.set (p := ⟨p, j, none⟩) (.inl hp) u
set_option maxRecDepth 100000 in
set_option maxHeartbeats 4000000 in
theorem dAdd {w : World} {g0 p b n : Nat} {t r W : Int} {v : Value} {q : List Rq} {c : Int → Int} (h : Ln w g0 p t r W v b n q c) (R : Rq) (hkm : knI R.md = true) (hb : ∀ x, 0 ≤ c x ∧ c x ≤ 100000) (hn : n < 900000) (hl : q.length ≤ 1000) :
    Calls Try.prog 41 #[.pointer (some ⟨p, 0, none⟩), rqV R] w fun e w' => e = .returned (.int .i64 q.length) ∧ ∃ v', Ln w' g0 p t r W v' b (n + 1) (q ++ [R]) (setC c R.md (c R.md + 1)) ∧ Below g0 w w' := by
  have hbd := hb R.md
  obtain ⟨d0, d1, d2, d3, d4⟩ := R
  simp only at *
  have g1 : Nw w (w.alloc (.cells #[.int .i64 d0, .int .i64 d1, .int .i64 d2, .int .i64 d3, .int .i64 d4] 41)) := (Nw.refl w).alloc _
  have hq1 := RqB.made w d0 d1 d2 d3 d4 41
  obtain ⟨w1, hw1⟩ : ∃ w1, w.alloc (.cells #[.int .i64 d0, .int .i64 d1, .int .i64 d2, .int .i64 d3, .int .i64 d4] 41) = w1 := ⟨_, rfl⟩
  rw [hw1] at g1 hq1
  have hL1 := h.nw g1
  have g2 : Nw w1 ((w1.alloc (.cells #[.int .i64 d0, .int .i64 d1, .int .i64 d2, .int .i64 d3, .int .i64 d4] 41)).drew) := ((Nw.refl w1).alloc _).drewN 1
  have hbx := RqB.made w1 d0 d1 d2 d3 d4 41
  have hL2 := hL1.nw g2
  have hg2 : g0 ≤ w1.heap.size := by have := hL1.gp; have := hlt hL1.obj; omega
  obtain ⟨v', w3, r3, hO3, hG3, hv3, ⟨g', cap', hv'⟩⟩ := Own.push elemRq hL2.own ⟨d0, d1, d2, d3, d4⟩ w1.heap.size 1 (fun j u hu => (hbx.nw ((Nw.refl _).drewN 1)).cells j u hu) (by omega) (Nat.le_trans hg2 g2.sz)
  have hvp := hL2.vp
  have hvb := hL2.vb
  have ho3 : w3.heap[p]? = some _ := (hG3.block p (hlt hL2.obj) (fun e => hvp e.symm)).trans hL2.obj
  have hM3 := hL2.map.kept hG3 (fun e => hvb e.symm)
  have hb3 := hset (j := 2) v' ho3
  have hp3 : v'.ownBlock ≠ some p := fun e => by
    obtain ⟨cs, hc⟩ := oheap hO3 e
    rw [ho3] at hc
    injection hc with hc
    injection hc with _ hc
    exact absurd hc.symm types_ne
  have hL4 : Ln (w3.setCell ⟨p, 2, none⟩ v') g0 p t r W v' b n (q ++ [⟨d0, d1, d2, d3, d4⟩]) c :=
    ⟨hb3, okeep hO3 (sgrown w3 _ v') (fun g hv e => hp3 (hv.trans e.symm)), hM3.kept (sgrown w3 _ v') (fun e => hL2.bp (Option.some.inj e)), hL2.gp, hL2.gb⟩
  have hB4 : Below g0 w (w3.setCell ⟨p, 2, none⟩ v') := by
    have b2 : Tch (fun i => g0 ≤ i) w ((w1.alloc (.cells #[.int .i64 d0, .int .i64 d1, .int .i64 d2, .int .i64 d3, .int .i64 d4] 41)).drew) := Tch.nw (g1.trans g2)
    have b3 := (b2.grown hG3 (fun k hk => .inl (oge h.own hk))).set (p := ⟨p, 2, none⟩) (.inl h.gp) v'
    exact ⟨b3.os, b3.tape, b3.output, b3.size, fun k hk => b3.block k (by have := h.gp; have := hlt h.obj; omega) (by omega)⟩
  obtain ⟨w4, hw4⟩ : ∃ w4, w3.setCell ⟨p, 2, none⟩ v' = w4 := ⟨_, rfl⟩
  rw [hw4] at hL4 hB4
  have hlk := (hL4.map.nw (Nw.refl w4).drew1).look hkm
  obtain ⟨x, hx⟩ : ∃ x, c d2 = x := ⟨_, rfl⟩
  rw [hx] at hlk hbd ⊢
  obtain ⟨x1, hx1⟩ : ∃ x1, x + 1 = x1 := ⟨_, rfl⟩
  rw [hx1]
  have hwx : IntKind.i64.wrap (x + 1) = x1 := by rw [IntKind.wrap_i64]; omega
  obtain ⟨w5, r5, hM5, hG5⟩ := (hL4.map.nw (Nw.refl w4).drew1).put (by omega) hkm (x := x1) (by omega) (by omega)
  have hL5 := (hL4.nw (Nw.refl w4).drew1).put hM5 hG5
  have hB5 : Below g0 w w5 := by
    have b3 : Tch (fun i => g0 ≤ i) w w5 := (((⟨hB4.os, hB4.tape, hB4.output, hB4.size, fun k _ hk => hB4.block k (by omega)⟩ : Tch (fun i => g0 ≤ i) w w4)).drewN 1).grown hG5 (fun k hk => .inl (by rw [← Option.some.inj hk]; exact h.gb))
    exact ⟨b3.os, b3.tape, b3.output, b3.size, fun k hk => b3.block k (by have := h.gp; have := hlt h.obj; omega) (by omega)⟩
  have HE := Lib.hid (And.intro hL5 hB5)
  have hwq : IntKind.i64.wrap (q.length : Int) = (q.length : Int) := by rw [IntKind.wrap_i64]; omega
  have hwq2 : wrap64 (q.length : Int) = (q.length : Int) := by unfold wrap64; omega
  obtain ⟨a0, c0, hvf⟩ := (RqOwn.rd hL1.own).form
  have hpl1 := hlt hL1.obj
  have p12 := hcell (j := 2) hL1.obj
  have hpl4 := hlt hL4.obj
  have p44 := hcell (j := 4) hL4.obj
  have hpl5 := hlt hL5.obj
  have p52 := hcell (j := 2) hL5.obj
  obtain ⟨hlq1, y0, y1, y2, y3, y4⟩ := hq1
  have hB34 : w4.cell? ⟨w.heap.size, 2, none⟩ = some (.int .i64 d2) := by
    have hne : w.heap.size ≠ p := fun e => by have := hlt h.obj; omega
    have hnv : v.ownBlock ≠ some w.heap.size := fun e => by have := olt h.own e; omega
    have e3 : w3.heap[w.heap.size]? = w1.heap[w.heap.size]? := (hG3.block _ (Nat.lt_of_lt_of_le hlq1 g2.sz) (fun e => hnv e.symm)).trans (g2.block _ hlq1)
    have e4 : w4.heap[w.heap.size]? = w1.heap[w.heap.size]? := by
      rw [← hw4]
      exact ((sgrown w3 ⟨p, 2, none⟩ v').block _ (Nat.lt_of_lt_of_le hlq1 (Nat.le_trans g2.sz hG3.size)) (fun e => hne (Option.some.inj e))).trans e3
    exact (World.cell?_of_block e4).trans y2
  have hB34l : w.heap.size < w4.heap.size := World.block_lt_of_cell? _ _ hB34
  have R3 := Lib.hid r3
  have R5 := Lib.hid r5
  have HW1 := Lib.hid hw1
  have HW4 := Lib.hid hw4
  have hc3 := hcell (j := 2) ho3
  have hf3 := hfz (j := 2) ho3
  subst hvf hv'
  clear h hb hL1 g1 g2 hbx hL2 hg2 hO3 hG3 hv3 hvp hvb ho3 hM3 hb3 hp3 hL4 hB4 hx hx1 hbd hM5 hG5 hL5 hB5 r3 r5 hw1 hw4 hkm hn hl
  unfold rqV
  go_enter Try.func41, Try.ntmps41
  go_wp2
  rw [HW1.out]
  go_region_law (refine step_app rfl (.tmp 10) (.tmp 12) 25 rfl _ _ _ _ rfl rfl R3.out ?_)
  all_goals
    go_wp2
    rw [HW4.out]
    refine wp_region_still_tail 8 (by kernel_rfl) (by kernel_rfl) ?_
    simp only [List.take_succ_cons, List.take_zero, List.drop_succ_cons, List.drop_zero]
    repeat still_step
    try refine wpStill_nil ?_
    change wpList _ _ _ _ _ w4.drew
    go_wp2_with (at_mapUpdate; refine wpl_mapUp rfl (.tmp 20) (.tmp 22) (.tmp 24) 72 rfl _ _ _ _ rfl rfl rfl R5.out ?_)
    go_ret
    exact ⟨rfl, _, HE.out⟩
end Go.Proofs.Ytmciiobncfchlaa
