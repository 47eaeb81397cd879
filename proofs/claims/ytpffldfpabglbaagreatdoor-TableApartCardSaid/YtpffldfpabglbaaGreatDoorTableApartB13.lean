/- Texts merged: QvF, QvG, QvH, QvI, QvO, QuV, QvK, QvJ -/
import Derived.Test.YtpffldfpabglbaaGreatDoorTableApartB12
import Derived.Deep.RegionLaw
import Derived.Lib.SliceRun
import Derived.Deep.Upon

/- The developers' package queue: a grant; a request more. -/
section
namespace Go.Proofs.YtpffldfpabglbaaGreatDoor
open Go.RowKit Go.Maps Go.ChangeMaps
set_option linter.unusedVariables false      -- a contract need not use every name

theorem cntQ_set (q : List Rq) (k : Nat) (hk : k < q.length) (R : Rq) : cntQ (q.set k R) = setC (setC (cntQ q) q[k].md (cntQ q q[k].md - 1)) R.md (setC (cntQ q) q[k].md (cntQ q q[k].md - 1) R.md + 1) := by
  have e : q = q.take k ++ q[k] :: q.drop (k + 1) := by rw [← List.drop_eq_getElem_cons hk, List.take_append_drop]
  have hs : q.set k R = q.take k ++ R :: q.drop (k + 1) := by
    have := set_mid (q.take k) (q.drop (k + 1)) q[k] R k (by simp; omega)
    rwa [← e] at this
  have c1 : ∀ x, cntQ (q.set k R) x = ((q.take k).countP fun R => R.md == x : Nat) + ((q.drop (k + 1)).countP fun R => R.md == x : Nat) + (if R.md = x then 1 else 0) := by
    intro x
    unfold cntQ
    rw [hs, List.countP_append, List.countP_cons]
    simp only [beq_iff_eq]
    split <;> omega
  have c2 : ∀ x, cntQ q x = ((q.take k).countP fun R => R.md == x : Nat) + ((q.drop (k + 1)).countP fun R => R.md == x : Nat) + (if q[k].md = x then 1 else 0) := by
    intro x
    have : cntQ q x = cntQ (q.take k ++ q[k] :: q.drop (k + 1)) x := by rw [← e]
    rw [this]
    unfold cntQ
    rw [List.countP_append, List.countP_cons]
    simp only [beq_iff_eq]
    split <;> omega
  funext x
  rw [c1 x]
  unfold setC
  have h2 := c2 x
  have h3 := c2 R.md
  have h4 := c2 q[k].md
  simp only [if_true] at h4
  by_cases a : x = R.md
  · subst a
    rw [if_pos rfl]
    by_cases d : R.md = q[k].md
    · rw [if_pos d, ← d]; rw [← d] at h2; simp only [if_true] at h2 ⊢; omega
    · rw [if_neg d]; rw [if_neg (fun e => d e.symm)] at h2; simp only [if_true]; omega
  · rw [if_neg a, if_neg (fun e => a e.symm)]
    by_cases d : x = q[k].md
    · rw [if_pos d, ← d]; rw [← d] at h2; simp only [if_true] at h2; omega
    · rw [if_neg d]; rw [if_neg (fun e => d e.symm)] at h2; omega
theorem Ln.row {w : World} {g0 p : Nat} {t r W : Int} {v : Value} {b n : Nat} {q q' : List Rq} {c : Int → Int} (h : Ln w g0 p t r W v b n q c) {a : Addr} (ha : v.ownBlock = some a.block) (u : Value) (ho : RqOwn (w.setCell a u) g0 v q') : Ln (w.setCell a u) g0 p t r W v b n q' c :=
  ⟨((sgrown w a u).block p (hlt h.obj) (fun e => h.vp (ha.trans e.symm))).trans h.obj, ho, h.map.kept (sgrown w a u) (fun e => h.vb (ha.trans e.symm)), h.gp, h.gb⟩
set_option maxRecDepth 100000 in
set_option maxHeartbeats 2000000 in
theorem dGrant {w : World} {g0 p g cap b n : Nat} {t r W : Int} {q : List Rq} {c : Int → Int} (h : Ln w g0 p t r W (.slice (some ⟨g, 0, none⟩) q.length cap) b n q c) (k : Nat) (hk : k < q.length) (hkm : knI q[k].md = true) (hkw : knI q[k].wt = true) (hb : ∀ x, 0 ≤ c x ∧ c x ≤ 100000) (hn : n < 900000) (hl : q.length ≤ 1000) :
    Calls Tryz.prog 213 #[.pointer (some ⟨p, 0, none⟩), .int .i64 k] w fun e w' => e = .returned (.tuple #[]) ∧
      Ln w' g0 p t r W (.slice (some ⟨g, 0, none⟩) q.length cap) b (n + 2) (q.set k (grtR q[k])) (setC (setC c q[k].md (c q[k].md - 1)) q[k].wt (setC c q[k].md (c q[k].md - 1) q[k].wt + 1)) ∧ Tch (fun i => i = b ∨ i = g) w w' := by
  have hbd := hb q[k].md
  have hbd2 : -1 ≤ setC c q[k].md (c q[k].md - 1) q[k].wt ∧ setC c q[k].md (c q[k].md - 1) q[k].wt ≤ 100000 := by
    unfold setC
    have := hb q[k].wt
    split <;> omega
  have hki : (k : Int) < (q.length : Int) := by omega
  have hLd := h.nw (Nw.refl w).drewQ
  have hlk := hLd.map.look hkm
  obtain ⟨x, hx⟩ : ∃ x, c q[k].md = x := ⟨_, rfl⟩
  rw [hx] at hlk hbd hbd2 ⊢
  obtain ⟨x1, hx1⟩ : ∃ x1, x - 1 = x1 := ⟨_, rfl⟩
  rw [hx1] at hbd2 ⊢
  have hwx : IntKind.i64.wrap (x - 1) = x1 := by rw [IntKind.wrap_i64]; omega
  obtain ⟨w1, r1, hM1, hG1⟩ := hLd.map.put (by omega) hkm (x := x1) (by omega) (by omega)
  have hL1 := hLd.put hM1 hG1
  -- the row's cells
  have hcs : ∀ (x : World), RqOwn x g0 (.slice (some ⟨g, 0, none⟩) q.length cap) q → ∀ j u, (rqrow q[k])[j]? = some u → x.cell? ⟨g, k * 5 + j, none⟩ = some u := fun x ho j u hu => own_cell ho rfl k hk j u hu
  have hcw := hcs _ h.own
  have hc1 := hcs _ hL1.own
  have hf1 := fun j => own_frz hL1.own rfl j
  have hup := own_upd (own_upd hL1.own rfl k hk 2 (by decide) (.int .i64 q[k].wt) ⟨q[k].id, q[k].txn, q[k].wt, q[k].wt, q[k].sn⟩ rfl) (by rw [List.length_set]) k (by rw [List.length_set]; exact hk) 4 (by decide) (.int .i64 0) (grtR q[k]) (by rw [List.getElem_set_self]; rfl)
  rw [List.set_set] at hup
  have hup1 := own_upd hL1.own rfl k hk 2 (by decide) (.int .i64 q[k].wt) ⟨q[k].id, q[k].txn, q[k].wt, q[k].wt, q[k].sn⟩ rfl
  have hL2' := hL1.row (a := ⟨g, k * 5 + 2, none⟩) rfl (.int .i64 q[k].wt) hup1
  have hL2 := hL2'.row (a := ⟨g, k * 5 + 4, none⟩) rfl (.int .i64 0) hup
  obtain ⟨w2, hw2⟩ : ∃ w2, (w1.setCell ⟨g, k * 5 + 2, none⟩ (.int .i64 q[k].wt)).setCell ⟨g, k * 5 + 4, none⟩ (.int .i64 0) = w2 := ⟨_, rfl⟩
  have hT2 : Tch (fun i => i = b ∨ i = g) w w2 := by
    rw [← hw2]
    exact (((Tch.nw (Nw.refl w).drewQ).grown hG1 (fun k hk => .inl (.inl (Option.some.inj hk).symm))).set (p := ⟨g, k * 5 + 2, none⟩) (.inl (.inr rfl)) _).set (p := ⟨g, k * 5 + 4, none⟩) (.inl (.inr rfl)) _
  rw [hw2] at hL2
  have hLd2 := hL2.nw (Nw.refl w2).drewQ
  have hlk2 := hLd2.map.look hkw
  obtain ⟨y, hy⟩ : ∃ y, setC c q[k].md x1 q[k].wt = y := ⟨_, rfl⟩
  rw [hy] at hlk2 hbd2 ⊢
  obtain ⟨y1, hy1⟩ : ∃ y1, y + 1 = y1 := ⟨_, rfl⟩
  rw [hy1]
  have hwy : IntKind.i64.wrap (y + 1) = y1 := by rw [IntKind.wrap_i64]; omega
  obtain ⟨w3, r3, hM3, hG3⟩ := hLd2.map.put (by omega) hkw (x := y1) (by omega) (by omega)
  have hL3 := hLd2.put hM3 hG3
  have hT3 : Tch (fun i => i = b ∨ i = g) w w3 := (hT2.drewN 1).grown hG3 (fun k hk => .inl (.inl (Option.some.inj hk).symm))
  have HE := Lib.hid (And.intro hL3 hT3)
  have hpl := hlt h.obj
  have hgl := olt h.own rfl
  have p2 := hcell (j := 2) h.obj
  have p4 := hcell (j := 4) h.obj
  have hpl1 := hlt hL1.obj
  have hgl1 := olt hL1.own rfl
  have p12 := hcell (j := 2) hL1.obj
  have p14 := hcell (j := 4) hL1.obj
  have hpl2 := hlt hL2.obj
  have hgl2 := olt hL2.own rfl
  have p22 := hcell (j := 2) hL2.obj
  have p24 := hcell (j := 4) hL2.obj
  have hc2 := own_cell hL2.own (by rw [List.length_set]) k (by rw [List.length_set]; exact hk) 2 (.int .i64 q[k].wt) (by rw [List.getElem_set_self]; rfl)
  have R1 := Lib.hid r1
  have R3 := Lib.hid r3
  have HW2 := Lib.hid hw2
  have a2 := hcw 2 _ rfl
  have a3 := hcw 3 _ rfl
  have b2 := hc1 2 _ rfl
  have b3 := hc1 3 _ rfl
  have b4 := hc1 4 _ rfl
  clear h hb hLd hx hx1 hbd hbd2 hM1 hG1 hL1 hcs hcw hc1 hup hup1 hL2' hL2 hw2 hT2 hLd2 hy hy1 hM3 hG3 hL3 hT3 r1 r3 hkm hkw hn hl
  generalize q[k] = R at *
  obtain ⟨d0, d1, d2, d3, d4⟩ := R
  simp only at *
  go_enter Tryz.func213, Tryz.ntmps213
  go_wp2
  refine wp_region_still_tail 10 (by kernel_rfl) (by kernel_rfl) ?_
  simp only [List.take_succ_cons, List.take_zero, List.drop_succ_cons, List.drop_zero]
  repeat still_step
  try refine wpStill_nil ?_
  change wpList _ _ _ _ _ w.drew
  go_wp2_with (at_mapUpdate; refine wpl_mapUp rfl (.tmp 15) (.tmp 19) (.tmp 21) 198 rfl _ _ _ _ rfl rfl rfl R1.out ?_)
  rw [HW2.out]
  refine wp_region_still_tail 10 (by kernel_rfl) (by kernel_rfl) ?_
  simp only [List.take_succ_cons, List.take_zero, List.drop_succ_cons, List.drop_zero]
  repeat still_step
  try refine wpStill_nil ?_
  change wpList _ _ _ _ _ w2.drew
  go_wp2_with (at_mapUpdate; refine wpl_mapUp rfl (.tmp 35) (.tmp 39) (.tmp 41) 198 rfl _ _ _ _ rfl rfl rfl R3.out ?_)
  exact bodyPost_end (results_none rfl _ _ _) rfl ⟨rfl, HE.out⟩
end Go.Proofs.YtpffldfpabglbaaGreatDoor
end

/- The developers' package queue: a request more. -/
section
namespace Go.Proofs.YtpffldfpabglbaaGreatDoor
open Go.RowKit Go.Maps Go.ChangeMaps
set_option linter.unusedVariables false      -- a contract need not use every name

theorem step_app {P : Program} {ops : Array Oper} {o : Oper} {a : Act} {w : World} {K : Act → World → Prop} {Q : Exit → Act → World → Prop} {E : Prop} (hgd : o.guard = none) (s x : Operand) (t : TypeId)
    (ho : o.op = .call { callee := .builtin .append, args := #[s, x], argTypes := #[t, t] }) (v u v' : Value) (w' : World) (hs : a.eval s = v) (hx : a.eval x = u) (hr : (Builtin.append_ #[t, t] o.type #[v, u]).run P w = .ok v' w')
    (h : K (a.put o.dst v') w') : if Region.wanted o (yielded ops a.tmps) = true then Oper.wp P o a w K Q else E := by
  have hw : Region.wanted o (yielded ops a.tmps) = true := by simp [Region.wanted, hgd]
  rw [if_pos hw]
  unfold Oper.wp execOp
  simp only [ho, resolve, invoke, builtin, Sem.run_bind, Sem.run_pure, Result.andThen_ok, List.map_toArray, List.map_cons, List.map_nil, hs, hx, hr]
  exact h
theorem Tch.st {S : Nat → Prop} {a b : World} (h : Tch S a b) {p : Nat} (hp : S p) (j : Nat) (u : Value) : Tch S a (b.setCell ⟨p, j, none⟩ u) := h.set (p := ⟨p, j, none⟩) (.inl hp) u
set_option maxRecDepth 100000 in
set_option maxHeartbeats 4000000 in
theorem dAdd {w : World} {g0 p b n : Nat} {t r W : Int} {v : Value} {q : List Rq} {c : Int → Int} (h : Ln w g0 p t r W v b n q c) (R : Rq) (hkm : knI R.md = true) (hb : ∀ x, 0 ≤ c x ∧ c x ≤ 100000) (hn : n < 900000) (hl : q.length ≤ 1000) :
    Calls Tryz.prog 174 #[.pointer (some ⟨p, 0, none⟩), rqV R] w fun e w' => e = .returned (.int .i64 q.length) ∧ ∃ v', Ln w' g0 p t r W v' b (n + 1) (q ++ [R]) (setC c R.md (c R.md + 1)) ∧ Below g0 w w' := by
  have hbd := hb R.md
  obtain ⟨d0, d1, d2, d3, d4⟩ := R
  simp only at *
  have g1 : Nw w (w.alloc (.cells #[.int .i64 d0, .int .i64 d1, .int .i64 d2, .int .i64 d3, .int .i64 d4] 50)) := (Nw.refl w).alloc _
  have hq1 := RqB.made w d0 d1 d2 d3 d4 50
  obtain ⟨w1, hw1⟩ : ∃ w1, w.alloc (.cells #[.int .i64 d0, .int .i64 d1, .int .i64 d2, .int .i64 d3, .int .i64 d4] 50) = w1 := ⟨_, rfl⟩
  rw [hw1] at g1 hq1
  have hL1 := h.nw g1
  have g2 : Nw w1 ((w1.alloc (.cells #[.int .i64 d0, .int .i64 d1, .int .i64 d2, .int .i64 d3, .int .i64 d4] 50)).drew) := ((Nw.refl w1).alloc _).drewN 1
  have hbx := RqB.made w1 d0 d1 d2 d3 d4 50
  have hL2 := hL1.nw g2
  have hg2 : g0 ≤ w1.heap.size := by have := hL1.gp; have := hlt hL1.obj; omega
  obtain ⟨v', w3, r3, hO3, hG3, hv3, ⟨g', cap', hv'⟩⟩ := Own.push elemRq hL2.own ⟨d0, d1, d2, d3, d4⟩ w1.heap.size 1 (fun j u hu => (hbx.nw ((Nw.refl _).drewN 1)).cells j u hu) (by omega) (Nat.le_trans hg2 g2.sz)
  have hvp := hL2.vp
  have hvb := hL2.vb
  have ho3 : w3.heap[p]? = some _ := (hG3.block p (hlt hL2.obj) (fun e => hvp e.symm)).trans hL2.obj
  have hM3 := hL2.map.kept hG3 (fun e => hvb e.symm)
  have hb3 := hset (j := 2) v' ho3
  have hp3 : v'.ownBlock ≠ some p := fun e => by
    obtain ⟨cs, hc⟩ := oheap hO3 e
    rw [ho3] at hc
    injection hc with hc
    injection hc with _ hc
    exact absurd hc.symm types_ne
  have hL4 : Ln (w3.setCell ⟨p, 2, none⟩ v') g0 p t r W v' b n (q ++ [⟨d0, d1, d2, d3, d4⟩]) c :=
    ⟨hb3, okeep hO3 (sgrown w3 _ v') (fun g hv e => hp3 (hv.trans e.symm)), hM3.kept (sgrown w3 _ v') (fun e => hL2.bp (Option.some.inj e)), hL2.gp, hL2.gb⟩
  have hB4 : Below g0 w (w3.setCell ⟨p, 2, none⟩ v') := by
    have b2 : Tch (fun i => g0 ≤ i) w ((w1.alloc (.cells #[.int .i64 d0, .int .i64 d1, .int .i64 d2, .int .i64 d3, .int .i64 d4] 50)).drew) := Tch.nw (g1.trans g2)
    have b3 := (b2.grown hG3 (fun k hk => .inl (oge h.own hk))).set (p := ⟨p, 2, none⟩) (.inl h.gp) v'
    exact ⟨b3.os, b3.tape, b3.output, b3.size, fun k hk => b3.block k (by have := h.gp; have := hlt h.obj; omega) (by omega)⟩
  obtain ⟨w4, hw4⟩ : ∃ w4, w3.setCell ⟨p, 2, none⟩ v' = w4 := ⟨_, rfl⟩
  rw [hw4] at hL4 hB4
  have hlk := (hL4.map.nw (Nw.refl w4).drewQ).look hkm
  obtain ⟨x, hx⟩ : ∃ x, c d2 = x := ⟨_, rfl⟩
  rw [hx] at hlk hbd ⊢
  obtain ⟨x1, hx1⟩ : ∃ x1, x + 1 = x1 := ⟨_, rfl⟩
  rw [hx1]
  have hwx : IntKind.i64.wrap (x + 1) = x1 := by rw [IntKind.wrap_i64]; omega
  obtain ⟨w5, r5, hM5, hG5⟩ := (hL4.map.nw (Nw.refl w4).drewQ).put (by omega) hkm (x := x1) (by omega) (by omega)
  have hL5 := (hL4.nw (Nw.refl w4).drewQ).put hM5 hG5
  have hB5 : Below g0 w w5 := by
    have b3 : Tch (fun i => g0 ≤ i) w w5 := (((⟨hB4.os, hB4.tape, hB4.output, hB4.size, fun k _ hk => hB4.block k (by omega)⟩ : Tch (fun i => g0 ≤ i) w w4)).drewN 1).grown hG5 (fun k hk => .inl (by rw [← Option.some.inj hk]; exact h.gb))
    exact ⟨b3.os, b3.tape, b3.output, b3.size, fun k hk => b3.block k (by have := h.gp; have := hlt h.obj; omega) (by omega)⟩
  have HE := Lib.hid (And.intro hL5 hB5)
  have hwq : IntKind.i64.wrap (q.length : Int) = (q.length : Int) := by rw [IntKind.wrap_i64]; omega
  have hwq2 : wrap64 (q.length : Int) = (q.length : Int) := by unfold wrap64; omega
  obtain ⟨a0, c0, hvf⟩ := (RqOwn.rd hL1.own).form
  have hpl1 := hlt hL1.obj
  have p12 := hcell (j := 2) hL1.obj
  have hpl4 := hlt hL4.obj
  have p44 := hcell (j := 4) hL4.obj
  have hpl5 := hlt hL5.obj
  have p52 := hcell (j := 2) hL5.obj
  obtain ⟨hlq1, y0, y1, y2, y3, y4⟩ := hq1
  have hB34 : w4.cell? ⟨w.heap.size, 2, none⟩ = some (.int .i64 d2) := by
    have hne : w.heap.size ≠ p := fun e => by have := hlt h.obj; omega
    have hnv : v.ownBlock ≠ some w.heap.size := fun e => by have := olt h.own e; omega
    have e3 : w3.heap[w.heap.size]? = w1.heap[w.heap.size]? := (hG3.block _ (Nat.lt_of_lt_of_le hlq1 g2.sz) (fun e => hnv e.symm)).trans (g2.block _ hlq1)
    have e4 : w4.heap[w.heap.size]? = w1.heap[w.heap.size]? := by
      rw [← hw4]
      exact ((sgrown w3 ⟨p, 2, none⟩ v').block _ (Nat.lt_of_lt_of_le hlq1 (Nat.le_trans g2.sz hG3.size)) (fun e => hne (Option.some.inj e))).trans e3
    exact (World.cell?_of_block e4).trans y2
  have hB34l : w.heap.size < w4.heap.size := World.block_lt_of_cell? _ _ hB34
  have R3 := Lib.hid r3
  have R5 := Lib.hid r5
  have HW1 := Lib.hid hw1
  have HW4 := Lib.hid hw4
  have hc3 := hcell (j := 2) ho3
  have hf3 := hfz (j := 2) ho3
  subst hvf hv'
  clear h hb hL1 g1 g2 hbx hL2 hg2 hO3 hG3 hv3 hvp hvb ho3 hM3 hb3 hp3 hL4 hB4 hx hx1 hbd hM5 hG5 hL5 hB5 r3 r5 hw1 hw4 hkm hn hl
  unfold rqV
  go_enter Tryz.func174, Tryz.ntmps174
  go_wp2
  rw [HW1.out]
  go_region_law (refine step_app rfl (.tmp 10) (.tmp 12) 61 rfl _ _ _ _ rfl rfl R3.out ?_)
  all_goals
    go_wp2
    rw [HW4.out]
    refine wp_region_still_tail 8 (by kernel_rfl) (by kernel_rfl) ?_
    simp only [List.take_succ_cons, List.take_zero, List.drop_succ_cons, List.drop_zero]
    repeat still_step
    try refine wpStill_nil ?_
    change wpList _ _ _ _ _ w4.drew
    go_wp2_with (at_mapUpdate; refine wpl_mapUp rfl (.tmp 20) (.tmp 22) (.tmp 24) 198 rfl _ _ _ _ rfl rfl rfl R5.out ?_)
    go_ret
    exact ⟨rfl, _, HE.out⟩
end Go.Proofs.YtpffldfpabglbaaGreatDoor
end

/- The developers' package queue: enter. -/
section
namespace Go.Proofs.YtpffldfpabglbaaGreatDoor
open Go.RowKit Go.Maps Go.ChangeMaps
set_option linter.unusedVariables false      -- a contract need not use every name

def enR (R : Rq) (W : Int) : Rq := ⟨R.id, R.txn, R.md, R.wt, W + 1⟩
def ahB (q : List Rq) (R : Rq) : Bool := q.any fun X => decide (0 < X.sn) && decide (toI X R < 0)
theorem cntQ_same (q : List Rq) (k : Nat) (hk : k < q.length) (R : Rq) (hm : R.md = q[k].md) : cntQ (q.set k R) = cntQ q := by
  rw [cntQ_set q k hk R]
  funext x
  unfold setC
  rw [hm]
  by_cases e : x = q[k].md
  · rw [if_pos e, if_pos rfl, e]; omega
  · rw [if_neg e, if_neg e]
theorem Ln.eq {w : World} {g0 p : Nat} {t r W : Int} {v : Value} {b n : Nat} {q : List Rq} {c c' : Int → Int} (h : Ln w g0 p t r W v b n q c) (e : c = c') : Ln w g0 p t r W v b n q c' := e ▸ h
theorem Ln.wts {w : World} {g0 p : Nat} {t r W : Int} {v : Value} {b n : Nat} {q : List Rq} {c : Int → Int} (h : Ln w g0 p t r W v b n q c) (W' : Int) : Ln (w.setCell ⟨p, 3, none⟩ (.int .i64 W')) g0 p t r W' v b n q c :=
  ⟨hset (j := 3) _ h.obj, okeep h.own (sgrown w _ _) (fun g hv e => h.vp (hv.trans e.symm)), h.map.kept (sgrown w _ _) (fun e => h.bp (Option.some.inj e)), h.gp, h.gb⟩
theorem below_st {g0 : Nat} {w w' : World} (h : Below g0 w w') {p : Nat} (hp : g0 ≤ p) (j : Nat) (u : Value) : Below g0 w (w'.setCell ⟨p, j, none⟩ u) := Below.setCell h hp u
set_option maxRecDepth 100000 in
set_option maxHeartbeats 4000000 in
theorem dEnter {w : World} {g0 p b n : Nat} {t r W : Int} {v : Value} {q : List Rq} (h : Ln w g0 p t r W v b n q (cntQ q)) (k : Nat) (hk : k < q.length) (hW : 0 ≤ W ∧ W ≤ 4611686018427387904) (hkn : ∀ R ∈ q, knI R.md = true) (hkw : knI q[k].wt = true) (hn : n < 800000) (hl : q.length ≤ 1000)
    (B1 B2 : Bool) (hB1 : fitB (cntQ q) q[k].md q[k].wt = B1) (hB2 : ahB (q.set k (enR q[k] W)) (enR q[k] W) = B2) :
    Calls Tryz.prog 173 #[.pointer (some ⟨p, 0, none⟩), .int .i64 k] w fun e w' => e = .returned (.bool (B1 && !B2)) ∧ Below g0 w w' ∧ ∃ n', n' ≤ n + 2 ∧
      (if (B1 && !B2) = true then Ln w' g0 p t r W v b n' (q.set k ⟨q[k].id, q[k].txn, q[k].wt, q[k].wt, 0⟩) (cntQ (q.set k ⟨q[k].id, q[k].txn, q[k].wt, q[k].wt, 0⟩)) else Ln w' g0 p t r (W + 1) v b n' (q.set k (enR q[k] W)) (cntQ (q.set k (enR q[k] W)))) := by
  obtain ⟨g, cap, rfl, hg0, hgl, hce⟩ := RqOwn.at h.own hk
  have hki : (k : Int) < (q.length : Int) := by omega
  have hf0 := fun j => own_frz h.own rfl j
  have hup1 := own_upd h.own rfl k hk 4 (by decide) (.int .i64 (W + 1)) (enR q[k] W) rfl
  have hL1 := (h.row (a := ⟨g, k * 5 + 4, none⟩) rfl (.int .i64 (W + 1)) hup1).eq (cntQ_same q k hk (enR q[k] W) rfl).symm
  obtain ⟨w1, hw1⟩ : ∃ w1, w.setCell ⟨g, k * 5 + 4, none⟩ (.int .i64 (W + 1)) = w1 := ⟨_, rfl⟩
  have hb1 : Below g0 w w1 := by
    have b3 := (Tch.refl (fun i => g0 ≤ i) w).set (p := ⟨g, k * 5 + 4, none⟩) (.inl hg0) (.int .i64 (W + 1))
    rw [hw1] at b3
    exact ⟨b3.os, b3.tape, b3.output, b3.size, fun k hk => b3.block k (by have := h.gp; have := hlt h.obj; omega) (by omega)⟩
  rw [hw1] at hL1
  have hlen1 : (q.set k (enR q[k] W)).length = q.length := by simp
  obtain ⟨q1, hq1⟩ : ∃ q1, q.set k (enR q[k] W) = q1 := ⟨_, rfl⟩
  rw [hq1] at hL1 hB2 hlen1 ⊢
  have hk1 : k < q1.length := by omega
  have hq1k : q1[k] = enR q[k] W := by subst hq1; simp
  have hcnt : cntQ q1 = cntQ q := by rw [← hq1]; exact cntQ_same q k hk _ rfl
  have hmd : knI q[k].md = true := hkn _ (List.getElem_mem hk)
  have hset : q1.set k ⟨q[k].id, q[k].txn, q[k].wt, q[k].wt, 0⟩ = q.set k ⟨q[k].id, q[k].txn, q[k].wt, q[k].wt, 0⟩ := by rw [← hq1, List.set_set]
  have hmin : min W 9223372036854775806 = W := by omega
  have hwW : IntKind.i64.wrap (W + 1) = W + 1 := by rw [IntKind.wrap_i64]; omega
  have e2 := hce 2 _ rfl
  have e3 := hce 3 _ rfl
  have e4 := hce 4 _ rfl
  have hpl := hlt h.obj
  have p2 := hcell (j := 2) h.obj
  have p3 := hcell (j := 3) h.obj
  have HW1 := Lib.hid hw1
  have hc1 : ∀ j u, (rqrow (enR q[k] W))[j]? = some u → w1.cell? ⟨g, k * 5 + j, none⟩ = some u := fun j u hu => own_cell hL1.own hlen1.symm k hk1 j u (by rw [hq1k]; exact hu)
  have hpl1 := hlt hL1.obj
  have hgl1 := olt hL1.own rfl
  have s0 : ∀ x, Nw w1 x → x.cell? ⟨g, k * 5, none⟩ = some (.int .i64 q[k].id) := fun x hx => hx.kp (hc1 0 _ rfl)
  have s1 : ∀ x, Nw w1 x → x.cell? ⟨g, k * 5 + 1, none⟩ = some (.int .i64 q[k].txn) := fun x hx => hx.kp (hc1 1 _ rfl)
  have s2 : ∀ x, Nw w1 x → x.cell? ⟨g, k * 5 + 2, none⟩ = some (.int .i64 q[k].md) := fun x hx => hx.kp (hc1 2 _ rfl)
  have s3 : ∀ x, Nw w1 x → x.cell? ⟨g, k * 5 + 3, none⟩ = some (.int .i64 q[k].wt) := fun x hx => hx.kp (hc1 3 _ rfl)
  have s4 : ∀ x, Nw w1 x → x.cell? ⟨g, k * 5 + 4, none⟩ = some (.int .i64 (W + 1)) := fun x hx => hx.kp (hc1 4 _ rfl)
  have s5 : ∀ x, Nw w1 x → x.cell? ⟨p, 2, none⟩ = some (.slice (some ⟨g, 0, none⟩) q.length cap) := fun x hx => hx.kp (hcell (j := 2) hL1.obj)
  have HFt := Lib.hid (fun (x : World) (hx : Nw w1 x) => by
    have hLx := hL1.nw hx
    have := dFits p b n (cntQ q1) q[k].md q[k].wt _ _ _ _ _ x hLx.obj hLx.map (fun y => by have := cntQ_bd q1 y; omega) hkw
    rw [hcnt, hB1] at this
    exact this)
  have HAh := Lib.hid (dAheadOf (enR q[k] W))
  have HCo := Lib.hid (fun (x : World) (hx : Nw w1 x) (f : Value) (hf : Tells x f (fun X => decide (0 < X.sn) && decide (toI X (enR q[k] W) < 0))) => by
    have hLx := hL1.nw hx
    have := dContains _ f _ q1 x (by omega) (RqOwn.rd hLx.own) hf
    rw [show (q1.any fun X => decide (0 < X.sn) && decide (toI X (enR q[k] W) < 0)) = B2 from hB2] at this
    exact this)
  have HGr := Lib.hid (fun (x : World) (hx : Nw w1 x) => by
    have hLx : Ln x g0 p t r W (.slice (some ⟨g, 0, none⟩) q1.length cap) b n q1 (cntQ q1) := by rw [hlen1]; exact hL1.nw hx
    have := dGrant hLx k hk1 (by rw [hq1k]; exact hmd) (by rw [hq1k]; exact hkw) (fun y => by have := cntQ_bd q1 y; omega) (by omega) (by omega)
    rw [hlen1, show grtR q1[k] = ⟨q[k].id, q[k].txn, q[k].wt, q[k].wt, 0⟩ by rw [hq1k]; rfl] at this
    refine this.mono (R' := fun e w' => e = .returned (.tuple #[]) ∧ Ln w' g0 p t r W (.slice (some ⟨g, 0, none⟩) q.length cap) b (n + 2) (q.set k ⟨q[k].id, q[k].txn, q[k].wt, q[k].wt, 0⟩) (cntQ (q.set k ⟨q[k].id, q[k].txn, q[k].wt, q[k].wt, 0⟩)) ∧ Below g0 w w') ?_
    rintro e w' ⟨h1, h2, h3⟩
    rw [hset] at h2
    refine ⟨h1, h2.eq ?_, ?_⟩
    · rw [← hset, cntQ_set q1 k hk1]
      rw [hq1k]; rfl
    · have b3 : Tch (fun i => g0 ≤ i) w w' := ((⟨hb1.os, hb1.tape, hb1.output, hb1.size, fun k _ hk => hb1.block k (by omega)⟩ : Tch (fun i => g0 ≤ i) w w1).trans (Tch.nw hx)).trans' h3 (fun i _ hi => by rcases hi with rfl | rfl; exact h.gb; exact hg0)
      exact ⟨b3.os, b3.tape, b3.output, b3.size, fun k hk => b3.block k (by have := h.gp; have := hlt h.obj; omega) (by omega)⟩)
  have HL1 := Lib.hid (And.intro hL1 hb1)
  have HG := Lib.hid (And.intro h.gp hg0)
  have f3 := hfz (j := 3) hL1.obj
  clear hcnt hmd hset hkn hkw hn hB1 hB2 hq1 hq1k hlen1 hk1 hL1 hb1 hup1 hw1 hc1 hW hce h
  generalize q[k] = R at *
  obtain ⟨d0, d1, d2, d3, d4⟩ := R
  simp only [enR] at *
  unfold rqV at HAh
  go_enter Tryz.func173, Tryz.ntmps173
  go_wp2
  rw [HW1.out]
  have g1 := (Nw.refl w1).drewQ
  cases B1 <;> cases B2
  all_goals
   refine region_told [some true, some true, some true, some true, some true, some true, some true, some true, some true, some false, none, some true, some true, some true, some true, some true, some true, some true, some true, some true, some false, none, some false, none, some true, some true] (Nw w1) (by kernel_rfl) (by kernel_rfl) (by kernel_rfl) g1 ?_
   obtain ⟨wc, hwc⟩ : ∃ wc, w1.drew = wc := ⟨_, rfl⟩
   rw [hwc] at g1 ⊢
   clear hwc
   repeat (first
    | (refine HW.off ?_)
    | (refine HW.take' ?_; (first | (refine ⟨undef, Or.inr ⟨by rfl, rfl⟩, ?_⟩) | (apply Exists.intro; refine ⟨Or.inl ⟨by rfl, ?_⟩, ?_⟩; (intro x hx; go_simp; first | done | with_reducible rfl))); (try simp only [Act.put, List.setIfInBounds_toArray, List.set_cons_zero, List.set_cons_succ]))
    | (refine HW.go (fun K hK => ?_); go_simp; (first
      | (go_at_call 210; (with_reducible refine (HFt.out _ g1).mono ?_); rintro e wy ⟨rfl, g2⟩; refine hK.out _ _ (g1.trans g2) ?_; intro _; replace g1 := g1.trans g2; clear hK K g2)
      | (go_at_call 212; (with_reducible refine (HAh.out _).mono ?_); rintro e wy ⟨pa, rfl, g2, hbx⟩; refine hK.out _ _ (g1.trans g2) ?_; intro _; replace g1 := g1.trans g2; clear hK K g2; replace hbx := Tells.ahead (S := ⟨d0, d1, d2, d3, W + 1⟩) hbx)
      | (go_at_call 211; (with_reducible refine (HCo.out _ g1 _ hbx).mono ?_); rintro e wy ⟨rfl, g2⟩; refine hK.out _ _ (g1.trans g2) ?_; intro _; replace g1 := g1.trans g2; clear hK K g2 hbx)
      | (refine hK.out _ _ g1 ?_; intro _; clear hK K))))
   refine HW.end_ ?_
   refine NoPanic.normal ?_
   replace HL1 := Lib.hid (And.intro (HL1.out.1.nw g1) (Nw.below (B := g0) HL1.out.2 g1 (by have := HG.out.1; omega)))
   have s0' := s0 _ g1
   have s4' := s4 _ g1
   have s5' := s5 _ g1
   have hpl2 := hlt HL1.out.1.obj
   have hgl2 := olt HL1.out.1.own rfl
   have f3' := hfz (j := 3) HL1.out.1.obj
   have p3' := hcell (j := 3) HL1.out.1.obj
   clear s0 s1 s2 s3 s4 s5 f3 hf0 p2 p3 hpl hpl1 hgl1 HW1 hmin hwW HFt HAh HCo hgl
  · go_wp2
    go_ret
    exact ⟨rfl, below_st HL1.out.2 HG.out.1 3 _, n, by omega, HL1.out.1.wts _⟩
  · go_wp2
    go_ret
    exact ⟨rfl, below_st HL1.out.2 HG.out.1 3 _, n, by omega, HL1.out.1.wts _⟩
  · go_wp2_with (go_at_call 213; (with_reducible refine (HGr.out _ g1).mono ?_); rintro e wz ⟨rfl, hLz, hBz⟩)
    go_ret
    exact ⟨rfl, hBz, _, Nat.le_refl _, hLz⟩
  · go_wp2
    go_ret
    exact ⟨rfl, below_st HL1.out.2 HG.out.1 3 _, n, by omega, HL1.out.1.wts _⟩
end Go.Proofs.YtpffldfpabglbaaGreatDoor
end

/- Plain facts: what fits beside counts, who is ahead: as asks and upgrades have it. -/
section
namespace Go.Proofs.YtpffldfpabglbaaGreatDoor
open Go.RowKit
set_option linter.unusedVariables false

theorem split_at {α : Type} (q : List α) (k : Nat) (hk : k < q.length) : q = q.take k ++ q[k] :: q.drop (k + 1) := by rw [← List.drop_eq_getElem_cons hk, List.take_append_drop]
theorem cnt_at (q : List Rq) (k : Nat) (hk : k < q.length) (x : Int) : cntQ q x - (if x = q[k].md then 1 else 0) = (((q.take k ++ q.drop (k + 1)).countP fun R => R.md == x : Nat) : Int) := by
  have : cntQ q x = cntQ (q.take k ++ q[k] :: q.drop (k + 1)) x := by rw [← split_at q k hk]
  rw [this]
  unfold cntQ
  rw [List.countP_append, List.countP_cons, List.countP_append]
  simp only [beq_iff_eq]
  by_cases e : x = q[k].md
  · rw [if_pos e, if_pos e.symm]; omega
  · rw [if_neg e, if_neg (fun y => e y.symm)]; omega
/-- What fits beside all but one. -/
theorem fit_all (q : List Rq) (k : Nat) (hk : k < q.length) (m : Int) (hkn : ∀ R ∈ q, knI R.md = true) : fitB (cntQ q) q[k].md m = (q.take k ++ q.drop (k + 1)).all fun a => cpI a.md m := by
  rw [Bool.eq_iff_iff, fitB_iff, List.all_eq_true]
  have hsub : ∀ a ∈ q.take k ++ q.drop (k + 1), a ∈ q := fun a ha => by
    rcases List.mem_append.1 ha with h | h
    · exact List.mem_of_mem_take h
    · exact List.mem_of_mem_drop h
  constructor
  · intro h a ha
    have h1 := h a.md (hkn a (hsub a ha))
    unfold okK at h1
    rw [cnt_at q k hk] at h1
    have h2 : 0 < (q.take k ++ q.drop (k + 1)).countP fun R => R.md == a.md := List.countP_pos_iff.2 ⟨a, ha, by simp⟩
    rw [Bool.or_eq_true, decide_eq_true_eq] at h1
    rcases h1 with h1 | h1
    · omega
    · exact h1
  · intro h x hx
    unfold okK
    rw [cnt_at q k hk, Bool.or_eq_true, decide_eq_true_eq]
    by_cases c : 0 < (q.take k ++ q.drop (k + 1)).countP fun R => R.md == x
    · obtain ⟨a, ha, e⟩ := List.countP_pos_iff.1 c
      have e' : a.md = x := by simpa using e
      exact .inr (e' ▸ h a ha)
    · exact .inl (by omega)
theorem ho_lt {a b : Rq} (h1 : a.md ≠ 0) (h2 : b.md = 0) : toI a b < 0 := by
  have : hoI a b = -1 := by unfold hoI; simp [h1, h2]
  unfold toI; rw [this, if_pos (by decide)]; decide
theorem ho_gt {a b : Rq} (h1 : a.md = 0) (h2 : b.md ≠ 0) : ¬ toI a b < 0 := by
  have : hoI a b = 1 := by unfold hoI; simp [h1, h2]
  unfold toI; rw [this, if_pos (by decide)]; decide
theorem ho_eq {a b : Rq} (h : a.md = 0 ↔ b.md = 0) : toI a b = cmI a.sn b.sn := by
  have e : (a.md != 0) = (b.md != 0) := by
    by_cases z : a.md = 0
    · rw [z, h.1 z]
    · have y : b.md ≠ 0 := fun e => z (h.2 e)
      rw [bne_iff_ne.2 z, bne_iff_ne.2 y]
  have : hoI a b = 0 := by unfold hoI; rw [if_pos e]
  unfold toI; rw [this]; simp
theorem cm_lt {a b : Int} : cmI a b < 0 ↔ a < b := by
  unfold cmI
  by_cases h1 : a < b
  · rw [if_pos h1]; exact ⟨fun _ => h1, fun _ => by decide⟩
  · rw [if_neg h1]
    by_cases h2 : b < a
    · rw [if_pos h2]; exact ⟨fun e => by omega, fun e => absurd e h1⟩
    · rw [if_neg h2]; exact ⟨fun e => by omega, fun e => absurd e h1⟩
theorem ahead_iff {a b : Rq} : toI a b < 0 ↔ (a.md ≠ 0 ∧ b.md = 0) ∨ ((a.md = 0 ↔ b.md = 0) ∧ a.sn < b.sn) := by
  by_cases z : a.md = 0
  · by_cases y : b.md = 0
    · rw [ho_eq (by simp [z, y]), cm_lt]; simp [z, y]
    · have := ho_gt z y
      simp [this, z, y]
  · by_cases y : b.md = 0
    · have := ho_lt z y
      simp [this, z, y]
    · rw [ho_eq (by simp [z, y]), cm_lt]; simp [z, y]
theorem dEnterB {w : World} {g0 p b n : Nat} {t r W : Int} {v : Value} {q : List Rq} (h : Ln w g0 p t r W v b n q (cntQ q)) (k : Nat) (hk : k < q.length) (hW : 0 ≤ W ∧ W ≤ 4611686018427387904) (hkn : ∀ R ∈ q, knI R.md = true) (hn : n < 800000) (hl : q.length ≤ 1000)
    (R : Rq) (hR : q[k] = R) (hkw : knI R.wt = true) (B : Bool) (hB : (fitB (cntQ q) R.md R.wt && !ahB (q.set k (enR R W)) (enR R W)) = B) :
    Calls Tryz.prog 173 #[.pointer (some ⟨p, 0, none⟩), .int .i64 k] w fun e w' => e = .returned (.bool B) ∧ Below g0 w w' ∧ ∃ n', n' ≤ n + 2 ∧
      (if B = true then Ln w' g0 p t r W v b n' (q.set k ⟨R.id, R.txn, R.wt, R.wt, 0⟩) (cntQ (q.set k ⟨R.id, R.txn, R.wt, R.wt, 0⟩)) else Ln w' g0 p t r (W + 1) v b n' (q.set k (enR R W)) (cntQ (q.set k (enR R W)))) := by
  subst hR hB
  exact dEnter h k hk hW hkn hkw hn hl _ _ rfl rfl
/-- A request that asks. -/
theorem ask_en {W : Int} {q : List Rq} (h : Ok W q) (id txn m : Int) :
    (fitB (cntQ (q ++ [⟨id, txn, 0, m, 0⟩])) 0 m && !ahB ((q ++ [(⟨id, txn, 0, m, 0⟩ : Rq)]).set q.length ⟨id, txn, 0, m, W + 1⟩) ⟨id, txn, 0, m, W + 1⟩) = free q m := by
  have hk : q.length < (q ++ [(⟨id, txn, 0, m, 0⟩ : Rq)]).length := by simp
  have e1 := fit_all (q ++ [⟨id, txn, 0, m, 0⟩]) q.length hk m (fun R hR => by
    rcases List.mem_append.1 hR with hR | hR
    · exact (h.rt R hR).md
    · rw [List.mem_singleton] at hR; subst hR; rfl)
  rw [show (q ++ [(⟨id, txn, 0, m, 0⟩ : Rq)])[q.length].md = 0 by simp] at e1
  rw [e1]
  rw [show (q ++ [(⟨id, txn, 0, m, 0⟩ : Rq)]).take q.length = q by simp, show (q ++ [(⟨id, txn, 0, m, 0⟩ : Rq)]).drop (q.length + 1) = [] by simp, List.append_nil]
  rw [show (q ++ [(⟨id, txn, 0, m, 0⟩ : Rq)]).set q.length ⟨id, txn, 0, m, W + 1⟩ = q ++ [⟨id, txn, 0, m, W + 1⟩] by simp]
  have e2 : ahB (q ++ [⟨id, txn, 0, m, W + 1⟩]) ⟨id, txn, 0, m, W + 1⟩ = q.any fun X => decide (0 < X.sn) := by
    unfold ahB
    rw [List.any_append]
    have z : ([(⟨id, txn, 0, m, W + 1⟩ : Rq)].any fun X => decide (0 < X.sn) && decide (toI X (⟨id, txn, 0, m, W + 1⟩ : Rq) < 0)) = false := by
      have : ¬ toI (⟨id, txn, 0, m, W + 1⟩ : Rq) (⟨id, txn, 0, m, W + 1⟩ : Rq) < 0 := by rw [ahead_iff]; simp
      simp [this]
    rw [z, Bool.or_false, Bool.eq_iff_iff, List.any_eq_true, List.any_eq_true]
    constructor
    · rintro ⟨x, hx, e⟩
      rw [Bool.and_eq_true] at e
      exact ⟨x, hx, e.1⟩
    · rintro ⟨x, hx, e⟩
      have hs := (h.rt x hx).sW
      have : toI x (⟨id, txn, 0, m, W + 1⟩ : Rq) < 0 := by
        rw [ahead_iff]
        by_cases zx : x.md = 0
        · exact .inr ⟨by simp [zx], by show x.sn < W + 1; omega⟩
        · exact .inl ⟨zx, rfl⟩
      exact ⟨x, hx, by rw [e]; simpa using this⟩
  rw [e2]
  unfold free
  rw [Bool.eq_iff_iff, Bool.and_eq_true, Bool.not_eq_true', List.any_eq_false, List.all_eq_true, List.all_eq_true]
  constructor
  · rintro ⟨h1, h2⟩ x hx
    have := h2 x hx
    have hs := (h.rt x hx).s0
    rw [h1 x hx]
    simp at this ⊢
    omega
  · intro h1
    refine ⟨fun x hx => ?_, fun x hx => ?_⟩
    · have := h1 x hx
      rw [Bool.and_eq_true] at this
      exact this.2
    · have := h1 x hx
      rw [Bool.and_eq_true] at this
      have h2 : x.sn = 0 := by simpa using this.1
      simp [h2]
end Go.Proofs.YtpffldfpabglbaaGreatDoor
end

/- The developers' package queue: turns. -/
section
namespace Go.Proofs.YtpffldfpabglbaaGreatDoor
open Go.RowKit
set_option linter.unusedVariables false      -- a contract need not use every name

def rqAt (q : List Rq) (x : Int) : Rq := q.getD x.toNat ⟨0, 0, 0, 0, 0⟩
def tC (q : List Rq) (x y : Int) : Int := toI (rqAt q x) (rqAt q y)
def isPl (q : List Rq) (x : Int) : Prop := ∃ k : Nat, x = k ∧ k < q.length
theorem rqAt_nat (q : List Rq) (k : Nat) (hk : k < q.length) : rqAt q (k : Int) = q[k] := by unfold rqAt; simp [List.getD, hk]
/-- The places of those that wait, among the first k. -/
def wpl (q : List Rq) : Nat → List Int
  | 0 => []
  | k + 1 => if 0 < (rqAt q k).sn then wpl q k ++ [(k : Int)] else wpl q k
theorem wpl_mem (q : List Rq) (x : Int) : ∀ k, x ∈ wpl q k ↔ ∃ j : Nat, j < k ∧ x = j ∧ 0 < (rqAt q x).sn
  | 0 => by simp [wpl]
  | k + 1 => by
    unfold wpl
    split
    · rename_i h
      rw [List.mem_append, wpl_mem q x k, List.mem_singleton]
      constructor
      · rintro (⟨j, h1, h2, h3⟩ | rfl)
        · exact ⟨j, by omega, h2, h3⟩
        · exact ⟨k, by omega, rfl, h⟩
      · rintro ⟨j, h1, rfl, h3⟩
        by_cases e : j = k
        · exact .inr (by rw [e])
        · exact .inl ⟨j, by omega, rfl, h3⟩
    · rename_i h
      rw [wpl_mem q x k]
      constructor
      · rintro ⟨j, h1, h2, h3⟩; exact ⟨j, by omega, h2, h3⟩
      · rintro ⟨j, h1, rfl, h3⟩
        refine ⟨j, ?_, rfl, h3⟩
        rcases Nat.lt_or_ge j k with g | g
        · exact g
        · have : j = k := by omega
          subst this; exact absurd h3 h
theorem wpl_nodup (q : List Rq) : ∀ k, (wpl q k).Nodup
  | 0 => by simp [wpl]
  | k + 1 => by
    unfold wpl
    split
    · rw [List.nodup_append]
      refine ⟨wpl_nodup q k, by simp, fun a ha b hb => ?_⟩
      rw [List.mem_singleton] at hb
      obtain ⟨j, h1, h2, _⟩ := (wpl_mem q a k).1 ha
      omega
    · exact wpl_nodup q k
theorem wpl_len (q : List Rq) : ∀ k, (wpl q k).length ≤ k
  | 0 => by simp [wpl]
  | k + 1 => by
    unfold wpl
    have := wpl_len q k
    split <;> simp <;> omega
theorem wpl_pl (q : List Rq) : ∀ x ∈ wpl q q.length, isPl q x := fun x hx => by
  obtain ⟨j, h1, h2, _⟩ := (wpl_mem q x _).1 hx
  exact ⟨j, h2, h1⟩
set_option maxRecDepth 100000 in
set_option maxHeartbeats 2000000 in
theorem dTurns1 {w : World} {g0 p b n : Nat} {t r W : Int} {v : Value} {q : List Rq} {c : Int → Int} (h : Ln w g0 p t r W v b n q c) (pb : Nat) (hpb : w.cell? ⟨pb, 0, none⟩ = some (.pointer (some ⟨p, 0, none⟩))) (x y : Int) (hx : isPl q x) (hy : isPl q y) :
    Calls Tryz.prog 237 #[.int .i64 x, .int .i64 y, .pointer (some ⟨pb, 0, none⟩)] w fun e w' => e = .returned (.int .i64 (tC q x y)) ∧ Nw w w' := by
  obtain ⟨i, rfl, hi⟩ := hx
  obtain ⟨j, rfl, hj⟩ := hy
  have hT := dByTurn q[i] q[j]
  unfold tC
  rw [rqAt_nat q i hi, rqAt_nat q j hj]
  obtain ⟨g, cap, rfl, _, hgl, hce⟩ := RqOwn.at h.own hi
  obtain ⟨g', cap', e, _, _, hde⟩ := RqOwn.at h.own hj
  simp only [Value.slice.injEq, Option.some.injEq, Addr.mk.injEq, and_true, true_and] at e
  obtain ⟨rfl, rfl⟩ := e
  have hii : (i : Int) < (q.length : Int) := by omega
  have hjj : (j : Int) < (q.length : Int) := by omega
  have hpl := hlt h.obj
  have hpbl := World.block_lt_of_cell? _ _ hpb
  have s0 : ∀ z, Nw w z → z.cell? ⟨pb, 0, none⟩ = some (.pointer (some ⟨p, 0, none⟩)) := fun z hz => hz.kp hpb
  have s1 : ∀ z, Nw w z → z.cell? ⟨p, 2, none⟩ = some (.slice (some ⟨g, 0, none⟩) q.length cap) := fun z hz => hz.kp (hcell (j := 2) h.obj)
  obtain ⟨V, hV⟩ : ∃ V, toI q[i] q[j] = V := ⟨_, rfl⟩
  rw [hV] at hT ⊢
  generalize q[i] = R at *
  generalize q[j] = S at *
  obtain ⟨a0, a1, a2, a3, a4⟩ := R
  obtain ⟨b0, b1, b2, b3, b4⟩ := S
  have m0 : ∀ z, Nw w z → z.cell? ⟨g, i * 5, none⟩ = some (.int .i64 a0) := fun z hz => hz.kp (hce 0 _ rfl)
  have m1 : ∀ z, Nw w z → z.cell? ⟨g, i * 5 + 1, none⟩ = some (.int .i64 a1) := fun z hz => hz.kp (hce 1 _ rfl)
  have m2 : ∀ z, Nw w z → z.cell? ⟨g, i * 5 + 2, none⟩ = some (.int .i64 a2) := fun z hz => hz.kp (hce 2 _ rfl)
  have m3 : ∀ z, Nw w z → z.cell? ⟨g, i * 5 + 3, none⟩ = some (.int .i64 a3) := fun z hz => hz.kp (hce 3 _ rfl)
  have m4 : ∀ z, Nw w z → z.cell? ⟨g, i * 5 + 4, none⟩ = some (.int .i64 a4) := fun z hz => hz.kp (hce 4 _ rfl)
  have n0 : ∀ z, Nw w z → z.cell? ⟨g, j * 5, none⟩ = some (.int .i64 b0) := fun z hz => hz.kp (hde 0 _ rfl)
  have n1 : ∀ z, Nw w z → z.cell? ⟨g, j * 5 + 1, none⟩ = some (.int .i64 b1) := fun z hz => hz.kp (hde 1 _ rfl)
  have n2 : ∀ z, Nw w z → z.cell? ⟨g, j * 5 + 2, none⟩ = some (.int .i64 b2) := fun z hz => hz.kp (hde 2 _ rfl)
  have n3 : ∀ z, Nw w z → z.cell? ⟨g, j * 5 + 3, none⟩ = some (.int .i64 b3) := fun z hz => hz.kp (hde 3 _ rfl)
  have n4 : ∀ z, Nw w z → z.cell? ⟨g, j * 5 + 4, none⟩ = some (.int .i64 b4) := fun z hz => hz.kp (hde 4 _ rfl)
  unfold rqV at hT
  have HT := Lib.hid hT
  clear hT hce hde h hpb hV
  have q1 := (Nw.refl w).drewQ
  obtain ⟨wc, hwc⟩ : ∃ wc, w.drew = wc := ⟨_, rfl⟩
  go_enter Tryz.func237, Tryz.ntmps237
  go_wp2
  refine region_told [some true, some true, some true, some true, some true, some true, some true, some true, some true, some true, some true, some true, some true, some true, some true, some true, some false, none, some true] (Nw w) (by kernel_rfl) (by kernel_rfl) (by kernel_rfl) q1 ?_
  rw [hwc] at q1 ⊢
  clear hwc
  repeat (first
    | (refine HW.off ?_)
    | (refine HW.take' ?_; (apply Exists.intro; refine ⟨Or.inl ⟨by rfl, ?_⟩, ?_⟩; (intro x hx; go_simp; first | done | with_reducible rfl)); (try simp only [Act.put, List.setIfInBounds_toArray, List.set_cons_zero, List.set_cons_succ]))
    | (refine HW.go (fun K hK => ?_); go_simp; (go_at_call 228; (with_reducible refine (HT.out _).mono ?_); rintro e wy ⟨rfl, g2⟩; refine hK.out _ _ (q1.trans g2) ?_; intro _; replace q1 := q1.trans g2; clear hK K g2)))
  refine HW.end_ ?_
  refine NoPanic.normal ?_
  go_wp2
  go_ret
  exact ⟨rfl, q1⟩
theorem own_at {w : World} {v : Value} {l : List Int} (h : IS w v l) {m : Nat} (hf : ∀ g, v.ownBlock = some g → m ≤ g) : ∃ gi, (∀ g, v.ownBlock = some g → g = gi) ∧ m ≤ gi := by
  rcases h.form with ⟨rfl, _⟩ | ⟨g, cap, rfl⟩
  · exact ⟨m, fun g e => by simp [Value.ownBlock] at e, Nat.le_refl _⟩
  · exact ⟨g, fun g' e => (Option.some.inj e).symm, hf g rfl⟩
theorem e_turns1 : ∀ args w, (callFunc 237 args).run Tryz.prog w = .ok (.enter 237 args) w := enters_of Tryz.func237 (by kernel_rfl) rfl
end Go.Proofs.YtpffldfpabglbaaGreatDoor
end

/- The document's own: Group (of modes, and of a head's requests). -/
section
namespace Go.Proofs.YtpffldfpabglbaaGreatDoor
open Go.RowKit
set_option linter.unusedVariables false      -- a contract need not use every name

end Go.Proofs.YtpffldfpabglbaaGreatDoor
end

/- The developers' package queue: DeleteFunc of requests; without. -/
section
namespace Go.Proofs.YtpffldfpabglbaaGreatDoor
open Go.RowKit
set_option linter.unusedVariables false      -- a contract need not use every name

abbrev outQ (p : Rq → Bool) (l : List Rq) : List Rq := l.filter fun s => !p s
/-- What the loop of DeleteFunc keeps: a requests moved to the front, b looked at. -/
structure Del (p : Rq → Bool) (w wr : World) (g0 g n cap a b : Nat) (l R : List Rq) : Prop where
  ab : a < b
  bn : b ≤ l.length
  len : R.length = l.length
  front : R.take a = outQ p (l.take b)
  rest : R.drop b = l.drop b
  row : RqOwn wr g0 (.slice (some ⟨g, 0, none⟩) n cap) R
  tch : Tch (fun k => k = g) w wr
theorem taken {α : Type} {l : List α} {b : Nat} (h : b < l.length) : l.take (b + 1) = l.take b ++ [l[b]] := by
  rw [List.take_add_one, List.getElem?_eq_getElem h]; rfl
theorem out_end {p : Rq → Bool} {L : List Rq} {s : Rq} (h : p s = true) : outQ p (L ++ [s]) = outQ p L := by
  simp only [outQ, List.filter_append, List.filter_cons, h, Bool.not_true, Bool.false_eq_true, if_false, List.filter_nil, List.append_nil]
theorem drops_up {α : Type} {R l : List α} {b : Nat} (h : R.drop b = l.drop b) : R.drop (b + 1) = l.drop (b + 1) := by
  rw [← List.drop_drop, ← List.drop_drop, h]
section
variable {p : Rq → Bool} {w wr wr' : World} {g0 g n cap a b : Nat} {l R : List Rq}
theorem Del.skip (h : Del p w wr g0 g n cap a b l R) (hb : b < l.length) (he : p l[b] = true) (g' : Nw wr wr') : Del p w wr' g0 g n cap a (b + 1) l R :=
  ⟨by have := h.ab; omega, hb, h.len, by rw [h.front, taken hb, out_end he], drops_up h.rest, onw h.row g', h.tch.trans (Tch.nw g')⟩
end
end Go.Proofs.YtpffldfpabglbaaGreatDoor
end

/- The developers' package queue: Ask. -/
section
namespace Go.Proofs.YtpffldfpabglbaaGreatDoor
open Go.RowKit Go.Maps Go.ChangeMaps
set_option linter.unusedVariables false      -- a contract need not use every name

theorem plc_ne (p : Rq → Bool) (q : List Rq) : (plc p q != -1) = q.any p := by
  rw [← plc_any]
  rcases plc_form p q with ⟨h1, _⟩ | ⟨k, h1, _⟩
  · rw [h1]; rfl
  · rw [h1]
    have : ((k : Int) != -1) = true := by rw [bne_iff_ne]; omega
    rw [this]; simp
theorem any_or {α : Type} (q : List α) (a b : α → Bool) : (q.any fun x => a x || b x) = (q.any a || q.any b) := by
  induction q with
  | nil => rfl
  | cons x q ih => rw [List.any_cons, List.any_cons, List.any_cons, ih]; cases a x <;> cases b x <;> cases q.any a <;> cases q.any b <;> rfl
/-- A slice that lies in new blocks. -/
def Fresh (w : World) (v : Value) (q : List Rq) : Prop := ∀ b o n c, v = .slice (some ⟨b, o, none⟩) n c → w.heap.size ≤ b ∨ q = []
theorem Fresh.nil (w : World) (q : List Rq) : Fresh w (.slice none 0 0) q := fun b o n c e => by simp at e
theorem RqOwn.fresh {w w0 : World} {g0 : Nat} {v : Value} {q : List Rq} (h : RqOwn w g0 v q) (hb : w0.heap.size ≤ g0) : Fresh w0 v q := fun b o n c e => by
  subst e
  exact .inl (Nat.le_trans hb (oge h rfl))
theorem Fresh.old {w0 w : World} {v : Value} {q : List Rq} (h : Fresh w v q) (g : Nw w0 w) : Fresh w0 v q := fun b o n c e => (h b o n c e).imp (fun h => Nat.le_trans g.sz h) (fun h => h)
/-- What a call of the developers' gives that returns a head, whether it was granted, and an error; a head and an error. -/
def HD2 (X : Hq × Bool × Int) (w : World) (e : Ending) (w' : World) : Prop := ∃ v', e = .returned (.tuple #[hdV X.1.t X.1.r v' X.1.W, .bool X.2.1, .int .i64 X.2.2]) ∧ Nw w w' ∧ RqAt w' v' X.1.q ∧ capOk v' ∧ Fresh w v' X.1.q
theorem Ln.done {w : World} {g0 p : Nat} {t r W : Int} {v : Value} {b n : Nat} {q : List Rq} {c : Int → Int} (h : Ln w g0 p t r W v b n q c) {rb : Nat} (hb : rb < g0) (u0 u1 u2 u3 : Value) :
    RqAt ((((w.setCell ⟨rb, 0, none⟩ u0).setCell ⟨rb, 1, none⟩ u1).setCell ⟨rb, 2, none⟩ u2).setCell ⟨rb, 3, none⟩ u3) v q ∧ capOk v := ⟨(fill_own h.own hb _ _ _ _).rd, h.own.cap⟩
set_option maxRecDepth 100000 in
set_option maxHeartbeats 8000000 in
theorem dAsk (t r W id x m : Int) (v : Value) (q : List Rq) (w : World) (hl : q.length ≤ 900) (hok : Ok W q) (h : RqAt w v q) :
    Calls Tryz.prog 127 #[hdV t r v W, .int .i64 id, .int .i64 x, .int .i64 m] w (HD2 (askR ⟨t, r, W, q⟩ id x m) w) := by
  obtain ⟨X, hX⟩ : ∃ X, askR ⟨t, r, W, q⟩ id x m = X := ⟨_, rfl⟩
  rw [hX]
  have HLo := Lib.hid (fun w => dLockable m w)
  have hat := h
  obtain ⟨a, c, rfl⟩ := h.form
  unfold HD2 hdV
  have HX := Lib.hid (two_boxes w (.cells #[.int .i64 t, .int .i64 r, .slice a q.length c, .int .i64 W] 63) (.cells #[.int .i64 0, .int .i64 0, .slice none 0 0, .int .i64 0] 63))
  obtain ⟨y, hy⟩ : ∃ y, ((m != 0) && knI m) = y := ⟨_, rfl⟩
  rw [hy] at HLo
  by_cases hi : id < 0
  · subst hX
    rw [ask_bad (h := ⟨t, r, W, q⟩) (.inl hi)]
    have di : decide (id < 0) = true := by simpa using hi
    have hq1 := HX.out.2.1
    have fz := fun k => hfz (j := k) hq1
    have hsl2 := hlt hq1
    have HQ := Lib.hid HX.out.2.2.1
    have d0 := hcell (j := 0) hq1
    have d1 := hcell (j := 1) hq1
    have d2 := hcell (j := 2) hq1
    have d3 := hcell (j := 3) hq1
    clear hq1 hi hy hat h hok HX HLo
    go_enter Tryz.func127, Tryz.ntmps127
    go_wp2
    exact bodyPost_ret (v := .tuple #[.agg #[.int .i64 0, .int .i64 0, .slice none 0 0, .int .i64 0], .bool false, .int .i64 2]) (by simp only [results, Tryz.results127]; simp [go_sem, *]) rfl ⟨_, rfl, HQ.out, Rd.nil _, Nat.le_refl _, Fresh.nil _ _⟩
  have di : decide (id < 0) = false := by simpa using hi
  cases y
  · subst hX
    rw [ask_bad (h := ⟨t, r, W, q⟩) (by cases e : knI m with | false => exact .inr (.inr rfl) | true => rw [e, Bool.and_true] at hy; exact .inr (.inl (by simpa using hy)))]
    clear hi hy hat h hok
    go_enter Tryz.func127, Tryz.ntmps127
    go_wp2_with fail
    go_at_call 170
    refine (HLo.out _).mono ?_
    rintro e w1 ⟨rfl, g1⟩
    have hq1 := g1.at' HX.out.2.1
    have HQ := Lib.hid (HX.out.2.2.1.trans g1)
    have d0 := hcell (j := 0) hq1
    have d1 := hcell (j := 1) hq1
    have d2 := hcell (j := 2) hq1
    have d3 := hcell (j := 3) hq1
    have fz := fun k => hfz (j := k) hq1
    have hsl2 := hlt hq1
    clear g1 hq1 HX HLo
    go_wp2
    exact bodyPost_ret (v := .tuple #[.agg #[.int .i64 0, .int .i64 0, .slice none 0 0, .int .i64 0], .bool false, .int .i64 2]) (by simp only [results, Tryz.results127]; simp [go_sem, *]) rfl ⟨_, rfl, fill_nw HQ.out (Nat.le_succ _) _ _ _ _, Rd.nil _, Nat.le_refl _, Fresh.nil _ _⟩
  have hgood : ¬ (id < 0 ∨ m = 0 ∨ knI m = false) := by
    rw [Bool.and_eq_true, bne_iff_ne] at hy
    rintro (e | e | e)
    · exact hi e
    · exact hy.1 e
    · rw [hy.2] at e; cases e
  have hkm : knI m = true := by
    rw [Bool.and_eq_true] at hy
    exact hy.2
  obtain ⟨px, hpx⟩ : ∃ px, plc (fun R => R.id == id) q = px := ⟨_, rfl⟩
  obtain ⟨py, hpy⟩ : ∃ py, plc (fun R => R.txn == x) q = py := ⟨_, rfl⟩
  have hFi := fun (w1 : World) (g : Nw w w1) (f : Value) (hf : Tells w1 f (fun R => R.id == id)) => dFind t r W (.slice a q.length c) f _ q w1 (by omega) (hat.nw g) hf
  have hFt := fun (w1 : World) (g : Nw w w1) (f : Value) (hf : Tells w1 f (fun R => R.txn == x)) => dFind t r W (.slice a q.length c) f _ q w1 (by omega) (hat.nw g) hf
  rw [hpx] at hFi
  rw [hpy] at hFt
  unfold hdV at hFi hFt
  have HFi := Lib.hid hFi
  have HFt := Lib.hid hFt
  have HLi := Lib.hid (fun (w1 : World) (g : Nw w w1) => dLineOf t r W (.slice a q.length c) q w1 (by omega) (fun R hR => (hok.rt R hR).md) (hat.nw g))
  unfold hdV at HLi
  have hany : (q.any fun R => R.id == id || R.txn == x) = ((px != -1) || (py != -1)) := by rw [any_or, ← plc_ne (fun R => R.id == id), ← plc_ne (fun R => R.txn == x), hpx, hpy]
  obtain ⟨bx, hbx⟩ : ∃ bx, (px != -1) = bx := ⟨_, rfl⟩
  obtain ⟨b2, hb2⟩ : ∃ b2, (py != -1) = b2 := ⟨_, rfl⟩
  rw [hbx, hb2] at hany
  clear hFi hFt hpx hpy
  have HWi := Lib.hid (dWithID id)
  have HTx := Lib.hid (dOfTxn x)
  go_enter Tryz.func127, Tryz.ntmps127
  go_wp2_with fail
  go_at_call 170
  refine (HLo.out _).mono ?_
  rintro e w1 ⟨rfl, g1⟩
  have HB1 := Lib.hid (And.intro (g1.at' HX.out.1) (And.intro (g1.at' HX.out.2.1) (HX.out.2.2.1.trans g1)))
  have hp1 := g1.at' HX.out.1
  have hN1 := HX.out.2.2.1.trans g1
  have s0 : ∀ z, Nw w1 z → z.cell? ⟨w.heap.size, 0, none⟩ = some (.int .i64 t) := fun z hz => hz.kp (hcell (j := 0) hp1)
  have s1 : ∀ z, Nw w1 z → z.cell? ⟨w.heap.size, 1, none⟩ = some (.int .i64 r) := fun z hz => hz.kp (hcell (j := 1) hp1)
  have s2 : ∀ z, Nw w1 z → z.cell? ⟨w.heap.size, 2, none⟩ = some (.slice a q.length c) := fun z hz => hz.kp (hcell (j := 2) hp1)
  have s3 : ∀ z, Nw w1 z → z.cell? ⟨w.heap.size, 3, none⟩ = some (.int .i64 W) := fun z hz => hz.kp (hcell (j := 3) hp1)
  clear hp1 g1 HX HLo
  go_wp2
  have q1 := (Nw.refl w1).drewQ
  obtain ⟨wc, hwc⟩ : ∃ wc, w1.drew = wc := ⟨_, rfl⟩
  have HH := Lib.hid (And.intro hok hat)
  clear hok hat h hi
  cases bx <;> cases b2
  all_goals
   refine region_told [some true, some true, some false, none, some false, none, some true, some true, some true, some true, some false, none, some false, none, some true, some true, some true] (Nw w1) (by kernel_rfl) (by kernel_rfl) (by kernel_rfl) q1 ?_
   rw [hwc] at q1 ⊢
   clear hwc
   repeat (first
    | (refine HW.off ?_)
    | (refine HW.take' ?_; (first | (refine ⟨undef, Or.inr ⟨by rfl, rfl⟩, ?_⟩) | (apply Exists.intro; refine ⟨Or.inl ⟨by rfl, ?_⟩, ?_⟩; (intro x hx; go_simp; first | done | with_reducible rfl))); (try simp only [Act.put, List.setIfInBounds_toArray, List.set_cons_zero, List.set_cons_succ]))
    | (refine HW.go (fun K hK => ?_); go_simp; (first
      | (go_at_call 167; (with_reducible refine (HWi.out _).mono ?_); rintro e wy ⟨pa, rfl, g2, hbx⟩; refine hK.out _ _ (q1.trans g2) ?_; intro _; replace q1 := q1.trans g2; clear hK K g2; replace hbx := Tells.withID hbx)
      | (go_at_call 171; (with_reducible refine (HTx.out _).mono ?_); rintro e wy ⟨pa, rfl, g2, hbx⟩; refine hK.out _ _ (q1.trans g2) ?_; intro _; replace q1 := q1.trans g2; clear hK K g2; replace hbx := Tells.ofTxn hbx)
      | (go_at_call 166; (first | (with_reducible refine (HFi.out _ (HB1.out.2.2.trans q1) _ hbx).mono ?_) | (with_reducible refine (HFt.out _ (HB1.out.2.2.trans q1) _ hbx).mono ?_)); rintro e wy ⟨rfl, g2⟩; refine hK.out _ _ (q1.trans g2) ?_; intro _; replace q1 := q1.trans g2; clear hK K g2 hbx)
      | (refine hK.out _ _ q1 ?_; intro _; clear hK K))))
   refine HW.end_ ?_
   refine NoPanic.normal ?_
  · have hq1 := q1.at' HB1.out.2.1
    have hp1 := q1.at' HB1.out.1
    have HQ := Lib.hid (And.intro hq1 (HB1.out.2.2.trans q1))
    have c0 := hcell (j := 0) hp1
    have c1 := hcell (j := 1) hp1
    have c2 := hcell (j := 2) hp1
    have c3 := hcell (j := 3) hp1
    have hpl := hlt hp1
    have HXX := Lib.hid (And.intro hX (And.intro hgood hany))
    clear hq1 hp1 q1 s0 s1 s2 s3 hX hgood hany HB1 HFi HFt HWi HTx hN1 hy
    go_wp2_with fail
    go_at_call 172
    refine (HLi.out _ HQ.out.2).mono ?_
    rintro e w2 ⟨p, v1, b, n, rfl, g2, hL2, hnq⟩
    have HQ2 := Lib.hid HQ.out
    clear c0 c1 c2 c3 hpl HLi HQ
    have hA := dAdd hL2 ⟨id, x, 0, m, 0⟩ rfl (fun y => by have := cntQ_bd q y; omega) (by omega) (by omega)
    unfold rqV at hA
    simp only at hA
    have HA := Lib.hid hA
    have HG2 := Lib.hid g2
    clear hA hL2 g2
    go_wp2_with fail
    go_at_call 174
    refine HA.out.mono ?_
    rintro e w3 ⟨rfl, v2, hL3, g3⟩
    have hlk : q.length < (q ++ [(⟨id, x, 0, m, 0⟩ : Rq)]).length := by simp
    have hke : (q ++ [(⟨id, x, 0, m, 0⟩ : Rq)])[q.length]'hlk = ⟨id, x, 0, m, 0⟩ := by simp
    obtain ⟨fr, hfr⟩ : ∃ fr, free q m = fr := ⟨_, rfl⟩
    have hE := dEnterB (hL3.eq (cntQ_snoc q ⟨id, x, 0, m, 0⟩).symm) q.length hlk ⟨HH.out.1.w0, HH.out.1.wB⟩ (fun R hR => by
      rcases List.mem_append.1 hR with hR | hR
      · exact (HH.out.1.rt R hR).md
      · rw [List.mem_singleton] at hR; subst hR; rfl) (by omega) (by simp; omega) ⟨id, x, 0, m, 0⟩ hke hkm fr ((ask_en HH.out.1 id x m).trans hfr)
    simp only [enR] at hE
    have HE := Lib.hid hE
    have HG3 := Lib.hid (And.intro HG2.out g3)
    clear hE hL3 g3 HA HG2 hke
    go_wp2_with fail
    go_at_call 173
    refine HE.out.mono ?_
    rintro e w5 ⟨rfl, g4, n5, _, hL5⟩
    have g5 : Nw wy w5 := Below.trans (Below.trans HG3.out.1 HG3.out.2) g4
    obtain ⟨hX, hgood, hany⟩ := HXX.out
    clear HE HG3 HXX
    have hset : ∀ R : Rq, (q ++ [(⟨id, x, 0, m, 0⟩ : Rq)]).set q.length R = q ++ [R] := fun R => by simp
    cases fr
    · have hR := hX.symm.trans (ask_no (h := ⟨t, r, W, q⟩) hgood hany (by rw [hfr]; simp))
      subst hR
      simp only [Bool.false_eq_true, if_false] at hL5
      rw [hset] at hL5
      obtain ⟨a2, k2, hv2⟩ := (RqOwn.rd hL5.own).form
      obtain ⟨n2, hn2⟩ : ∃ n, (q ++ [(⟨id, x, 0, m, W + 1⟩ : Rq)]).length = n := ⟨_, rfl⟩
      rw [hn2] at hv2
      subst hv2
      have HL5 := Lib.hid hL5
      have hpl := hlt hL5.obj
      have e0 := hcell (j := 0) hL5.obj
      have e1 := hcell (j := 1) hL5.obj
      have e2 := hcell (j := 2) hL5.obj
      have e3 := hcell (j := 3) hL5.obj
      have hq5 := g5.at' HQ2.out.1
      have HN5 := Lib.hid (HQ2.out.2.trans g5)
      have HS := Lib.hid (hlt HQ2.out.1)
      have HQF := Lib.hid (HQ2.out.2.sz)
      have d0 := hcell (j := 0) hq5
      have d1 := hcell (j := 1) hq5
      have d2 := hcell (j := 2) hq5
      have d3 := hcell (j := 3) hq5
      have fz := fun k => hfz (j := k) hq5
      have hsl2 := hlt hq5
      clear hL5 hset hq5 g5 HQ2 hn2 hX hfr
      go_wp2
      exact bodyPost_ret (v := .tuple #[.agg #[.int .i64 t, .int .i64 r, .slice a2 n2 k2, .int .i64 (W + 1)], .bool false, .int .i64 0]) (by simp only [results, Tryz.results127]; simp [go_sem, *]) rfl ⟨_, rfl, fill_nw HN5.out (Nat.le_succ _) _ _ _ _, (HL5.out.done HS.out _ _ _ _).1, HL5.out.own.cap, HL5.out.own.fresh HQF.out⟩
    · have hR := hX.symm.trans (ask_yes (h := ⟨t, r, W, q⟩) hgood hany (by rw [hfr]))
      subst hR
      simp only [if_true] at hL5
      rw [hset] at hL5
      obtain ⟨a2, k2, hv2⟩ := (RqOwn.rd hL5.own).form
      obtain ⟨n2, hn2⟩ : ∃ n, (q ++ [(⟨id, x, m, m, 0⟩ : Rq)]).length = n := ⟨_, rfl⟩
      rw [hn2] at hv2
      subst hv2
      have HL5 := Lib.hid hL5
      have hpl := hlt hL5.obj
      have e0 := hcell (j := 0) hL5.obj
      have e1 := hcell (j := 1) hL5.obj
      have e2 := hcell (j := 2) hL5.obj
      have e3 := hcell (j := 3) hL5.obj
      have hq5 := g5.at' HQ2.out.1
      have HN5 := Lib.hid (HQ2.out.2.trans g5)
      have HS := Lib.hid (hlt HQ2.out.1)
      have HQF := Lib.hid (HQ2.out.2.sz)
      have d0 := hcell (j := 0) hq5
      have d1 := hcell (j := 1) hq5
      have d2 := hcell (j := 2) hq5
      have d3 := hcell (j := 3) hq5
      have fz := fun k => hfz (j := k) hq5
      have hsl2 := hlt hq5
      clear hL5 hset hq5 g5 HQ2 hn2 hX hfr
      go_wp2
      exact bodyPost_ret (v := .tuple #[.agg #[.int .i64 t, .int .i64 r, .slice a2 n2 k2, .int .i64 W], .bool true, .int .i64 0]) (by simp only [results, Tryz.results127]; simp [go_sem, *]) rfl ⟨_, rfl, fill_nw HN5.out (Nat.le_succ _) _ _ _ _, (HL5.out.done HS.out _ _ _ _).1, HL5.out.own.cap, HL5.out.own.fresh HQF.out⟩
  · have hR := hX.symm.trans (ask_two (h := ⟨t, r, W, q⟩) hgood hany)
    subst hR
    have hq1 := q1.at' HB1.out.2.1
    have HQ := Lib.hid (HB1.out.2.2.trans q1)
    have d0 := hcell (j := 0) hq1
    have d1 := hcell (j := 1) hq1
    have d2 := hcell (j := 2) hq1
    have d3 := hcell (j := 3) hq1
    have fz := fun k => hfz (j := k) hq1
    have hsl2 := hlt hq1
    clear hq1 q1 s0 s1 s2 s3 hX hgood hany HB1 HFi HFt HLi HWi HTx HH hN1 hy hkm
    go_wp2
    exact bodyPost_ret (v := .tuple #[.agg #[.int .i64 0, .int .i64 0, .slice none 0 0, .int .i64 0], .bool false, .int .i64 4]) (by simp only [results, Tryz.results127]; simp [go_sem, *]) rfl ⟨_, rfl, fill_nw HQ.out (Nat.le_succ _) _ _ _ _, Rd.nil _, Nat.le_refl _, Fresh.nil _ _⟩
  · have hR := hX.symm.trans (ask_two (h := ⟨t, r, W, q⟩) hgood hany)
    subst hR
    have hq1 := q1.at' HB1.out.2.1
    have HQ := Lib.hid (HB1.out.2.2.trans q1)
    have d0 := hcell (j := 0) hq1
    have d1 := hcell (j := 1) hq1
    have d2 := hcell (j := 2) hq1
    have d3 := hcell (j := 3) hq1
    have fz := fun k => hfz (j := k) hq1
    have hsl2 := hlt hq1
    clear hq1 q1 s0 s1 s2 s3 hX hgood hany HB1 HFi HFt HLi HWi HTx HH hN1 hy hkm
    go_wp2
    exact bodyPost_ret (v := .tuple #[.agg #[.int .i64 0, .int .i64 0, .slice none 0 0, .int .i64 0], .bool false, .int .i64 4]) (by simp only [results, Tryz.results127]; simp [go_sem, *]) rfl ⟨_, rfl, fill_nw HQ.out (Nat.le_succ _) _ _ _ _, Rd.nil _, Nat.le_refl _, Fresh.nil _ _⟩
  · have hR := hX.symm.trans (ask_two (h := ⟨t, r, W, q⟩) hgood hany)
    subst hR
    have hq1 := q1.at' HB1.out.2.1
    have HQ := Lib.hid (HB1.out.2.2.trans q1)
    have d0 := hcell (j := 0) hq1
    have d1 := hcell (j := 1) hq1
    have d2 := hcell (j := 2) hq1
    have d3 := hcell (j := 3) hq1
    have fz := fun k => hfz (j := k) hq1
    have hsl2 := hlt hq1
    clear hq1 q1 s0 s1 s2 s3 hX hgood hany HB1 HFi HFt HLi HWi HTx HH hN1 hy hkm
    go_wp2
    exact bodyPost_ret (v := .tuple #[.agg #[.int .i64 0, .int .i64 0, .slice none 0 0, .int .i64 0], .bool false, .int .i64 4]) (by simp only [results, Tryz.results127]; simp [go_sem, *]) rfl ⟨_, rfl, fill_nw HQ.out (Nat.le_succ _) _ _ _ _, Rd.nil _, Nat.le_refl _, Fresh.nil _ _⟩
end Go.Proofs.YtpffldfpabglbaaGreatDoor
end
