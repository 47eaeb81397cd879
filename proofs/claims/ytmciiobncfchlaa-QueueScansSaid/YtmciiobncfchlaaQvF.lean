
/- The developers' package queue: a grant; a request more. -/
import Derived.Test.YtmciiobncfchlaaQvE
import Derived.Test.YtmciiobncfchlaaQuK
namespace Go.Proofs.Ytmciiobncfchlaa
open Go.RowKit Go.Maps Go.ChangeMaps
set_option linter.unusedVariables false      -- a contract need not use every name

theorem cntQ_set (q : List Rq) (k : Nat) (hk : k < q.length) (R : Rq) : cntQ (q.set k R) = setC (setC (cntQ q) q[k].md (cntQ q q[k].md - 1)) R.md (setC (cntQ q) q[k].md (cntQ q q[k].md - 1) R.md + 1) := by
  have e : q = q.take k ++ q[k] :: q.drop (k + 1) := by rw [← List.drop_eq_getElem_cons hk, List.take_append_drop]
  have hs : q.set k R = q.take k ++ R :: q.drop (k + 1) := by
    have := set_mid (q.take k) (q.drop (k + 1)) q[k] R k (by simp; omega)
    rwa [← e] at this
  have c1 : ∀ x, cntQ (q.set k R) x = ((q.take k).countP fun R => R.md == x : Nat) + ((q.drop (k + 1)).countP fun R => R.md == x : Nat) + (if R.md = x then 1 else 0) := by
    intro x
    unfold cntQ
    rw [hs, List.countP_append, List.countP_cons]
    simp only [beq_iff_eq]
    split <;> omega
  have c2 : ∀ x, cntQ q x = ((q.take k).countP fun R => R.md == x : Nat) + ((q.drop (k + 1)).countP fun R => R.md == x : Nat) + (if q[k].md = x then 1 else 0) := by
    intro x
    have : cntQ q x = cntQ (q.take k ++ q[k] :: q.drop (k + 1)) x := by rw [← e]
    rw [this]
    unfold cntQ
    rw [List.countP_append, List.countP_cons]
    simp only [beq_iff_eq]
    split <;> omega
  funext x
  rw [c1 x]
  unfold setC
  have h2 := c2 x
  have h3 := c2 R.md
  have h4 := c2 q[k].md
  simp only [if_true] at h4
  by_cases a : x = R.md
  · subst a
    rw [if_pos rfl]
    by_cases d : R.md = q[k].md
    · rw [if_pos d, ← d]; rw [← d] at h2; simp only [if_true] at h2 ⊢; omega
    · rw [if_neg d]; rw [if_neg (fun e => d e.symm)] at h2; simp only [if_true]; omega
  · rw [if_neg a, if_neg (fun e => a e.symm)]
    by_cases d : x = q[k].md
    · rw [if_pos d, ← d]; rw [← d] at h2; simp only [if_true] at h2; omega
    · rw [if_neg d]; rw [if_neg (fun e => d e.symm)] at h2; omega
theorem Ln.row {w : World} {g0 p : Nat} {t r W : Int} {v : Value} {b n : Nat} {q q' : List Rq} {c : Int → Int} (h : Ln w g0 p t r W v b n q c) {a : Addr} (ha : v.ownBlock = some a.block) (u : Value) (ho : RqOwn (w.setCell a u) g0 v q') : Ln (w.setCell a u) g0 p t r W v b n q' c :=
  ⟨((sgrown w a u).block p (hlt h.obj) (fun e => h.vp (ha.trans e.symm))).trans h.obj, ho, h.map.kept (sgrown w a u) (fun e => h.vb (ha.trans e.symm)), h.gp, h.gb⟩
set_option maxRecDepth 100000 in
set_option maxHeartbeats 2000000 in
theorem dGrant {w : World} {g0 p g cap b n : Nat} {t r W : Int} {q : List Rq} {c : Int → Int} (h : Ln w g0 p t r W (.slice (some ⟨g, 0, none⟩) q.length cap) b n q c) (k : Nat) (hk : k < q.length) (hkm : knI q[k].md = true) (hkw : knI q[k].wt = true) (hb : ∀ x, 0 ≤ c x ∧ c x ≤ 100000) (hn : n < 900000) (hl : q.length ≤ 1000) :
    Calls Try.prog 75 #[.pointer (some ⟨p, 0, none⟩), .int .i64 k] w fun e w' => e = .returned (.tuple #[]) ∧
      Ln w' g0 p t r W (.slice (some ⟨g, 0, none⟩) q.length cap) b (n + 2) (q.set k (grtR q[k])) (setC (setC c q[k].md (c q[k].md - 1)) q[k].wt (setC c q[k].md (c q[k].md - 1) q[k].wt + 1)) ∧ Tch (fun i => i = b ∨ i = g) w w' := by
  have hbd := hb q[k].md
  have hbd2 : -1 ≤ setC c q[k].md (c q[k].md - 1) q[k].wt ∧ setC c q[k].md (c q[k].md - 1) q[k].wt ≤ 100000 := by
    unfold setC
    have := hb q[k].wt
    split <;> omega
  have hki : (k : Int) < (q.length : Int) := by omega
  have hLd := h.nw (Nw.refl w).drew1
  have hlk := hLd.map.look hkm
  obtain ⟨x, hx⟩ : ∃ x, c q[k].md = x := ⟨_, rfl⟩
  rw [hx] at hlk hbd hbd2 ⊢
  obtain ⟨x1, hx1⟩ : ∃ x1, x - 1 = x1 := ⟨_, rfl⟩
  rw [hx1] at hbd2 ⊢
  have hwx : IntKind.i64.wrap (x - 1) = x1 := by rw [IntKind.wrap_i64]; omega
  obtain ⟨w1, r1, hM1, hG1⟩ := hLd.map.put (by omega) hkm (x := x1) (by omega) (by omega)
  have hL1 := hLd.put hM1 hG1
  -- the row's cells
  have hcs : ∀ (x : World), RqOwn x g0 (.slice (some ⟨g, 0, none⟩) q.length cap) q → ∀ j u, (rqrow q[k])[j]? = some u → x.cell? ⟨g, k * 5 + j, none⟩ = some u := fun x ho j u hu => own_cell ho rfl k hk j u hu
  have hcw := hcs _ h.own
  have hc1 := hcs _ hL1.own
  have hf1 := fun j => own_frz hL1.own rfl j
  have hup := own_upd (own_upd hL1.own rfl k hk 2 (by decide) (.int .i64 q[k].wt) ⟨q[k].id, q[k].txn, q[k].wt, q[k].wt, q[k].sn⟩ rfl) (by rw [List.length_set]) k (by rw [List.length_set]; exact hk) 4 (by decide) (.int .i64 0) (grtR q[k]) (by rw [List.getElem_set_self]; rfl)
  rw [List.set_set] at hup
  have hup1 := own_upd hL1.own rfl k hk 2 (by decide) (.int .i64 q[k].wt) ⟨q[k].id, q[k].txn, q[k].wt, q[k].wt, q[k].sn⟩ rfl
  have hL2' := hL1.row (a := ⟨g, k * 5 + 2, none⟩) rfl (.int .i64 q[k].wt) hup1
  have hL2 := hL2'.row (a := ⟨g, k * 5 + 4, none⟩) rfl (.int .i64 0) hup
  obtain ⟨w2, hw2⟩ : ∃ w2, (w1.setCell ⟨g, k * 5 + 2, none⟩ (.int .i64 q[k].wt)).setCell ⟨g, k * 5 + 4, none⟩ (.int .i64 0) = w2 := ⟨_, rfl⟩
  have hT2 : Tch (fun i => i = b ∨ i = g) w w2 := by
    rw [← hw2]
    exact (((Tch.nw (Nw.refl w).drew1).grown hG1 (fun k hk => .inl (.inl (Option.some.inj hk).symm))).set (p := ⟨g, k * 5 + 2, none⟩) (.inl (.inr rfl)) _).set (p := ⟨g, k * 5 + 4, none⟩) (.inl (.inr rfl)) _
  rw [hw2] at hL2
  have hLd2 := hL2.nw (Nw.refl w2).drew1
  have hlk2 := hLd2.map.look hkw
  obtain ⟨y, hy⟩ : ∃ y, setC c q[k].md x1 q[k].wt = y := ⟨_, rfl⟩
  rw [hy] at hlk2 hbd2 ⊢
  obtain ⟨y1, hy1⟩ : ∃ y1, y + 1 = y1 := ⟨_, rfl⟩
  rw [hy1]
  have hwy : IntKind.i64.wrap (y + 1) = y1 := by rw [IntKind.wrap_i64]; omega
  obtain ⟨w3, r3, hM3, hG3⟩ := hLd2.map.put (by omega) hkw (x := y1) (by omega) (by omega)
  have hL3 := hLd2.put hM3 hG3
  have hT3 : Tch (fun i => i = b ∨ i = g) w w3 := (hT2.drewN 1).grown hG3 (fun k hk => .inl (.inl (Option.some.inj hk).symm))
  have HE := Lib.hid (And.intro hL3 hT3)
  have hpl := hlt h.obj
  have hgl := olt h.own rfl
  have p2 := hcell (j := 2) h.obj
  have p4 := hcell (j := 4) h.obj
  have hpl1 := hlt hL1.obj
  have hgl1 := olt hL1.own rfl
  have p12 := hcell (j := 2) hL1.obj
  have p14 := hcell (j := 4) hL1.obj
  have hpl2 := hlt hL2.obj
  have hgl2 := olt hL2.own rfl
  have p22 := hcell (j := 2) hL2.obj
  have p24 := hcell (j := 4) hL2.obj
  have hc2 := own_cell hL2.own (by rw [List.length_set]) k (by rw [List.length_set]; exact hk) 2 (.int .i64 q[k].wt) (by rw [List.getElem_set_self]; rfl)
  have R1 := Lib.hid r1
  have R3 := Lib.hid r3
  have HW2 := Lib.hid hw2
  have a2 := hcw 2 _ rfl
  have a3 := hcw 3 _ rfl
  have b2 := hc1 2 _ rfl
  have b3 := hc1 3 _ rfl
  have b4 := hc1 4 _ rfl
  clear h hb hLd hx hx1 hbd hbd2 hM1 hG1 hL1 hcs hcw hc1 hup hup1 hL2' hL2 hw2 hT2 hLd2 hy hy1 hM3 hG3 hL3 hT3 r1 r3 hkm hkw hn hl
  generalize q[k] = R at *
  obtain ⟨d0, d1, d2, d3, d4⟩ := R
  simp only at *
  go_enter Try.func75, Try.ntmps75
  go_wp2
  refine wp_region_still_tail 10 (by kernel_rfl) (by kernel_rfl) ?_
  simp only [List.take_succ_cons, List.take_zero, List.drop_succ_cons, List.drop_zero]
  repeat still_step
  try refine wpStill_nil ?_
  change wpList _ _ _ _ _ w.drew
  go_wp2_with (at_mapUpdate; refine wpl_mapUp rfl (.tmp 15) (.tmp 19) (.tmp 21) 72 rfl _ _ _ _ rfl rfl rfl R1.out ?_)
  rw [HW2.out]
  refine wp_region_still_tail 10 (by kernel_rfl) (by kernel_rfl) ?_
  simp only [List.take_succ_cons, List.take_zero, List.drop_succ_cons, List.drop_zero]
  repeat still_step
  try refine wpStill_nil ?_
  change wpList _ _ _ _ _ w2.drew
  go_wp2_with (at_mapUpdate; refine wpl_mapUp rfl (.tmp 35) (.tmp 39) (.tmp 41) 72 rfl _ _ _ _ rfl rfl rfl R3.out ?_)
  exact bodyPost_end (results_none rfl _ _ _) rfl ⟨rfl, HE.out⟩
end Go.Proofs.Ytmciiobncfchlaa
