
/- The developers' package queue: without, Leave, Find, Mode. -/
import Derived.Test.YtmciiobncfchlaaQvK
import Derived.Test.YtmciiobncfchlaaQvJ
namespace Go.Proofs.Ytmciiobncfchlaa
open Go.RowKit
set_option linter.unusedVariables false      -- a contract need not use every name

theorem at_plc (q : List Rq) (id : Int) : AtIs q id (plc (fun R => R.id == id) q) := by
  rcases plc_form (fun R => R.id == id) q with ⟨h1, h2⟩ | ⟨k, h1, hk, h3, h4⟩
  · refine .inl ⟨h1, ?_⟩
    unfold fnd
    rw [List.find?_eq_none]
    intro x hx; rw [h2 x hx]; simp
  · refine .inr ⟨k, h1, hk, ?_⟩
    unfold fnd
    have e := split_at q k hk
    conv => lhs; rw [e]
    rw [List.find?_append, List.find?_cons, h3]
    have : (q.take k).find? (fun r => r.id == id) = none := by
      rw [List.find?_eq_none]
      intro x hx
      obtain ⟨i, hi, rfl⟩ := List.getElem_of_mem hx
      simp at hi
      have := h4 i (by omega) (by omega)
      simpa using this
    rw [this]; rfl
theorem md_plc (q : List Rq) (x : Int) : (plc (fun R => R.txn == x) q = -1 ∧ mdQ q x = 0) ∨ ∃ k : Nat, plc (fun R => R.txn == x) q = k ∧ ∃ h : k < q.length, mdQ q x = q[k].md := by
  rcases plc_form (fun R => R.txn == x) q with ⟨h1, h2⟩ | ⟨k, h1, hk, h3, h4⟩
  · refine .inl ⟨h1, md_none ?_⟩
    rw [List.find?_eq_none]
    intro y hy; rw [h2 y hy]; simp
  · refine .inr ⟨k, h1, hk, md_hit hk ?_ (by simpa using h3)⟩
    rw [List.find?_eq_none]
    intro y hy
    obtain ⟨i, hi, rfl⟩ := List.getElem_of_mem hy
    simp at hi
    have := h4 i (by omega) (by omega)
    simpa using this
theorem dWithIDn (i : Int) (w : World) : Calls Try.prog 37 #[.int .i64 i] w fun e w' => ∃ p, e = .returned (.func (.func 71) #[] #[.pointer (some ⟨p, 0, none⟩)]) ∧ Nw w w' ∧ w'.cell? ⟨p, 0, none⟩ = some (.int .i64 i) ∧ w.heap.size ≤ p := by
  go_enter Try.func37, Try.ntmps37
  go_wp2
  go_ret
  exact ⟨_, rfl, (Nw.refl _).alloc _, hcell (allocAt w _), Nat.le_refl _⟩
theorem rd_st {w : World} {v : Value} {q : List Rq} {w0 : World} (h : RqAt w v q) (hf : Fresh w0 v q) {p : Addr} (hp : p.block < w0.heap.size) (u : Value) : RqAt (w.setCell p u) v q := by
  obtain ⟨a, c, rfl, ⟨rfl, hh⟩ | ⟨b, o, rfl, hc⟩⟩ := h
  · exact ⟨a, c, rfl, .inl ⟨rfl, hh⟩⟩
  · rcases hf b o _ _ rfl with hb | rfl
    · refine ⟨_, c, rfl, .inr ⟨b, o, rfl, ⟨Nat.lt_of_lt_of_le hc.lt (sgrown w p u).size, fun i hi k x hx => ?_⟩⟩⟩
      have e := (sgrown w p u).block b hc.lt (fun e => by have := Option.some.inj e; omega)
      exact (World.cell?_of_block e).trans (hc.cell i hi k x hx)
    · exact ⟨_, c, rfl, .inr ⟨b, o, rfl, ⟨Nat.lt_of_lt_of_le hc.lt (sgrown w p u).size, fun i hi => by simp at hi⟩⟩⟩
theorem rd_fill {w : World} {v : Value} {q : List Rq} {w0 : World} (h : RqAt w v q) (hf : Fresh w0 v q) {rb : Nat} (hp : rb < w0.heap.size) (u0 u1 u2 u3 : Value) : RqAt ((((w.setCell ⟨rb, 0, none⟩ u0).setCell ⟨rb, 1, none⟩ u1).setCell ⟨rb, 2, none⟩ u2).setCell ⟨rb, 3, none⟩ u3) v q :=
  rd_st (rd_st (rd_st (rd_st h hf (p := ⟨rb, 0, none⟩) hp u0) hf (p := ⟨rb, 1, none⟩) hp u1) hf (p := ⟨rb, 2, none⟩) hp u2) hf (p := ⟨rb, 3, none⟩) hp u3
set_option maxRecDepth 100000 in
set_option maxHeartbeats 4000000 in
theorem dWithout (t r W id : Int) (v : Value) (q : List Rq) (w : World) (hl : q.length ≤ 1000) (h : RqAt w v q) :
    Calls Try.prog 44 #[hdV t r v W, .int .i64 id] w fun e w' => ∃ v', e = .returned (hdV t r v' W) ∧ Nw w w' ∧ RqAt w' v' (lvQ id q) ∧ capOk v' ∧ Fresh w v' (lvQ id q) := by
  have HCl := Lib.hid (fun (w1 : World) (g : Nw w w1) => dClone v q w1 hl (h.nw g))
  have HWi := Lib.hid (dWithIDn id)
  unfold hdV
  obtain ⟨a, c, rfl, _⟩ := h
  have HX := Lib.hid (two_boxes w (.cells #[.int .i64 t, .int .i64 r, .slice a q.length c, .int .i64 W] 27) (.cells #[.int .i64 0, .int .i64 0, .slice none 0 0, .int .i64 0] 27))
  go_enter Try.func44, Try.ntmps44
  go_wp2_with fail
  go_at_call 48
  refine (HCl.out _ HX.out.2.2.1).mono ?_
  rintro e w2 ⟨v1, rfl, g2, hO⟩
  have hq2 := g2.at' HX.out.2.1
  have hp2 := g2.at' HX.out.1
  have HQ := Lib.hid (And.intro hp2 (And.intro hq2 (HX.out.2.2.1.trans g2)))
  have hs2 : w.heap.size + 1 + 1 ≤ w2.heap.size := by have := g2.sz; rw [HX.out.2.2.2] at this; exact this
  have HO := Lib.hid (olow hO (g1 := w.heap.size + 1 + 1) (fun g hg => by have := oge hO hg; rw [HX.out.2.2.2] at this; exact this))
  clear hO g2 HCl HX hq2 hp2
  go_wp2_with fail
  go_at_call 37
  refine (HWi.out _).mono ?_
  rintro e w3 ⟨pa, rfl, g3, hc3, hge⟩
  have HD := Lib.hid (dDelete (fun R => R.id == id) _ (w.heap.size + 1 + 1) v1 q w3 hl (onw HO.out g3) (Tells.withID hc3) (fun w4 hT => by
    refine Tells.withID ((hT.cell (World.block_lt_of_cell? _ _ hc3) (fun e => ?_)).trans hc3)
    have := olt HO.out e
    simp only at this hge
    omega))
  have HG3 := Lib.hid g3
  obtain ⟨a1, c1, hv1⟩ := (RqOwn.rd HO.out).form
  subst hv1
  clear g3 hc3 hge HWi
  go_wp2_with fail
  go_at_call 76
  refine HD.out.mono ?_
  rintro e w4 ⟨v4, rfl, hR, hcap, hfr, hT⟩
  have HR := Lib.hid (And.intro hR (And.intro hcap (show Fresh ((w.alloc (.cells #[.int .i64 t, .int .i64 r, .slice a q.length c, .int .i64 W] 27)).alloc (.cells #[.int .i64 0, .int .i64 0, .slice none 0 0, .int .i64 0] 27)) v4 (lvQ id q) from fun b o n c e => by
    rcases hfr b o n c e with h | h
    · have := oge HO.out h
      exact .inl (by simpa using this)
    · exact .inr h)))
  have HN := Lib.hid (nw_tch (HQ.out.2.2.trans HG3.out) hT (fun i e => by have := oge HO.out e; omega))
  have hpl3 : w.heap.size < w3.heap.size := by have := HG3.out.sz; omega
  have hpl3' : w.heap.size + 1 < w3.heap.size := by have := HG3.out.sz; omega
  have hp4 := (hT.block w.heap.size hpl3 (fun e => by have := oge HO.out e; omega)).trans (HG3.out.at' HQ.out.1)
  have hq4 := (hT.block (w.heap.size + 1) hpl3' (fun e => by have := oge HO.out e; omega)).trans (HG3.out.at' HQ.out.2.1)
  obtain ⟨a4, c4, hv4⟩ := hR.form
  obtain ⟨n4, hn4⟩ : ∃ n, (outQ (fun R => R.id == id) q).length = n := ⟨_, rfl⟩
  rw [hn4] at hv4
  subst hv4
  have c0 := hcell (j := 0) hp4
  have c1' := hcell (j := 1) hp4
  have c2 := hcell (j := 2) hp4
  have c3 := hcell (j := 3) hp4
  have fp := fun k => hfz (j := k) hp4
  have d0 := hcell (j := 0) hq4
  have d1 := hcell (j := 1) hq4
  have d2 := hcell (j := 2) hq4
  have d3 := hcell (j := 3) hq4
  have fz := fun k => hfz (j := k) hq4
  have hs4 := hlt hp4
  have hs5 := hlt hq4
  clear hp4 hq4 hT hR hcap hn4 hpl3 hpl3' HD HO HG3 HQ hs2
  go_wp2
  exact bodyPost_ret (v := .agg #[.int .i64 t, .int .i64 r, .slice a4 n4 c4, .int .i64 W]) (by simp only [results, Try.results44]; simp [go_sem, *]) rfl ⟨_, rfl, fill_nw (HN.out.st (Nat.le_refl _) _) (Nat.le_succ _) _ _ _ _, rd_fill (w0 := (w.alloc (.cells #[.int .i64 t, .int .i64 r, .slice a q.length c, .int .i64 W] 27)).alloc (.cells #[.int .i64 0, .int .i64 0, .slice none 0 0, .int .i64 0] 27)) (rd_st (w0 := (w.alloc (.cells #[.int .i64 t, .int .i64 r, .slice a q.length c, .int .i64 W] 27)).alloc (.cells #[.int .i64 0, .int .i64 0, .slice none 0 0, .int .i64 0] 27)) HR.out.1 HR.out.2.2 (p := ⟨w.heap.size, 2, none⟩) (by simp; omega) _) HR.out.2.2 (by simp) _ _ _ _, HR.out.2.1, fun b o n c e => (HR.out.2.2 b o n c e).imp (fun h => by simp at h; omega) (fun h => h)⟩
set_option maxRecDepth 100000 in
set_option maxHeartbeats 4000000 in
theorem dMode (t r W id : Int) (v : Value) (q : List Rq) (w : World) (hl : q.length ≤ 1000) (h : RqAt w v q) :
    Calls Try.prog 18 #[hdV t r v W, .int .i64 id] w fun e w' => e = .returned (.int .i64 (mdQ q id)) ∧ Nw w w' := by
  obtain ⟨M, hM⟩ : ∃ M, mdQ q id = M := ⟨_, rfl⟩
  rw [hM]
  obtain ⟨px, hpx⟩ : ∃ px, plc (fun R => R.txn == id) q = px := ⟨_, rfl⟩
  have hFi := fun (w1 : World) (g : Nw w w1) (f : Value) (hf : Tells w1 f (fun R => R.txn == id)) => dFind t r W v f _ q w1 hl (h.nw g) hf
  rw [hpx] at hFi
  have HAt := Lib.hid h
  obtain ⟨a, c, rfl, _⟩ := h
  unfold hdV at hFi ⊢
  have HFi := Lib.hid hFi
  clear hFi
  have HWi := Lib.hid (dOfTxn id)
  have hx1 := allocAt w (.cells #[.int .i64 t, .int .i64 r, .slice a q.length c, .int .i64 W] 27)
  have hx3 : Nw w (w.alloc (.cells #[.int .i64 t, .int .i64 r, .slice a q.length c, .int .i64 W] 27)) := (Nw.refl w).alloc _
  obtain ⟨w1, hw1⟩ : ∃ w1, w.alloc (.cells #[.int .i64 t, .int .i64 r, .slice a q.length c, .int .i64 W] 27) = w1 := ⟨_, rfl⟩
  rw [hw1] at hx1 hx3
  have HB1 := Lib.hid (And.intro hx1 hx3)
  have s0 : ∀ z, Nw w1 z → z.cell? ⟨w.heap.size, 0, none⟩ = some (.int .i64 t) := fun z hz => hz.kp (hcell (j := 0) hx1)
  have s1 : ∀ z, Nw w1 z → z.cell? ⟨w.heap.size, 1, none⟩ = some (.int .i64 r) := fun z hz => hz.kp (hcell (j := 1) hx1)
  have s2 : ∀ z, Nw w1 z → z.cell? ⟨w.heap.size, 2, none⟩ = some (.slice a q.length c) := fun z hz => hz.kp (hcell (j := 2) hx1)
  have s3 : ∀ z, Nw w1 z → z.cell? ⟨w.heap.size, 3, none⟩ = some (.int .i64 W) := fun z hz => hz.kp (hcell (j := 3) hx1)
  clear hx1 hx3
  have HW1 := Lib.hid hw1
  clear hw1
  have q1 := (Nw.refl w1).drew1
  obtain ⟨wc, hwc⟩ : ∃ wc, w1.drew = wc := ⟨_, rfl⟩
  go_enter Try.func18, Try.ntmps18
  go_wp2
  rw [HW1.out]
  refine region_told [some true, some true, some false, none, some false, none, some true] (Nw w1) (by kernel_rfl) (by kernel_rfl) (by kernel_rfl) q1 ?_
  rw [hwc] at q1 ⊢
  clear hwc
  repeat (first
    | (refine HW.off ?_)
    | (refine HW.take' ?_; (first | (refine ⟨undef, Or.inr ⟨by rfl, rfl⟩, ?_⟩) | (apply Exists.intro; refine ⟨Or.inl ⟨by rfl, ?_⟩, ?_⟩; (intro x hx; go_simp; first | done | with_reducible rfl))); (try simp only [Act.put, List.setIfInBounds_toArray, List.set_cons_zero, List.set_cons_succ]))
    | (refine HW.go (fun K hK => ?_); go_simp; (first
      | (go_at_call 38; (with_reducible refine (HWi.out _).mono ?_); rintro e wy ⟨pa, rfl, g2, hbx⟩; refine hK.out _ _ (q1.trans g2) ?_; intro _; replace q1 := q1.trans g2; clear hK K g2; replace hbx := Tells.ofTxn hbx)
      | (go_at_call 36; (with_reducible refine (HFi.out _ (HB1.out.2.trans q1) _ hbx).mono ?_); rintro e wy ⟨rfl, g2⟩; refine hK.out _ _ (q1.trans g2) ?_; intro _; replace q1 := q1.trans g2; clear hK K g2 hbx)
      | (refine hK.out _ _ q1 ?_; intro _; clear hK K))))
  refine HW.end_ ?_
  refine NoPanic.normal ?_
  have HN := Lib.hid (HB1.out.2.trans q1)
  have hp1 := q1.at' HB1.out.1
  have c2 := hcell (j := 2) hp1
  have hpl := hlt hp1
  rcases md_plc q id with ⟨e1, e2⟩ | ⟨k, e1, hk, e2⟩
  · obtain rfl := hpx.symm.trans e1
    obtain rfl := hM.symm.trans e2
    clear hpx hM e1 e2 s0 s1 s2 s3 HB1 HFi HWi HAt HW1 q1 hp1
    go_wp2
    go_ret
    exact ⟨rfl, HN.out⟩
  · obtain rfl := hpx.symm.trans e1
    rcases (HAt.out.nw HN.out) with ⟨a', c', e3, ⟨e4, _⟩ | ⟨b, o, e4, hc⟩⟩
    · subst e4; simp at hk
    simp only [Value.slice.injEq, true_and] at e3
    obtain ⟨rfl, rfl⟩ := e3
    subst e4
    have m2 := hc.cell k hk 2 _ rfl
    obtain rfl := hM.symm.trans e2
    have dk : ((k : Int) == -1) = false := by simp
    have hki : (k : Int) < (q.length : Int) := by omega
    clear hpx e1 e2 s0 s1 s2 s3 HB1 HFi HWi HAt HW1 q1 hp1 hc
    go_wp2
    go_ret
    exact ⟨rfl, HN.out⟩
set_option maxRecDepth 100000 in
set_option maxHeartbeats 4000000 in
theorem dFindQ (t r W id : Int) (v : Value) (q : List Rq) (w : World) (hl : q.length ≤ 1000) (h : RqAt w v q) :
    Calls Try.prog 15 #[hdV t r v W, .int .i64 id] w fun e w' => e = .returned (fndV q id) ∧ Nw w w' := by
  obtain ⟨V, hV⟩ : ∃ V, fndV q id = V := ⟨_, rfl⟩
  rw [hV]
  obtain ⟨px, hpx⟩ : ∃ px, plc (fun R => R.id == id) q = px := ⟨_, rfl⟩
  have hFi := fun (w1 : World) (g : Nw w w1) (f : Value) (hf : Tells w1 f (fun R => R.id == id)) => dFind t r W v f _ q w1 hl (h.nw g) hf
  rw [hpx] at hFi
  have HAt := Lib.hid h
  obtain ⟨a, c, rfl, _⟩ := h
  unfold hdV at hFi ⊢
  have HFi := Lib.hid hFi
  clear hFi
  have HWi := Lib.hid (dWithID id)
  obtain ⟨hx1, hx2, hx3, hx4⟩ := two_boxes w (.cells #[.int .i64 t, .int .i64 r, .slice a q.length c, .int .i64 W] 27) (.cells #[.int .i64 0, .int .i64 0, .int .i64 0, .int .i64 0, .int .i64 0] 41)
  obtain ⟨w1, hw1⟩ : ∃ w1, (w.alloc (.cells #[.int .i64 t, .int .i64 r, .slice a q.length c, .int .i64 W] 27)).alloc (.cells #[.int .i64 0, .int .i64 0, .int .i64 0, .int .i64 0, .int .i64 0] 41) = w1 := ⟨_, rfl⟩
  rw [hw1] at hx1 hx2 hx3
  have HB1 := Lib.hid (And.intro (And.intro hx1 hx2) hx3)
  have s0 : ∀ z, Nw w1 z → z.cell? ⟨w.heap.size, 0, none⟩ = some (.int .i64 t) := fun z hz => hz.kp (hcell (j := 0) hx1)
  have s1 : ∀ z, Nw w1 z → z.cell? ⟨w.heap.size, 1, none⟩ = some (.int .i64 r) := fun z hz => hz.kp (hcell (j := 1) hx1)
  have s2 : ∀ z, Nw w1 z → z.cell? ⟨w.heap.size, 2, none⟩ = some (.slice a q.length c) := fun z hz => hz.kp (hcell (j := 2) hx1)
  have s3 : ∀ z, Nw w1 z → z.cell? ⟨w.heap.size, 3, none⟩ = some (.int .i64 W) := fun z hz => hz.kp (hcell (j := 3) hx1)
  clear hx1 hx2 hx3 hx4
  have HW1 := Lib.hid hw1
  clear hw1
  have q1 := (Nw.refl w1).drew1
  obtain ⟨wc, hwc⟩ : ∃ wc, w1.drew = wc := ⟨_, rfl⟩
  go_enter Try.func15, Try.ntmps15
  go_wp2
  rw [HW1.out]
  refine region_told [some true, some true, some false, none, some false, none, some true] (Nw w1) (by kernel_rfl) (by kernel_rfl) (by kernel_rfl) q1 ?_
  rw [hwc] at q1 ⊢
  clear hwc
  repeat (first
    | (refine HW.off ?_)
    | (refine HW.take' ?_; (first | (refine ⟨undef, Or.inr ⟨by rfl, rfl⟩, ?_⟩) | (apply Exists.intro; refine ⟨Or.inl ⟨by rfl, ?_⟩, ?_⟩; (intro x hx; go_simp; first | done | with_reducible rfl))); (try simp only [Act.put, List.setIfInBounds_toArray, List.set_cons_zero, List.set_cons_succ]))
    | (refine HW.go (fun K hK => ?_); go_simp; (first
      | (go_at_call 37; (with_reducible refine (HWi.out _).mono ?_); rintro e wy ⟨pa, rfl, g2, hbx⟩; refine hK.out _ _ (q1.trans g2) ?_; intro _; replace q1 := q1.trans g2; clear hK K g2; replace hbx := Tells.withID hbx)
      | (go_at_call 36; (with_reducible refine (HFi.out _ (HB1.out.2.trans q1) _ hbx).mono ?_); rintro e wy ⟨rfl, g2⟩; refine hK.out _ _ (q1.trans g2) ?_; intro _; replace q1 := q1.trans g2; clear hK K g2 hbx)
      | (refine hK.out _ _ q1 ?_; intro _; clear hK K))))
  refine HW.end_ ?_
  refine NoPanic.normal ?_
  have HN := Lib.hid (HB1.out.2.trans q1)
  have hp1 := q1.at' HB1.out.1.1
  have hq1 := q1.at' HB1.out.1.2
  have c0 := hcell (j := 0) hp1
  have c1 := hcell (j := 1) hp1
  have c2 := hcell (j := 2) hp1
  have c3 := hcell (j := 3) hp1
  have hpl := hlt hp1
  have d0 := hcell (j := 0) hq1
  have d1 := hcell (j := 1) hq1
  have d2 := hcell (j := 2) hq1
  have d3 := hcell (j := 3) hq1
  have d4 := hcell (j := 4) hq1
  have fz := fun k => hfz (j := k) hq1
  have hsl2 := hlt hq1
  rcases at_plc q id with ⟨e1, hf⟩ | ⟨k, e1, hk, hf⟩
  · obtain rfl := hpx.symm.trans e1
    have HF := Lib.hid (hV.symm.trans (show fndV q id = .tuple #[rqV ⟨0, 0, 0, 0, 0⟩, .bool false] by unfold fndV; rw [hf]))
    clear hpx hV e1 hf s0 s1 s2 s3 HB1 HFi HWi HAt HW1 q1 hp1 hq1
    go_wp2
    refine bodyPost_ret (v := .tuple #[.agg #[.int .i64 0, .int .i64 0, .int .i64 0, .int .i64 0, .int .i64 0], .bool false]) (by simp only [results, Try.results15]; simp [go_sem, *]) rfl ⟨by rw [HF.out]; rfl, ?_⟩
    exact ((((HN.out.st (Nat.le_succ _) _).st (Nat.le_succ _) _).st (Nat.le_succ _) _).st (Nat.le_succ _) _).st (Nat.le_succ _) _
  · obtain rfl := hpx.symm.trans e1
    rcases (HAt.out.nw HN.out) with ⟨a', c', e3, ⟨e4, _⟩ | ⟨b, o, e4, hc⟩⟩
    · subst e4; simp at hk
    simp only [Value.slice.injEq, true_and] at e3
    obtain ⟨rfl, rfl⟩ := e3
    subst e4
    have hce := hc.cell k hk
    have dk : ((k : Int) == -1) = false := by simp
    have hki : (k : Int) < (q.length : Int) := by omega
    have HF := Lib.hid (hV.symm.trans (show fndV q id = .tuple #[rqV q[k], .bool true] by unfold fndV; rw [hf]))
    clear hpx hV e1 hf s0 s1 s2 s3 HB1 HFi HWi HAt HW1 q1 hp1 hq1 hc
    generalize q[k] = R at *
    obtain ⟨b0, b1, b2, b3, b4⟩ := R
    have m0 := hce 0 _ rfl
    have m1 := hce 1 _ rfl
    have m2 := hce 2 _ rfl
    have m3 := hce 3 _ rfl
    have m4 := hce 4 _ rfl
    simp only [Nat.add_zero] at m0
    clear hce
    go_wp2
    refine bodyPost_ret (v := .tuple #[.agg #[.int .i64 b0, .int .i64 b1, .int .i64 b2, .int .i64 b3, .int .i64 b4], .bool true]) (by simp only [results, Try.results15]; simp [go_sem, *]) rfl ⟨by rw [HF.out]; rfl, ?_⟩
    exact ((((HN.out.st (Nat.le_succ _) _).st (Nat.le_succ _) _).st (Nat.le_succ _) _).st (Nat.le_succ _) _).st (Nat.le_succ _) _
set_option maxRecDepth 100000 in
set_option maxHeartbeats 4000000 in
theorem dLeave (t r W id : Int) (v : Value) (q : List Rq) (w : World) (hl : q.length ≤ 1000) (h : RqAt w v q) :
    Calls Try.prog 11 #[hdV t r v W, .int .i64 id] w (HD1 (lvR ⟨t, r, W, q⟩ id) w) := by
  obtain ⟨X, hX⟩ : ∃ X, lvR ⟨t, r, W, q⟩ id = X := ⟨_, rfl⟩
  rw [hX]
  unfold HD1
  have HWo := Lib.hid (fun (w1 : World) (g : Nw w w1) => dWithout t r W id v q w1 hl (h.nw g))
  unfold hdV at HWo
  obtain ⟨px, hpx⟩ : ∃ px, plc (fun R => R.id == id) q = px := ⟨_, rfl⟩
  have hFi := fun (w1 : World) (g : Nw w w1) (f : Value) (hf : Tells w1 f (fun R => R.id == id)) => dFind t r W v f _ q w1 hl (h.nw g) hf
  rw [hpx] at hFi
  have HAt := Lib.hid h
  obtain ⟨a, c, rfl, _⟩ := h
  unfold hdV at hFi ⊢
  have HFi := Lib.hid hFi
  clear hFi
  have HWi := Lib.hid (dWithID id)
  obtain ⟨hx1, hx2, hx3, hx4⟩ := two_boxes w (.cells #[.int .i64 t, .int .i64 r, .slice a q.length c, .int .i64 W] 27) (.cells #[.int .i64 0, .int .i64 0, .slice none 0 0, .int .i64 0] 27)
  obtain ⟨w1, hw1⟩ : ∃ w1, (w.alloc (.cells #[.int .i64 t, .int .i64 r, .slice a q.length c, .int .i64 W] 27)).alloc (.cells #[.int .i64 0, .int .i64 0, .slice none 0 0, .int .i64 0] 27) = w1 := ⟨_, rfl⟩
  rw [hw1] at hx1 hx2 hx3
  have HB1 := Lib.hid (And.intro (And.intro hx1 hx2) hx3)
  have s0 : ∀ z, Nw w1 z → z.cell? ⟨w.heap.size, 0, none⟩ = some (.int .i64 t) := fun z hz => hz.kp (hcell (j := 0) hx1)
  have s1 : ∀ z, Nw w1 z → z.cell? ⟨w.heap.size, 1, none⟩ = some (.int .i64 r) := fun z hz => hz.kp (hcell (j := 1) hx1)
  have s2 : ∀ z, Nw w1 z → z.cell? ⟨w.heap.size, 2, none⟩ = some (.slice a q.length c) := fun z hz => hz.kp (hcell (j := 2) hx1)
  have s3 : ∀ z, Nw w1 z → z.cell? ⟨w.heap.size, 3, none⟩ = some (.int .i64 W) := fun z hz => hz.kp (hcell (j := 3) hx1)
  clear hx1 hx2 hx3 hx4
  have HW1 := Lib.hid hw1
  clear hw1
  have q1 := (Nw.refl w1).drew1
  obtain ⟨wc, hwc⟩ : ∃ wc, w1.drew = wc := ⟨_, rfl⟩
  go_enter Try.func11, Try.ntmps11
  go_wp2
  rw [HW1.out]
  refine region_told [some true, some true, some false, none, some false, none, some true] (Nw w1) (by kernel_rfl) (by kernel_rfl) (by kernel_rfl) q1 ?_
  rw [hwc] at q1 ⊢
  clear hwc
  repeat (first
    | (refine HW.off ?_)
    | (refine HW.take' ?_; (first | (refine ⟨undef, Or.inr ⟨by rfl, rfl⟩, ?_⟩) | (apply Exists.intro; refine ⟨Or.inl ⟨by rfl, ?_⟩, ?_⟩; (intro x hx; go_simp; first | done | with_reducible rfl))); (try simp only [Act.put, List.setIfInBounds_toArray, List.set_cons_zero, List.set_cons_succ]))
    | (refine HW.go (fun K hK => ?_); go_simp; (first
      | (go_at_call 37; (with_reducible refine (HWi.out _).mono ?_); rintro e wy ⟨pa, rfl, g2, hbx⟩; refine hK.out _ _ (q1.trans g2) ?_; intro _; replace q1 := q1.trans g2; clear hK K g2; replace hbx := Tells.withID hbx)
      | (go_at_call 36; (with_reducible refine (HFi.out _ (HB1.out.2.trans q1) _ hbx).mono ?_); rintro e wy ⟨rfl, g2⟩; refine hK.out _ _ (q1.trans g2) ?_; intro _; replace q1 := q1.trans g2; clear hK K g2 hbx)
      | (refine hK.out _ _ q1 ?_; intro _; clear hK K))))
  refine HW.end_ ?_
  refine NoPanic.normal ?_
  have HN := Lib.hid (HB1.out.2.trans q1)
  have hp1 := q1.at' HB1.out.1.1
  have hq1 := q1.at' HB1.out.1.2
  have c0 := hcell (j := 0) hp1
  have c1 := hcell (j := 1) hp1
  have c2 := hcell (j := 2) hp1
  have c3 := hcell (j := 3) hp1
  have hpl := hlt hp1
  rcases at_plc q id with ⟨e1, hf⟩ | ⟨k, e1, hk, hf⟩
  · obtain rfl := hpx.symm.trans e1
    have hR := hX.symm.trans (show lvR ⟨t, r, W, q⟩ id = (noH, 5) by unfold lvR; rw [hf])
    subst hR
    have d0 := hcell (j := 0) hq1
    have d1 := hcell (j := 1) hq1
    have d2 := hcell (j := 2) hq1
    have d3 := hcell (j := 3) hq1
    have fz := fun k => hfz (j := k) hq1
    have hsl2 := hlt hq1
    clear hpx hX e1 hf s0 s1 s2 s3 HB1 HFi HWi HAt HW1 q1 hp1 hq1 HWo
    go_wp2
    exact bodyPost_ret (v := .tuple #[.agg #[.int .i64 0, .int .i64 0, .slice none 0 0, .int .i64 0], .int .i64 5]) (by simp only [results, Try.results11]; simp [go_sem, *]) rfl ⟨_, rfl, fill_nw HN.out (Nat.le_succ _) _ _ _ _, Rd.nil _, Nat.le_refl _, Fresh.nil _ _⟩
  · obtain rfl := hpx.symm.trans e1
    have dk : ((k : Int) == -1) = false := by simp
    have hR := hX.symm.trans (show lvR ⟨t, r, W, q⟩ id = (⟨t, r, W, lvQ id q⟩, 0) by unfold lvR; rw [hf])
    subst hR
    have HQ := Lib.hid hq1
    have HWo2 := Lib.hid (HWo.out _ HN.out)
    clear hpx hX e1 hf s0 s1 s2 s3 HB1 HFi HWi HAt HW1 q1 hp1 hq1 HWo
    go_wp2_with fail
    go_at_call 44
    refine HWo2.out.mono ?_
    rintro e w2 ⟨v2, rfl, g2, hR, hcap, hfr⟩
    have hs := Lib.hid (hlt HQ.out)
    have hq2 := g2.at' HQ.out
    have HR := Lib.hid (And.intro hR (And.intro hcap hfr))
    have HN2 := Lib.hid (HN.out.trans g2)
    have HN1 := Lib.hid HN.out
    obtain ⟨a2, k2, hv2⟩ := hR.form
    obtain ⟨n2, hn2⟩ : ∃ n, (lvQ id q).length = n := ⟨_, rfl⟩
    rw [hn2] at hv2
    subst hv2
    have d0 := hcell (j := 0) hq2
    have d1 := hcell (j := 1) hq2
    have d2 := hcell (j := 2) hq2
    have d3 := hcell (j := 3) hq2
    have fz := fun k => hfz (j := k) hq2
    have hsl2 := hlt hq2
    clear hq2 hR hcap hfr g2 hn2 HQ HWo2 HN
    go_wp2
    exact bodyPost_ret (v := .tuple #[.agg #[.int .i64 t, .int .i64 r, .slice a2 n2 k2, .int .i64 W], .int .i64 0]) (by simp only [results, Try.results11]; simp [go_sem, *]) rfl ⟨_, rfl, fill_nw HN2.out (Nat.le_succ _) _ _ _ _, rd_fill HR.out.1 HR.out.2.2 hs.out _ _ _ _, HR.out.2.1, HR.out.2.2.old HN1.out⟩
end Go.Proofs.Ytmciiobncfchlaa
