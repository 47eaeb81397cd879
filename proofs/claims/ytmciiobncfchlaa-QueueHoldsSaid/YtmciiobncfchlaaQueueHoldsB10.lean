/- Texts merged: QvL, QvV, QvW, QvY, Shelf, QwA -/
import Derived.Test.YtmciiobncfchlaaQueueHoldsB9
import Derived.StillTailTactics
import Derived.Deep.QuietTactic
import Derived.BigQuiet
import Derived.Shelf.Small.Wraps
import Derived.Shelf.Sort.Plain
import Derived.Ground.Names2Prog
import Derived.Shelf.Slices.CompactI
import Derived.Shelf.Slices.Cells
import Derived.Shelf.Slices.In.SortNone
import Derived.Test.YtmciiobncfchlaaProg
import Derived.Sort.OwnSortedInts
import Derived.Lib.RowBridge

/- The developers' package queue: without, Leave, Find, Mode. -/
section
namespace Go.Proofs.Ytmciiobncfchlaa
open Go.RowKit
set_option linter.unusedVariables false      -- a contract need not use every name

theorem at_plc (q : List Rq) (id : Int) : AtIs q id (plc (fun R => R.id == id) q) := by
  rcases plc_form (fun R => R.id == id) q with ⟨h1, h2⟩ | ⟨k, h1, hk, h3, h4⟩
  · refine .inl ⟨h1, ?_⟩
    unfold fnd
    rw [List.find?_eq_none]
    intro x hx; rw [h2 x hx]; simp
  · refine .inr ⟨k, h1, hk, ?_⟩
    unfold fnd
    have e := split_at q k hk
    conv => lhs; rw [e]
    rw [List.find?_append, List.find?_cons, h3]
    have : (q.take k).find? (fun r => r.id == id) = none := by
      rw [List.find?_eq_none]
      intro x hx
      obtain ⟨i, hi, rfl⟩ := List.getElem_of_mem hx
      simp at hi
      have := h4 i (by omega) (by omega)
      simpa using this
    rw [this]; rfl
theorem md_plc (q : List Rq) (x : Int) : (plc (fun R => R.txn == x) q = -1 ∧ mdQ q x = 0) ∨ ∃ k : Nat, plc (fun R => R.txn == x) q = k ∧ ∃ h : k < q.length, mdQ q x = q[k].md := by
  rcases plc_form (fun R => R.txn == x) q with ⟨h1, h2⟩ | ⟨k, h1, hk, h3, h4⟩
  · refine .inl ⟨h1, md_none ?_⟩
    rw [List.find?_eq_none]
    intro y hy; rw [h2 y hy]; simp
  · refine .inr ⟨k, h1, hk, md_hit hk ?_ (by simpa using h3)⟩
    rw [List.find?_eq_none]
    intro y hy
    obtain ⟨i, hi, rfl⟩ := List.getElem_of_mem hy
    simp at hi
    have := h4 i (by omega) (by omega)
    simpa using this
theorem dWithIDn (i : Int) (w : World) : Calls Try.prog 37 #[.int .i64 i] w fun e w' => ∃ p, e = .returned (.func (.func 71) #[] #[.pointer (some ⟨p, 0, none⟩)]) ∧ Nw w w' ∧ w'.cell? ⟨p, 0, none⟩ = some (.int .i64 i) ∧ w.heap.size ≤ p := by
  go_enter Try.func37, Try.ntmps37
  go_wp2
  go_ret
  exact ⟨_, rfl, (Nw.refl _).alloc _, hcell (allocAt w _), Nat.le_refl _⟩
theorem rd_st {w : World} {v : Value} {q : List Rq} {w0 : World} (h : RqAt w v q) (hf : Fresh w0 v q) {p : Addr} (hp : p.block < w0.heap.size) (u : Value) : RqAt (w.setCell p u) v q := by
  obtain ⟨a, c, rfl, ⟨rfl, hh⟩ | ⟨b, o, rfl, hc⟩⟩ := h
  · exact ⟨a, c, rfl, .inl ⟨rfl, hh⟩⟩
  · rcases hf b o _ _ rfl with hb | rfl
    · refine ⟨_, c, rfl, .inr ⟨b, o, rfl, ⟨Nat.lt_of_lt_of_le hc.lt (sgrown w p u).size, fun i hi k x hx => ?_⟩⟩⟩
      have e := (sgrown w p u).block b hc.lt (fun e => by have := Option.some.inj e; omega)
      exact (World.cell?_of_block e).trans (hc.cell i hi k x hx)
    · exact ⟨_, c, rfl, .inr ⟨b, o, rfl, ⟨Nat.lt_of_lt_of_le hc.lt (sgrown w p u).size, fun i hi => by simp at hi⟩⟩⟩
theorem rd_fill {w : World} {v : Value} {q : List Rq} {w0 : World} (h : RqAt w v q) (hf : Fresh w0 v q) {rb : Nat} (hp : rb < w0.heap.size) (u0 u1 u2 u3 : Value) : RqAt ((((w.setCell ⟨rb, 0, none⟩ u0).setCell ⟨rb, 1, none⟩ u1).setCell ⟨rb, 2, none⟩ u2).setCell ⟨rb, 3, none⟩ u3) v q :=
  rd_st (rd_st (rd_st (rd_st h hf (p := ⟨rb, 0, none⟩) hp u0) hf (p := ⟨rb, 1, none⟩) hp u1) hf (p := ⟨rb, 2, none⟩) hp u2) hf (p := ⟨rb, 3, none⟩) hp u3
set_option maxRecDepth 100000 in
set_option maxHeartbeats 4000000 in
theorem dWithout (t r W id : Int) (v : Value) (q : List Rq) (w : World) (hl : q.length ≤ 1000) (h : RqAt w v q) :
    Calls Try.prog 44 #[hdV t r v W, .int .i64 id] w fun e w' => ∃ v', e = .returned (hdV t r v' W) ∧ Nw w w' ∧ RqAt w' v' (lvQ id q) ∧ capOk v' ∧ Fresh w v' (lvQ id q) := by
  have HCl := Lib.hid (fun (w1 : World) (g : Nw w w1) => dClone v q w1 hl (h.nw g))
  have HWi := Lib.hid (dWithIDn id)
  unfold hdV
  obtain ⟨a, c, rfl, _⟩ := h
  have HX := Lib.hid (two_boxes w (.cells #[.int .i64 t, .int .i64 r, .slice a q.length c, .int .i64 W] 27) (.cells #[.int .i64 0, .int .i64 0, .slice none 0 0, .int .i64 0] 27))
  go_enter Try.func44, Try.ntmps44
  go_wp2_with fail
  go_at_call 48
  refine (HCl.out _ HX.out.2.2.1).mono ?_
  rintro e w2 ⟨v1, rfl, g2, hO⟩
  have hq2 := g2.at' HX.out.2.1
  have hp2 := g2.at' HX.out.1
  have HQ := Lib.hid (And.intro hp2 (And.intro hq2 (HX.out.2.2.1.trans g2)))
  have hs2 : w.heap.size + 1 + 1 ≤ w2.heap.size := by have := g2.sz; rw [HX.out.2.2.2] at this; exact this
  have HO := Lib.hid (olow hO (g1 := w.heap.size + 1 + 1) (fun g hg => by have := oge hO hg; rw [HX.out.2.2.2] at this; exact this))
  clear hO g2 HCl HX hq2 hp2
  go_wp2_with fail
  go_at_call 37
  refine (HWi.out _).mono ?_
  rintro e w3 ⟨pa, rfl, g3, hc3, hge⟩
  have HD := Lib.hid (dDelete (fun R => R.id == id) _ (w.heap.size + 1 + 1) v1 q w3 hl (onw HO.out g3) (Tells.withID hc3) (fun w4 hT => by
    refine Tells.withID ((hT.cell (World.block_lt_of_cell? _ _ hc3) (fun e => ?_)).trans hc3)
    have := olt HO.out e
    simp only at this hge
    omega))
  have HG3 := Lib.hid g3
  obtain ⟨a1, c1, hv1⟩ := (RqOwn.rd HO.out).form
  subst hv1
  clear g3 hc3 hge HWi
  go_wp2_with fail
  go_at_call 76
  refine HD.out.mono ?_
  rintro e w4 ⟨v4, rfl, hR, hcap, hfr, hT⟩
  have HR := Lib.hid (And.intro hR (And.intro hcap (show Fresh ((w.alloc (.cells #[.int .i64 t, .int .i64 r, .slice a q.length c, .int .i64 W] 27)).alloc (.cells #[.int .i64 0, .int .i64 0, .slice none 0 0, .int .i64 0] 27)) v4 (lvQ id q) from fun b o n c e => by
    rcases hfr b o n c e with h | h
    · have := oge HO.out h
      exact .inl (by simpa using this)
    · exact .inr h)))
  have HN := Lib.hid (nw_tch (HQ.out.2.2.trans HG3.out) hT (fun i e => by have := oge HO.out e; omega))
  have hpl3 : w.heap.size < w3.heap.size := by have := HG3.out.sz; omega
  have hpl3' : w.heap.size + 1 < w3.heap.size := by have := HG3.out.sz; omega
  have hp4 := (hT.block w.heap.size hpl3 (fun e => by have := oge HO.out e; omega)).trans (HG3.out.at' HQ.out.1)
  have hq4 := (hT.block (w.heap.size + 1) hpl3' (fun e => by have := oge HO.out e; omega)).trans (HG3.out.at' HQ.out.2.1)
  obtain ⟨a4, c4, hv4⟩ := hR.form
  obtain ⟨n4, hn4⟩ : ∃ n, (outQ (fun R => R.id == id) q).length = n := ⟨_, rfl⟩
  rw [hn4] at hv4
  subst hv4
  have c0 := hcell (j := 0) hp4
  have c1' := hcell (j := 1) hp4
  have c2 := hcell (j := 2) hp4
  have c3 := hcell (j := 3) hp4
  have fp := fun k => hfz (j := k) hp4
  have d0 := hcell (j := 0) hq4
  have d1 := hcell (j := 1) hq4
  have d2 := hcell (j := 2) hq4
  have d3 := hcell (j := 3) hq4
  have fz := fun k => hfz (j := k) hq4
  have hs4 := hlt hp4
  have hs5 := hlt hq4
  clear hp4 hq4 hT hR hcap hn4 hpl3 hpl3' HD HO HG3 HQ hs2
  go_wp2
  exact bodyPost_ret (v := .agg #[.int .i64 t, .int .i64 r, .slice a4 n4 c4, .int .i64 W]) (by simp only [results, Try.results44]; simp [go_sem, *]) rfl ⟨_, rfl, fill_nw (HN.out.st (Nat.le_refl _) _) (Nat.le_succ _) _ _ _ _, rd_fill (w0 := (w.alloc (.cells #[.int .i64 t, .int .i64 r, .slice a q.length c, .int .i64 W] 27)).alloc (.cells #[.int .i64 0, .int .i64 0, .slice none 0 0, .int .i64 0] 27)) (rd_st (w0 := (w.alloc (.cells #[.int .i64 t, .int .i64 r, .slice a q.length c, .int .i64 W] 27)).alloc (.cells #[.int .i64 0, .int .i64 0, .slice none 0 0, .int .i64 0] 27)) HR.out.1 HR.out.2.2 (p := ⟨w.heap.size, 2, none⟩) (by simp; omega) _) HR.out.2.2 (by simp) _ _ _ _, HR.out.2.1, fun b o n c e => (HR.out.2.2 b o n c e).imp (fun h => by simp at h; omega) (fun h => h)⟩
set_option maxRecDepth 100000 in
set_option maxHeartbeats 4000000 in
theorem dMode (t r W id : Int) (v : Value) (q : List Rq) (w : World) (hl : q.length ≤ 1000) (h : RqAt w v q) :
    Calls Try.prog 18 #[hdV t r v W, .int .i64 id] w fun e w' => e = .returned (.int .i64 (mdQ q id)) ∧ Nw w w' := by
  obtain ⟨M, hM⟩ : ∃ M, mdQ q id = M := ⟨_, rfl⟩
  rw [hM]
  obtain ⟨px, hpx⟩ : ∃ px, plc (fun R => R.txn == id) q = px := ⟨_, rfl⟩
  have hFi := fun (w1 : World) (g : Nw w w1) (f : Value) (hf : Tells w1 f (fun R => R.txn == id)) => dFind t r W v f _ q w1 hl (h.nw g) hf
  rw [hpx] at hFi
  have HAt := Lib.hid h
  obtain ⟨a, c, rfl, _⟩ := h
  unfold hdV at hFi ⊢
  have HFi := Lib.hid hFi
  clear hFi
  have HWi := Lib.hid (dOfTxn id)
  have hx1 := allocAt w (.cells #[.int .i64 t, .int .i64 r, .slice a q.length c, .int .i64 W] 27)
  have hx3 : Nw w (w.alloc (.cells #[.int .i64 t, .int .i64 r, .slice a q.length c, .int .i64 W] 27)) := (Nw.refl w).alloc _
  obtain ⟨w1, hw1⟩ : ∃ w1, w.alloc (.cells #[.int .i64 t, .int .i64 r, .slice a q.length c, .int .i64 W] 27) = w1 := ⟨_, rfl⟩
  rw [hw1] at hx1 hx3
  have HB1 := Lib.hid (And.intro hx1 hx3)
  have s0 : ∀ z, Nw w1 z → z.cell? ⟨w.heap.size, 0, none⟩ = some (.int .i64 t) := fun z hz => hz.kp (hcell (j := 0) hx1)
  have s1 : ∀ z, Nw w1 z → z.cell? ⟨w.heap.size, 1, none⟩ = some (.int .i64 r) := fun z hz => hz.kp (hcell (j := 1) hx1)
  have s2 : ∀ z, Nw w1 z → z.cell? ⟨w.heap.size, 2, none⟩ = some (.slice a q.length c) := fun z hz => hz.kp (hcell (j := 2) hx1)
  have s3 : ∀ z, Nw w1 z → z.cell? ⟨w.heap.size, 3, none⟩ = some (.int .i64 W) := fun z hz => hz.kp (hcell (j := 3) hx1)
  clear hx1 hx3
  have HW1 := Lib.hid hw1
  clear hw1
  have q1 := (Nw.refl w1).drew1
  obtain ⟨wc, hwc⟩ : ∃ wc, w1.drew = wc := ⟨_, rfl⟩
  go_enter Try.func18, Try.ntmps18
  go_wp2
  rw [HW1.out]
  refine region_told [some true, some true, some false, none, some false, none, some true] (Nw w1) (by kernel_rfl) (by kernel_rfl) (by kernel_rfl) q1 ?_
  rw [hwc] at q1 ⊢
  clear hwc
  repeat (first
    | (refine HW.off ?_)
    | (refine HW.take' ?_; (first | (refine ⟨undef, Or.inr ⟨by rfl, rfl⟩, ?_⟩) | (apply Exists.intro; refine ⟨Or.inl ⟨by rfl, ?_⟩, ?_⟩; (intro x hx; go_simp; first | done | with_reducible rfl))); (try simp only [Act.put, List.setIfInBounds_toArray, List.set_cons_zero, List.set_cons_succ]))
    | (refine HW.go (fun K hK => ?_); go_simp; (first
      | (go_at_call 38; (with_reducible refine (HWi.out _).mono ?_); rintro e wy ⟨pa, rfl, g2, hbx⟩; refine hK.out _ _ (q1.trans g2) ?_; intro _; replace q1 := q1.trans g2; clear hK K g2; replace hbx := Tells.ofTxn hbx)
      | (go_at_call 36; (with_reducible refine (HFi.out _ (HB1.out.2.trans q1) _ hbx).mono ?_); rintro e wy ⟨rfl, g2⟩; refine hK.out _ _ (q1.trans g2) ?_; intro _; replace q1 := q1.trans g2; clear hK K g2 hbx)
      | (refine hK.out _ _ q1 ?_; intro _; clear hK K))))
  refine HW.end_ ?_
  refine NoPanic.normal ?_
  have HN := Lib.hid (HB1.out.2.trans q1)
  have hp1 := q1.at' HB1.out.1
  have c2 := hcell (j := 2) hp1
  have hpl := hlt hp1
  rcases md_plc q id with ⟨e1, e2⟩ | ⟨k, e1, hk, e2⟩
  · obtain rfl := hpx.symm.trans e1
    obtain rfl := hM.symm.trans e2
    clear hpx hM e1 e2 s0 s1 s2 s3 HB1 HFi HWi HAt HW1 q1 hp1
    go_wp2
    go_ret
    exact ⟨rfl, HN.out⟩
  · obtain rfl := hpx.symm.trans e1
    rcases (HAt.out.nw HN.out) with ⟨a', c', e3, ⟨e4, _⟩ | ⟨b, o, e4, hc⟩⟩
    · subst e4; simp at hk
    simp only [Value.slice.injEq, true_and] at e3
    obtain ⟨rfl, rfl⟩ := e3
    subst e4
    have m2 := hc.cell k hk 2 _ rfl
    obtain rfl := hM.symm.trans e2
    have dk : ((k : Int) == -1) = false := by simp
    have hki : (k : Int) < (q.length : Int) := by omega
    clear hpx e1 e2 s0 s1 s2 s3 HB1 HFi HWi HAt HW1 q1 hp1 hc
    go_wp2
    go_ret
    exact ⟨rfl, HN.out⟩
set_option maxRecDepth 100000 in
set_option maxHeartbeats 4000000 in
theorem dFindQ (t r W id : Int) (v : Value) (q : List Rq) (w : World) (hl : q.length ≤ 1000) (h : RqAt w v q) :
    Calls Try.prog 15 #[hdV t r v W, .int .i64 id] w fun e w' => e = .returned (fndV q id) ∧ Nw w w' := by
  obtain ⟨V, hV⟩ : ∃ V, fndV q id = V := ⟨_, rfl⟩
  rw [hV]
  obtain ⟨px, hpx⟩ : ∃ px, plc (fun R => R.id == id) q = px := ⟨_, rfl⟩
  have hFi := fun (w1 : World) (g : Nw w w1) (f : Value) (hf : Tells w1 f (fun R => R.id == id)) => dFind t r W v f _ q w1 hl (h.nw g) hf
  rw [hpx] at hFi
  have HAt := Lib.hid h
  obtain ⟨a, c, rfl, _⟩ := h
  unfold hdV at hFi ⊢
  have HFi := Lib.hid hFi
  clear hFi
  have HWi := Lib.hid (dWithID id)
  obtain ⟨hx1, hx2, hx3, hx4⟩ := two_boxes w (.cells #[.int .i64 t, .int .i64 r, .slice a q.length c, .int .i64 W] 27) (.cells #[.int .i64 0, .int .i64 0, .int .i64 0, .int .i64 0, .int .i64 0] 41)
  obtain ⟨w1, hw1⟩ : ∃ w1, (w.alloc (.cells #[.int .i64 t, .int .i64 r, .slice a q.length c, .int .i64 W] 27)).alloc (.cells #[.int .i64 0, .int .i64 0, .int .i64 0, .int .i64 0, .int .i64 0] 41) = w1 := ⟨_, rfl⟩
  rw [hw1] at hx1 hx2 hx3
  have HB1 := Lib.hid (And.intro (And.intro hx1 hx2) hx3)
  have s0 : ∀ z, Nw w1 z → z.cell? ⟨w.heap.size, 0, none⟩ = some (.int .i64 t) := fun z hz => hz.kp (hcell (j := 0) hx1)
  have s1 : ∀ z, Nw w1 z → z.cell? ⟨w.heap.size, 1, none⟩ = some (.int .i64 r) := fun z hz => hz.kp (hcell (j := 1) hx1)
  have s2 : ∀ z, Nw w1 z → z.cell? ⟨w.heap.size, 2, none⟩ = some (.slice a q.length c) := fun z hz => hz.kp (hcell (j := 2) hx1)
  have s3 : ∀ z, Nw w1 z → z.cell? ⟨w.heap.size, 3, none⟩ = some (.int .i64 W) := fun z hz => hz.kp (hcell (j := 3) hx1)
  clear hx1 hx2 hx3 hx4
  have HW1 := Lib.hid hw1
  clear hw1
  have q1 := (Nw.refl w1).drew1
  obtain ⟨wc, hwc⟩ : ∃ wc, w1.drew = wc := ⟨_, rfl⟩
  go_enter Try.func15, Try.ntmps15
  go_wp2
  rw [HW1.out]
  refine region_told [some true, some true, some false, none, some false, none, some true] (Nw w1) (by kernel_rfl) (by kernel_rfl) (by kernel_rfl) q1 ?_
  rw [hwc] at q1 ⊢
  clear hwc
  repeat (first
    | (refine HW.off ?_)
    | (refine HW.take' ?_; (first | (refine ⟨undef, Or.inr ⟨by rfl, rfl⟩, ?_⟩) | (apply Exists.intro; refine ⟨Or.inl ⟨by rfl, ?_⟩, ?_⟩; (intro x hx; go_simp; first | done | with_reducible rfl))); (try simp only [Act.put, List.setIfInBounds_toArray, List.set_cons_zero, List.set_cons_succ]))
    | (refine HW.go (fun K hK => ?_); go_simp; (first
      | (go_at_call 37; (with_reducible refine (HWi.out _).mono ?_); rintro e wy ⟨pa, rfl, g2, hbx⟩; refine hK.out _ _ (q1.trans g2) ?_; intro _; replace q1 := q1.trans g2; clear hK K g2; replace hbx := Tells.withID hbx)
      | (go_at_call 36; (with_reducible refine (HFi.out _ (HB1.out.2.trans q1) _ hbx).mono ?_); rintro e wy ⟨rfl, g2⟩; refine hK.out _ _ (q1.trans g2) ?_; intro _; replace q1 := q1.trans g2; clear hK K g2 hbx)
      | (refine hK.out _ _ q1 ?_; intro _; clear hK K))))
  refine HW.end_ ?_
  refine NoPanic.normal ?_
  have HN := Lib.hid (HB1.out.2.trans q1)
  have hp1 := q1.at' HB1.out.1.1
  have hq1 := q1.at' HB1.out.1.2
  have c0 := hcell (j := 0) hp1
  have c1 := hcell (j := 1) hp1
  have c2 := hcell (j := 2) hp1
  have c3 := hcell (j := 3) hp1
  have hpl := hlt hp1
  have d0 := hcell (j := 0) hq1
  have d1 := hcell (j := 1) hq1
  have d2 := hcell (j := 2) hq1
  have d3 := hcell (j := 3) hq1
  have d4 := hcell (j := 4) hq1
  have fz := fun k => hfz (j := k) hq1
  have hsl2 := hlt hq1
  rcases at_plc q id with ⟨e1, hf⟩ | ⟨k, e1, hk, hf⟩
  · obtain rfl := hpx.symm.trans e1
    have HF := Lib.hid (hV.symm.trans (show fndV q id = .tuple #[rqV ⟨0, 0, 0, 0, 0⟩, .bool false] by unfold fndV; rw [hf]))
    clear hpx hV e1 hf s0 s1 s2 s3 HB1 HFi HWi HAt HW1 q1 hp1 hq1
    go_wp2
    refine bodyPost_ret (v := .tuple #[.agg #[.int .i64 0, .int .i64 0, .int .i64 0, .int .i64 0, .int .i64 0], .bool false]) (by simp only [results, Try.results15]; simp [go_sem, *]) rfl ⟨by rw [HF.out]; rfl, ?_⟩
    exact ((((HN.out.st (Nat.le_succ _) _).st (Nat.le_succ _) _).st (Nat.le_succ _) _).st (Nat.le_succ _) _).st (Nat.le_succ _) _
  · obtain rfl := hpx.symm.trans e1
    rcases (HAt.out.nw HN.out) with ⟨a', c', e3, ⟨e4, _⟩ | ⟨b, o, e4, hc⟩⟩
    · subst e4; simp at hk
    simp only [Value.slice.injEq, true_and] at e3
    obtain ⟨rfl, rfl⟩ := e3
    subst e4
    have hce := hc.cell k hk
    have dk : ((k : Int) == -1) = false := by simp
    have hki : (k : Int) < (q.length : Int) := by omega
    have HF := Lib.hid (hV.symm.trans (show fndV q id = .tuple #[rqV q[k], .bool true] by unfold fndV; rw [hf]))
    clear hpx hV e1 hf s0 s1 s2 s3 HB1 HFi HWi HAt HW1 q1 hp1 hq1 hc
    generalize q[k] = R at *
    obtain ⟨b0, b1, b2, b3, b4⟩ := R
    have m0 := hce 0 _ rfl
    have m1 := hce 1 _ rfl
    have m2 := hce 2 _ rfl
    have m3 := hce 3 _ rfl
    have m4 := hce 4 _ rfl
    simp only [Nat.add_zero] at m0
    clear hce
    go_wp2
    refine bodyPost_ret (v := .tuple #[.agg #[.int .i64 b0, .int .i64 b1, .int .i64 b2, .int .i64 b3, .int .i64 b4], .bool true]) (by simp only [results, Try.results15]; simp [go_sem, *]) rfl ⟨by rw [HF.out]; rfl, ?_⟩
    exact ((((HN.out.st (Nat.le_succ _) _).st (Nat.le_succ _) _).st (Nat.le_succ _) _).st (Nat.le_succ _) _).st (Nat.le_succ _) _
set_option maxRecDepth 100000 in
set_option maxHeartbeats 4000000 in
theorem dLeave (t r W id : Int) (v : Value) (q : List Rq) (w : World) (hl : q.length ≤ 1000) (h : RqAt w v q) :
    Calls Try.prog 11 #[hdV t r v W, .int .i64 id] w (HD1 (lvR ⟨t, r, W, q⟩ id) w) := by
  obtain ⟨X, hX⟩ : ∃ X, lvR ⟨t, r, W, q⟩ id = X := ⟨_, rfl⟩
  rw [hX]
  unfold HD1
  have HWo := Lib.hid (fun (w1 : World) (g : Nw w w1) => dWithout t r W id v q w1 hl (h.nw g))
  unfold hdV at HWo
  obtain ⟨px, hpx⟩ : ∃ px, plc (fun R => R.id == id) q = px := ⟨_, rfl⟩
  have hFi := fun (w1 : World) (g : Nw w w1) (f : Value) (hf : Tells w1 f (fun R => R.id == id)) => dFind t r W v f _ q w1 hl (h.nw g) hf
  rw [hpx] at hFi
  have HAt := Lib.hid h
  obtain ⟨a, c, rfl, _⟩ := h
  unfold hdV at hFi ⊢
  have HFi := Lib.hid hFi
  clear hFi
  have HWi := Lib.hid (dWithID id)
  obtain ⟨hx1, hx2, hx3, hx4⟩ := two_boxes w (.cells #[.int .i64 t, .int .i64 r, .slice a q.length c, .int .i64 W] 27) (.cells #[.int .i64 0, .int .i64 0, .slice none 0 0, .int .i64 0] 27)
  obtain ⟨w1, hw1⟩ : ∃ w1, (w.alloc (.cells #[.int .i64 t, .int .i64 r, .slice a q.length c, .int .i64 W] 27)).alloc (.cells #[.int .i64 0, .int .i64 0, .slice none 0 0, .int .i64 0] 27) = w1 := ⟨_, rfl⟩
  rw [hw1] at hx1 hx2 hx3
  have HB1 := Lib.hid (And.intro (And.intro hx1 hx2) hx3)
  have s0 : ∀ z, Nw w1 z → z.cell? ⟨w.heap.size, 0, none⟩ = some (.int .i64 t) := fun z hz => hz.kp (hcell (j := 0) hx1)
  have s1 : ∀ z, Nw w1 z → z.cell? ⟨w.heap.size, 1, none⟩ = some (.int .i64 r) := fun z hz => hz.kp (hcell (j := 1) hx1)
  have s2 : ∀ z, Nw w1 z → z.cell? ⟨w.heap.size, 2, none⟩ = some (.slice a q.length c) := fun z hz => hz.kp (hcell (j := 2) hx1)
  have s3 : ∀ z, Nw w1 z → z.cell? ⟨w.heap.size, 3, none⟩ = some (.int .i64 W) := fun z hz => hz.kp (hcell (j := 3) hx1)
  clear hx1 hx2 hx3 hx4
  have HW1 := Lib.hid hw1
  clear hw1
  have q1 := (Nw.refl w1).drew1
  obtain ⟨wc, hwc⟩ : ∃ wc, w1.drew = wc := ⟨_, rfl⟩
  go_enter Try.func11, Try.ntmps11
  go_wp2
  rw [HW1.out]
  refine region_told [some true, some true, some false, none, some false, none, some true] (Nw w1) (by kernel_rfl) (by kernel_rfl) (by kernel_rfl) q1 ?_
  rw [hwc] at q1 ⊢
  clear hwc
  repeat (first
    | (refine HW.off ?_)
    | (refine HW.take' ?_; (first | (refine ⟨undef, Or.inr ⟨by rfl, rfl⟩, ?_⟩) | (apply Exists.intro; refine ⟨Or.inl ⟨by rfl, ?_⟩, ?_⟩; (intro x hx; go_simp; first | done | with_reducible rfl))); (try simp only [Act.put, List.setIfInBounds_toArray, List.set_cons_zero, List.set_cons_succ]))
    | (refine HW.go (fun K hK => ?_); go_simp; (first
      | (go_at_call 37; (with_reducible refine (HWi.out _).mono ?_); rintro e wy ⟨pa, rfl, g2, hbx⟩; refine hK.out _ _ (q1.trans g2) ?_; intro _; replace q1 := q1.trans g2; clear hK K g2; replace hbx := Tells.withID hbx)
      | (go_at_call 36; (with_reducible refine (HFi.out _ (HB1.out.2.trans q1) _ hbx).mono ?_); rintro e wy ⟨rfl, g2⟩; refine hK.out _ _ (q1.trans g2) ?_; intro _; replace q1 := q1.trans g2; clear hK K g2 hbx)
      | (refine hK.out _ _ q1 ?_; intro _; clear hK K))))
  refine HW.end_ ?_
  refine NoPanic.normal ?_
  have HN := Lib.hid (HB1.out.2.trans q1)
  have hp1 := q1.at' HB1.out.1.1
  have hq1 := q1.at' HB1.out.1.2
  have c0 := hcell (j := 0) hp1
  have c1 := hcell (j := 1) hp1
  have c2 := hcell (j := 2) hp1
  have c3 := hcell (j := 3) hp1
  have hpl := hlt hp1
  rcases at_plc q id with ⟨e1, hf⟩ | ⟨k, e1, hk, hf⟩
  · obtain rfl := hpx.symm.trans e1
    have hR := hX.symm.trans (show lvR ⟨t, r, W, q⟩ id = (noH, 5) by unfold lvR; rw [hf])
    subst hR
    have d0 := hcell (j := 0) hq1
    have d1 := hcell (j := 1) hq1
    have d2 := hcell (j := 2) hq1
    have d3 := hcell (j := 3) hq1
    have fz := fun k => hfz (j := k) hq1
    have hsl2 := hlt hq1
    clear hpx hX e1 hf s0 s1 s2 s3 HB1 HFi HWi HAt HW1 q1 hp1 hq1 HWo
    go_wp2
    exact bodyPost_ret (v := .tuple #[.agg #[.int .i64 0, .int .i64 0, .slice none 0 0, .int .i64 0], .int .i64 5]) (by simp only [results, Try.results11]; simp [go_sem, *]) rfl ⟨_, rfl, fill_nw HN.out (Nat.le_succ _) _ _ _ _, Rd.nil _, Nat.le_refl _, Fresh.nil _ _⟩
  · obtain rfl := hpx.symm.trans e1
    have dk : ((k : Int) == -1) = false := by simp
    have hR := hX.symm.trans (show lvR ⟨t, r, W, q⟩ id = (⟨t, r, W, lvQ id q⟩, 0) by unfold lvR; rw [hf])
    subst hR
    have HQ := Lib.hid hq1
    have HWo2 := Lib.hid (HWo.out _ HN.out)
    clear hpx hX e1 hf s0 s1 s2 s3 HB1 HFi HWi HAt HW1 q1 hp1 hq1 HWo
    go_wp2_with fail
    go_at_call 44
    refine HWo2.out.mono ?_
    rintro e w2 ⟨v2, rfl, g2, hR, hcap, hfr⟩
    have hs := Lib.hid (hlt HQ.out)
    have hq2 := g2.at' HQ.out
    have HR := Lib.hid (And.intro hR (And.intro hcap hfr))
    have HN2 := Lib.hid (HN.out.trans g2)
    have HN1 := Lib.hid HN.out
    obtain ⟨a2, k2, hv2⟩ := hR.form
    obtain ⟨n2, hn2⟩ : ∃ n, (lvQ id q).length = n := ⟨_, rfl⟩
    rw [hn2] at hv2
    subst hv2
    have d0 := hcell (j := 0) hq2
    have d1 := hcell (j := 1) hq2
    have d2 := hcell (j := 2) hq2
    have d3 := hcell (j := 3) hq2
    have fz := fun k => hfz (j := k) hq2
    have hsl2 := hlt hq2
    clear hq2 hR hcap hfr g2 hn2 HQ HWo2 HN
    go_wp2
    exact bodyPost_ret (v := .tuple #[.agg #[.int .i64 t, .int .i64 r, .slice a2 n2 k2, .int .i64 W], .int .i64 0]) (by simp only [results, Try.results11]; simp [go_sem, *]) rfl ⟨_, rfl, fill_nw HN2.out (Nat.le_succ _) _ _ _ _, rd_fill HR.out.1 HR.out.2.2 hs.out _ _ _ _, HR.out.2.1, HR.out.2.2.old HN1.out⟩
end Go.Proofs.Ytmciiobncfchlaa
end

/- The developers' package queue: Abandon, Hand. -/
section
namespace Go.Proofs.Ytmciiobncfchlaa
open Go.RowKit
set_option linter.unusedVariables false      -- a contract need not use every name

set_option maxRecDepth 100000 in
set_option maxHeartbeats 4000000 in
theorem dAbandon (t r W id : Int) (v : Value) (q : List Rq) (w : World) (hl : q.length ≤ 1000) (hok : Ok W q) (h : RqAt w v q) :
    Calls Try.prog 13 #[hdV t r v W, .int .i64 id] w (HD1 (abRes ⟨t, r, W, q⟩ id) w) := by
  have HOk := Lib.hid hok
  clear hok
  obtain ⟨X, hX⟩ : ∃ X, abRes ⟨t, r, W, q⟩ id = X := ⟨_, rfl⟩
  rw [hX]
  unfold HD1
  have HCl := Lib.hid (fun (w1 : World) (g : Nw w w1) => dClone v q w1 hl (h.nw g))
  have HWo := Lib.hid (fun (w1 : World) (g : Nw w w1) => dWithout t r W id v q w1 hl (h.nw g))
  unfold hdV at HWo
  obtain ⟨px, hpx⟩ : ∃ px, plc (fun R => R.id == id) q = px := ⟨_, rfl⟩
  have hFi := fun (w1 : World) (g : Nw w w1) (f : Value) (hf : Tells w1 f (fun R => R.id == id)) => dFind t r W v f _ q w1 hl (h.nw g) hf
  rw [hpx] at hFi
  have HAt := Lib.hid h
  obtain ⟨a, c, rfl, _⟩ := h
  unfold hdV at hFi ⊢
  have HFi := Lib.hid hFi
  clear hFi
  have HWi := Lib.hid (dWithID id)
  obtain ⟨hx1, hx2, hx3, hx4⟩ := two_boxes w (.cells #[.int .i64 t, .int .i64 r, .slice a q.length c, .int .i64 W] 27) (.cells #[.int .i64 0, .int .i64 0, .slice none 0 0, .int .i64 0] 27)
  obtain ⟨w1, hw1⟩ : ∃ w1, (w.alloc (.cells #[.int .i64 t, .int .i64 r, .slice a q.length c, .int .i64 W] 27)).alloc (.cells #[.int .i64 0, .int .i64 0, .slice none 0 0, .int .i64 0] 27) = w1 := ⟨_, rfl⟩
  rw [hw1] at hx1 hx2 hx3
  have HB1 := Lib.hid (And.intro (And.intro hx1 hx2) hx3)
  have s0 : ∀ z, Nw w1 z → z.cell? ⟨w.heap.size, 0, none⟩ = some (.int .i64 t) := fun z hz => hz.kp (hcell (j := 0) hx1)
  have s1 : ∀ z, Nw w1 z → z.cell? ⟨w.heap.size, 1, none⟩ = some (.int .i64 r) := fun z hz => hz.kp (hcell (j := 1) hx1)
  have s2 : ∀ z, Nw w1 z → z.cell? ⟨w.heap.size, 2, none⟩ = some (.slice a q.length c) := fun z hz => hz.kp (hcell (j := 2) hx1)
  have s3 : ∀ z, Nw w1 z → z.cell? ⟨w.heap.size, 3, none⟩ = some (.int .i64 W) := fun z hz => hz.kp (hcell (j := 3) hx1)
  clear hx1 hx2 hx3 hx4
  have HW1 := Lib.hid hw1
  clear hw1
  have q1 := (Nw.refl w1).drew1
  obtain ⟨wc, hwc⟩ : ∃ wc, w1.drew = wc := ⟨_, rfl⟩
  go_enter Try.func13, Try.ntmps13
  go_wp2
  rw [HW1.out]
  refine region_told [some true, some true, some false, none, some false, none, some true] (Nw w1) (by kernel_rfl) (by kernel_rfl) (by kernel_rfl) q1 ?_
  rw [hwc] at q1 ⊢
  clear hwc
  repeat (first
    | (refine HW.off ?_)
    | (refine HW.take' ?_; (first | (refine ⟨undef, Or.inr ⟨by rfl, rfl⟩, ?_⟩) | (apply Exists.intro; refine ⟨Or.inl ⟨by rfl, ?_⟩, ?_⟩; (intro x hx; go_simp; first | done | with_reducible rfl))); (try simp only [Act.put, List.setIfInBounds_toArray, List.set_cons_zero, List.set_cons_succ]))
    | (refine HW.go (fun K hK => ?_); go_simp; (first
      | (go_at_call 37; (with_reducible refine (HWi.out _).mono ?_); rintro e wy ⟨pa, rfl, g2, hbx⟩; refine hK.out _ _ (q1.trans g2) ?_; intro _; replace q1 := q1.trans g2; clear hK K g2; replace hbx := Tells.withID hbx)
      | (go_at_call 36; (with_reducible refine (HFi.out _ (HB1.out.2.trans q1) _ hbx).mono ?_); rintro e wy ⟨rfl, g2⟩; refine hK.out _ _ (q1.trans g2) ?_; intro _; replace q1 := q1.trans g2; clear hK K g2 hbx)
      | (refine hK.out _ _ q1 ?_; intro _; clear hK K))))
  refine HW.end_ ?_
  refine NoPanic.normal ?_
  have HN := Lib.hid (HB1.out.2.trans q1)
  have hp1 := q1.at' HB1.out.1.1
  have hq1 := q1.at' HB1.out.1.2
  have c0 := hcell (j := 0) hp1
  have c1 := hcell (j := 1) hp1
  have c2 := hcell (j := 2) hp1
  have c3 := hcell (j := 3) hp1
  have hpl := hlt hp1
  rcases at_plc q id with ⟨e1, hf⟩ | ⟨k, e1, hk, hf⟩
  · obtain rfl := hpx.symm.trans e1
    have hR := hX.symm.trans (show abRes ⟨t, r, W, q⟩ id = (noH, 5) by unfold abRes; rw [hf])
    subst hR
    have d0 := hcell (j := 0) hq1
    have d1 := hcell (j := 1) hq1
    have d2 := hcell (j := 2) hq1
    have d3 := hcell (j := 3) hq1
    have fz := fun k => hfz (j := k) hq1
    have hsl2 := hlt hq1
    clear hpx hX e1 hf s0 s1 s2 s3 HB1 HFi HWi HAt HW1 q1 hp1 hq1 HWo HCl
    go_wp2
    exact bodyPost_ret (v := .tuple #[.agg #[.int .i64 0, .int .i64 0, .slice none 0 0, .int .i64 0], .int .i64 5]) (by simp only [results, Try.results13]; simp [go_sem, *]) rfl ⟨_, rfl, fill_nw HN.out (Nat.le_succ _) _ _ _ _, Rd.nil _, Nat.le_refl _, Fresh.nil _ _⟩
  · obtain rfl := hpx.symm.trans e1
    have dk : ((k : Int) == -1) = false := by simp
    have hX1 : ¬ 0 < q[k].sn → X = (noH, 7) := fun s => hX.symm.trans (by unfold abRes; rw [hf]; exact if_neg s)
    have hX2 : 0 < q[k].sn → q[k].md = 0 → X = (⟨t, r, W, lvQ id q⟩, 0) := fun s m => hX.symm.trans (by unfold abRes; rw [hf]; simp only [if_pos s]; unfold abQ; rw [if_pos m, (fnd_is hf).2])
    have hX3 : 0 < q[k].sn → q[k].md ≠ 0 → X = (⟨t, r, W, q.set k ⟨q[k].id, q[k].txn, q[k].md, q[k].md, 0⟩⟩, 0) := fun s m => hX.symm.trans (by unfold abRes; rw [hf]; simp only [if_pos s]; rw [ab_at HOk.out hk m]; rfl)
    rcases HAt.out with ⟨a', c', e3, ⟨e4, _⟩ | ⟨b, o, e4, hc⟩⟩
    · subst e4; simp at hk
    simp only [Value.slice.injEq, true_and] at e3
    obtain ⟨rfl, rfl⟩ := e3
    subst e4
    have hki : (k : Int) < (q.length : Int) := by omega
    have hce := (hc.nw HN.out).cell k hk
    have HCe := Lib.hid (fun (z : World) (g : Nw w z) => (hc.nw g).cell k hk)
    have HWa := Lib.hid (fun z => dWaits q[k] z)
    have HHo := Lib.hid (fun z => dHolds q[k] z)
    have HRow := Lib.hid (fun (z : World) (g0 g cap : Nat) (j : Nat) (hj : j < 5) (u : Value) (new : Rq) (e : (rqrow q[k]).set j u = rqrow new) (h : RqOwn z g0 (.slice (some ⟨g, 0, none⟩) q.length cap) q) => own_upd h rfl k hk j hj u new e)
    have HRow2 := Lib.hid (fun (z : World) (g0 g cap : Nat) (X : Rq) (j : Nat) (hj : j < 5) (u : Value) (new : Rq) (e : (rqrow X).set j u = rqrow new) (h : RqOwn z g0 (.slice (some ⟨g, 0, none⟩) q.length cap) (q.set k X)) => own_upd h (by rw [List.length_set]) k (by rw [List.length_set]; exact hk) j hj u new (by rw [List.getElem_set_self]; exact e))
    simp only [List.set_set] at HRow2
    have HCo := Lib.hid (fun (z : World) (g0 g cap : Nat) (h : RqOwn z g0 (.slice (some ⟨g, 0, none⟩) q.length cap) q) => own_cell h rfl k hk)
    clear hpx hX e1 hf s0 s1 s2 s3 HB1 HFi HWi HW1 q1 hc HOk
    generalize q[k] = R at *
    obtain ⟨b0, b1, b2, b3, b4⟩ := R
    unfold rqV at HWa HHo
    have m0 := hce 0 _ rfl
    have m1 := hce 1 _ rfl
    have m2 := hce 2 _ rfl
    have m3 := hce 3 _ rfl
    have m4 := hce 4 _ rfl
    simp only [Nat.add_zero] at m0
    clear hce
    have HX1 := Lib.hid hX1
    have HX2 := Lib.hid hX2
    have HX3 := Lib.hid hX3
    clear hX1 hX2 hX3
    go_wp2_with fail
    go_at_call 42
    refine (HWa.out _).mono ?_
    rintro e w2 ⟨rfl, g2⟩
    have hp2 := g2.at' hp1
    have hq2 := g2.at' hq1
    have HN2 := Lib.hid (HN.out.trans g2)
    clear c0 c1 c2 c3 hpl
    have c0 := hcell (j := 0) hp2
    have c1 := hcell (j := 1) hp2
    have c2 := hcell (j := 2) hp2
    have c3 := hcell (j := 3) hp2
    have hpl := hlt hp2
    clear m0 m1 m2 m3 m4
    have hce := HCe.out _ HN2.out
    have m0 := hce 0 _ rfl
    have m1 := hce 1 _ rfl
    have m2 := hce 2 _ rfl
    have m3 := hce 3 _ rfl
    have m4 := hce 4 _ rfl
    simp only [Nat.add_zero] at m0
    clear hce
    clear g2 HWa hp1 hq1
    by_cases hs : 0 < b4
    rotate_left
    · have ds : decide (0 < b4) = false := by simpa using hs
      have hR := HX1.out (by first | exact hs | exact Int.not_lt.1 hs)
      subst hR
      have d0 := hcell (j := 0) hq2
      have d1 := hcell (j := 1) hq2
      have d2 := hcell (j := 2) hq2
      have d3 := hcell (j := 3) hq2
      have fz := fun k => hfz (j := k) hq2
      have hsl2 := hlt hq2
      clear hs HX1 HX2 HX3 HCe HHo HRow HRow2 HCo HCl HWo HAt HN hp2 hq2
      go_wp2
      exact bodyPost_ret (v := .tuple #[.agg #[.int .i64 0, .int .i64 0, .slice none 0 0, .int .i64 0], .int .i64 7]) (by simp only [results, Try.results13]; simp [go_sem, *]) rfl ⟨_, rfl, fill_nw HN2.out (Nat.le_succ _) _ _ _ _, Rd.nil _, Nat.le_refl _, Fresh.nil _ _⟩
    have ds : decide (0 < b4) = true := by simpa using hs
    go_wp2_with fail
    go_at_call 47
    refine (HHo.out _).mono ?_
    rintro e w3 ⟨rfl, g3⟩
    have hp3 := g3.at' hp2
    have hq3 := g3.at' hq2
    have HN3 := Lib.hid (HN2.out.trans g3)
    clear c0 c1 c2 c3 hpl
    have c0 := hcell (j := 0) hp3
    have c1 := hcell (j := 1) hp3
    have c2 := hcell (j := 2) hp3
    have c3 := hcell (j := 3) hp3
    have hpl := hlt hp3
    clear m0 m1 m2 m3 m4
    have hce := HCe.out _ HN3.out
    have m0 := hce 0 _ rfl
    have m1 := hce 1 _ rfl
    have m2 := hce 2 _ rfl
    have m3 := hce 3 _ rfl
    have m4 := hce 4 _ rfl
    simp only [Nat.add_zero] at m0
    clear hce
    clear g3 HHo hp2 hq2
    by_cases hm : b2 = 0
    · have dm : (b2 != 0) = false := by simpa using hm
      have hR := HX2.out hs hm
      subst hR
      rw [dm]
      have HQ := Lib.hid hq3
      have HWo2 := Lib.hid (HWo.out _ HN3.out)
      clear dm hs hm ds HX1 HX2 HX3 HCe HRow HRow2 HCo HCl HWo HAt hp3 hq3
      go_wp2_with fail
      go_at_call 44
      refine HWo2.out.mono ?_
      rintro e w4 ⟨v2, rfl, g4, hR, hcap, hfr⟩
      have hs := Lib.hid (hlt HQ.out)
      have hq4 := g4.at' HQ.out
      have HR := Lib.hid (And.intro hR (And.intro hcap hfr))
      have HN4 := Lib.hid (HN3.out.trans g4)
      obtain ⟨a2, k2, hv2⟩ := hR.form
      obtain ⟨n2, hn2⟩ : ∃ n, (lvQ id q).length = n := ⟨_, rfl⟩
      rw [hn2] at hv2
      subst hv2
      have d0 := hcell (j := 0) hq4
      have d1 := hcell (j := 1) hq4
      have d2 := hcell (j := 2) hq4
      have d3 := hcell (j := 3) hq4
      have fz := fun k => hfz (j := k) hq4
      have hsl2 := hlt hq4
      clear hq4 hR hcap hfr g4 hn2 HQ HWo2 HN HN2 c0 c1 c2 c3 hpl m0 m1 m2 m3 m4
      go_wp2
      exact bodyPost_ret (v := .tuple #[.agg #[.int .i64 t, .int .i64 r, .slice a2 n2 k2, .int .i64 W], .int .i64 0]) (by simp only [results, Try.results13]; simp [go_sem, *]) rfl ⟨_, rfl, fill_nw HN4.out (Nat.le_succ _) _ _ _ _, rd_fill HR.out.1 HR.out.2.2 hs.out _ _ _ _, HR.out.2.1, HR.out.2.2.old HN3.out⟩
    · have dm : (b2 != 0) = true := by simpa using hm
      have hR := HX3.out hs hm
      subst hR
      rw [dm]
      have HQ := Lib.hid (And.intro hp3 hq3)
      have HCl2 := Lib.hid (HCl.out _ HN3.out)
      clear dm hs hm ds HX1 HX2 HX3 HCe HCl HWo HAt hp3 hq3
      go_wp2_with fail
      go_at_call 48
      refine HCl2.out.mono ?_
      rintro e w4 ⟨v4, rfl, g4, hO⟩
      obtain ⟨g, cap, rfl, hg0, hgl, _⟩ := RqOwn.at hO hk
      have hne : ¬ g = w.heap.size := by have := hlt HQ.out.1; omega
      have hne' : ¬ w.heap.size = g := fun e => hne e.symm
      have hn2 : ¬ g = w.heap.size + 1 := by have := hlt HQ.out.2; omega
      have hn2' : ¬ w.heap.size + 1 = g := fun e => hn2 e.symm
      have hp4 := g4.at' HQ.out.1
      have hq4 := g4.at' HQ.out.2
      have HB := Lib.hid (And.intro (hlt HQ.out.1) (hlt HQ.out.2))
      have hO1 := own_st hO (p := ⟨w.heap.size, 2, none⟩) (by exact HB.out.1) (.slice (some ⟨g, 0, none⟩) q.length cap)
      have hO2 := HRow.out _ _ _ _ 3 (by decide) (.int .i64 b2) ⟨b0, b1, b2, b2, b4⟩ rfl hO1
      have hO3 := HRow2.out _ _ _ _ ⟨b0, b1, b2, b2, b4⟩ 4 (by decide) (.int .i64 0) ⟨b0, b1, b2, b2, 0⟩ rfl hO2
      have hO4 := fill_own hO3 (rb := w.heap.size + 1) HB.out.2 (.int .i64 t) (.int .i64 r) (.slice (some ⟨g, 0, none⟩) q.length cap) (.int .i64 W)
      have HO4 := Lib.hid hO4
      have HN4 := Lib.hid (HN3.out.trans g4)
      have HG := Lib.hid (And.intro hg0 HN3.out.sz)
      have hoc := HCo.out _ _ _ _ hO
      clear c0 c1 c2 c3 hpl m0 m1 m2 m3 m4
      have c0 := hcell (j := 0) hp4
      have c1 := hcell (j := 1) hp4
      have c2 := hcell (j := 2) hp4
      have c3 := hcell (j := 3) hp4
      have hpl := hlt hp4
      have fp := fun k => hfz (j := k) hp4
      have fg := fun k => own_frz hO rfl k
      have m2 := hoc 2 _ rfl
      have m3 := hoc 3 _ rfl
      have m4 := hoc 4 _ rfl
      have d0 := hcell (j := 0) hq4
      have d1 := hcell (j := 1) hq4
      have d2 := hcell (j := 2) hq4
      have d3 := hcell (j := 3) hq4
      have fz := fun k => hfz (j := k) hq4
      have hsl2 := hlt hq4
      clear hq4 hp4 hO hO1 hO2 hO3 hO4 hoc g4 HCl2 HN HN2 HRow HRow2 HCo hg0
      go_wp2
      exact bodyPost_ret (v := .tuple #[.agg #[.int .i64 t, .int .i64 r, .slice (some ⟨g, 0, none⟩) q.length cap, .int .i64 W], .int .i64 0]) (by simp only [results, Try.results13]; simp [go_sem, *]) rfl ⟨_, rfl, fill_nw (((HN4.out.st (Nat.le_refl _) _).st (by show w.heap.size ≤ g; have := HG.out; omega) _).st (by show w.heap.size ≤ g; have := HG.out; omega) _) (Nat.le_succ _) _ _ _ _, RqOwn.rd HO4.out, HO4.out.cap, HO4.out.fresh HG.out.2⟩
end Go.Proofs.Ytmciiobncfchlaa
end

/- The developers' package queue: Upgrade. -/
section
namespace Go.Proofs.Ytmciiobncfchlaa
open Go.RowKit
set_option linter.unusedVariables false      -- a contract need not use every name

theorem dSup (a b : Int) (w : World) (ha : knI a = true) (hb : knI b = true) : Calls Try.prog 43 #[.int .i64 a, .int .i64 b] w fun e w' => e = .returned (.int .i64 (supT a b)) ∧ Nw w w' := by
  have h1 : 0 ≤ a ∧ a < 7 := by simpa [knI] using ha
  have h2 : 0 ≤ b ∧ b < 7 := by simpa [knI] using hb
  exact sup_in a b w h1.1 h1.2 h2.1 h2.2
set_option maxRecDepth 100000 in
set_option maxHeartbeats 8000000 in
theorem dUpgrade (t r W id m : Int) (v : Value) (q : List Rq) (w : World) (hl : q.length ≤ 900) (hok : Ok W q) (h : RqAt w v q) :
    Calls Try.prog 10 #[hdV t r v W, .int .i64 id, .int .i64 m] w (HD2 (upR ⟨t, r, W, q⟩ id m) w) := by
  obtain ⟨X, hX⟩ : ∃ X, upR ⟨t, r, W, q⟩ id m = X := ⟨_, rfl⟩
  rw [hX]
  have HLo := Lib.hid (fun w => dLockable m w)
  have HOk := Lib.hid hok
  have HAt := Lib.hid h
  have hFi := fun (w1 : World) (g : Nw w w1) (f : Value) (hf : Tells w1 f (fun R => R.id == id)) => dFind t r W v f _ q w1 (by omega) (h.nw g) hf
  have HLi := Lib.hid (fun (w1 : World) (g : Nw w w1) => dLineOf t r W v q w1 (by omega) (fun R hR => (hok.rt R hR).md) (h.nw g))
  obtain ⟨a, c, rfl, _⟩ := h
  unfold HD2 hdV at *
  have HX := Lib.hid (two_boxes w (.cells #[.int .i64 t, .int .i64 r, .slice a q.length c, .int .i64 W] 27) (.cells #[.int .i64 0, .int .i64 0, .slice none 0 0, .int .i64 0] 27))
  obtain ⟨y, hy⟩ : ∃ y, ((m != 0) && knI m) = y := ⟨_, rfl⟩
  rw [hy] at HLo
  obtain ⟨px, hpx⟩ : ∃ px, plc (fun R => R.id == id) q = px := ⟨_, rfl⟩
  rw [hpx] at hFi
  have HFi := Lib.hid hFi
  have HWi := Lib.hid (dWithID id)
  clear hFi hok
  cases y
  · have hR := hX.symm.trans (up_bad (h := ⟨t, r, W, q⟩) (by cases e : knI m with | false => exact .inr rfl | true => rw [e, Bool.and_true] at hy; exact .inl (by simpa using hy)))
    subst hR
    clear hy hpx HFi HWi HLi HOk HAt hX
    go_enter Try.func10, Try.ntmps10
    go_wp2_with fail
    go_at_call 35
    refine (HLo.out _).mono ?_
    rintro e w1 ⟨rfl, g1⟩
    have hq1 := g1.at' HX.out.2.1
    have HQ := Lib.hid (HX.out.2.2.1.trans g1)
    have d0 := hcell (j := 0) hq1
    have d1 := hcell (j := 1) hq1
    have d2 := hcell (j := 2) hq1
    have d3 := hcell (j := 3) hq1
    have fz := fun k => hfz (j := k) hq1
    have hsl2 := hlt hq1
    clear g1 hq1 HX HLo
    go_wp2
    exact bodyPost_ret (v := .tuple #[.agg #[.int .i64 0, .int .i64 0, .slice none 0 0, .int .i64 0], .bool false, .int .i64 2]) (by simp only [results, Try.results10]; simp [go_sem, *]) rfl ⟨_, rfl, fill_nw HQ.out (Nat.le_succ _) _ _ _ _, Rd.nil _, Nat.le_refl _, Fresh.nil _ _⟩
  have hgood : ¬ (m = 0 ∨ knI m = false) := by
    rw [Bool.and_eq_true, bne_iff_ne] at hy
    rintro (e | e)
    · exact hy.1 e
    · rw [hy.2] at e; cases e
  have hkm : knI m = true := by
    rw [Bool.and_eq_true] at hy
    exact hy.2
  have HGd := Lib.hid (And.intro hgood hkm)
  clear hy hgood hkm
  go_enter Try.func10, Try.ntmps10
  go_wp2_with fail
  go_at_call 35
  refine (HLo.out _).mono ?_
  rintro e w1 ⟨rfl, g1⟩
  have hx1 := g1.at' HX.out.1
  have HB1 := Lib.hid (And.intro (And.intro (g1.at' HX.out.1) (g1.at' HX.out.2.1)) (HX.out.2.2.1.trans g1))
  have s0 : ∀ z, Nw w1 z → z.cell? ⟨w.heap.size, 0, none⟩ = some (.int .i64 t) := fun z hz => hz.kp (hcell (j := 0) hx1)
  have s1 : ∀ z, Nw w1 z → z.cell? ⟨w.heap.size, 1, none⟩ = some (.int .i64 r) := fun z hz => hz.kp (hcell (j := 1) hx1)
  have s2 : ∀ z, Nw w1 z → z.cell? ⟨w.heap.size, 2, none⟩ = some (.slice a q.length c) := fun z hz => hz.kp (hcell (j := 2) hx1)
  have s3 : ∀ z, Nw w1 z → z.cell? ⟨w.heap.size, 3, none⟩ = some (.int .i64 W) := fun z hz => hz.kp (hcell (j := 3) hx1)
  clear hx1 g1 HX HLo
  go_wp2
  have q1 := (Nw.refl w1).drew1
  obtain ⟨wc, hwc⟩ : ∃ wc, w1.drew = wc := ⟨_, rfl⟩
  refine region_told [some true, some true, some false, none, some false, none, some true] (Nw w1) (by kernel_rfl) (by kernel_rfl) (by kernel_rfl) q1 ?_
  rw [hwc] at q1 ⊢
  clear hwc
  repeat (first
    | (refine HW.off ?_)
    | (refine HW.take' ?_; (first | (refine ⟨undef, Or.inr ⟨by rfl, rfl⟩, ?_⟩) | (apply Exists.intro; refine ⟨Or.inl ⟨by rfl, ?_⟩, ?_⟩; (intro x hx; go_simp; first | done | with_reducible rfl))); (try simp only [Act.put, List.setIfInBounds_toArray, List.set_cons_zero, List.set_cons_succ]))
    | (refine HW.go (fun K hK => ?_); go_simp; (first
      | (go_at_call 37; (with_reducible refine (HWi.out _).mono ?_); rintro e wy ⟨pa, rfl, g2, hbx⟩; refine hK.out _ _ (q1.trans g2) ?_; intro _; replace q1 := q1.trans g2; clear hK K g2; replace hbx := Tells.withID hbx)
      | (go_at_call 36; (with_reducible refine (HFi.out _ (HB1.out.2.trans q1) _ hbx).mono ?_); rintro e wy ⟨rfl, g2⟩; refine hK.out _ _ (q1.trans g2) ?_; intro _; replace q1 := q1.trans g2; clear hK K g2 hbx)
      | (refine hK.out _ _ q1 ?_; intro _; clear hK K))))
  refine HW.end_ ?_
  refine NoPanic.normal ?_
  have HN := Lib.hid (HB1.out.2.trans q1)
  have hp1 := q1.at' HB1.out.1.1
  have hq1 := q1.at' HB1.out.1.2
  have c0 := hcell (j := 0) hp1
  have c1 := hcell (j := 1) hp1
  have c2 := hcell (j := 2) hp1
  have c3 := hcell (j := 3) hp1
  have hpl := hlt hp1
  rcases at_plc q id with ⟨e1, hf⟩ | ⟨k, e1, hk, hf⟩
  · obtain rfl := hpx.symm.trans e1
    have hR := hX.symm.trans (up_none (h := ⟨t, r, W, q⟩) HGd.out.1 hf)
    subst hR
    have d0 := hcell (j := 0) hq1
    have d1 := hcell (j := 1) hq1
    have d2 := hcell (j := 2) hq1
    have d3 := hcell (j := 3) hq1
    have fz := fun k => hfz (j := k) hq1
    have hsl2 := hlt hq1
    clear hpx hX e1 hf s0 s1 s2 s3 HB1 HFi HWi HAt q1 hp1 hq1 HLi HOk
    go_wp2
    exact bodyPost_ret (v := .tuple #[.agg #[.int .i64 0, .int .i64 0, .slice none 0 0, .int .i64 0], .bool false, .int .i64 5]) (by simp only [results, Try.results10]; simp [go_sem, *]) rfl ⟨_, rfl, fill_nw HN.out (Nat.le_succ _) _ _ _ _, Rd.nil _, Nat.le_refl _, Fresh.nil _ _⟩
  · obtain rfl := hpx.symm.trans e1
    have dk : ((k : Int) == -1) = false := by simp
    have hX1 : 0 < q[k].sn → X = (noH, false, 7) := fun s => hX.symm.trans (up_wait (h := ⟨t, r, W, q⟩) HGd.out.1 hf s)
    have hX2 : ¬ 0 < q[k].sn → X = (⟨t, r, (upQ W q q[k] m).1, (upQ W q q[k] m).2.1⟩, (upQ W q q[k] m).2.2, 0) := fun s => hX.symm.trans (up_go (h := ⟨t, r, W, q⟩) HGd.out.1 hf s)
    have HRt := Lib.hid (HOk.out.rt _ (List.getElem_mem hk))
    have HUp := Lib.hid (fun (hs : q[k].sn = 0) (want : Int) (hw : knI want = true) => up_en HOk.out k hk hs want hw)
    have HCh := Lib.hid (fun (f : Rq → Rq) => chg_set HOk.out f k hk)
    have HSl := Lib.hid (fun x e => set_self hk x e)
    have HCq := Lib.hid (fun (R : Rq) (hm : R.md = q[k].md) => cntQ_same q k hk R hm)
    have HAw := Lib.hid (fun (z : World) (g0 : Nat) (v : Value) (h : RqOwn z g0 v q) => RqOwn.at h hk)
    rcases HAt.out with ⟨a', c', e3, ⟨e4, _⟩ | ⟨b, o, e4, hc⟩⟩
    · subst e4; simp at hk
    simp only [Value.slice.injEq, true_and] at e3
    obtain ⟨rfl, rfl⟩ := e3
    subst e4
    have hki : (k : Int) < (q.length : Int) := by omega
    have hce := (hc.nw HN.out).cell k hk
    have HCe := Lib.hid (fun (z : World) (g : Nw w z) => (hc.nw g).cell k hk)
    have HWa := Lib.hid (fun z => dWaits q[k] z)
    have HHo := Lib.hid (fun z => dHolds q[k] z)
    have HRow := Lib.hid (fun (z : World) (g0 g cap : Nat) (j : Nat) (hj : j < 5) (u : Value) (new : Rq) (e : (rqrow q[k]).set j u = rqrow new) (h : RqOwn z g0 (.slice (some ⟨g, 0, none⟩) q.length cap) q) => own_upd h rfl k hk j hj u new e)
    have HRow2 := Lib.hid (fun (z : World) (g0 g cap : Nat) (X : Rq) (j : Nat) (hj : j < 5) (u : Value) (new : Rq) (e : (rqrow X).set j u = rqrow new) (h : RqOwn z g0 (.slice (some ⟨g, 0, none⟩) q.length cap) (q.set k X)) => own_upd h (by rw [List.length_set]) k (by rw [List.length_set]; exact hk) j hj u new (by rw [List.getElem_set_self]; exact e))
    simp only [List.set_set] at HRow2
    have HCo := Lib.hid (fun (z : World) (g0 g cap : Nat) (h : RqOwn z g0 (.slice (some ⟨g, 0, none⟩) q.length cap) q) => own_cell h rfl k hk)
    clear hpx hX e1 hf s0 s1 s2 s3 HB1 HFi HWi q1 hc
    generalize q[k] = R at *
    obtain ⟨b0, b1, b2, b3, b4⟩ := R
    unfold rqV at HWa HHo
    have m0 := hce 0 _ rfl
    have m1 := hce 1 _ rfl
    have m2 := hce 2 _ rfl
    have m3 := hce 3 _ rfl
    have m4 := hce 4 _ rfl
    simp only [Nat.add_zero] at m0
    clear hce HHo
    have HX1 := Lib.hid hX1
    have HX2 := Lib.hid hX2
    clear hX1 hX2
    go_wp2_with fail
    go_at_call 42
    refine (HWa.out _).mono ?_
    rintro e w2 ⟨rfl, g2⟩
    have hp2 := g2.at' hp1
    have hq2 := g2.at' hq1
    have HN2 := Lib.hid (HN.out.trans g2)
    clear c0 c1 c2 c3 hpl
    have c0 := hcell (j := 0) hp2
    have c1 := hcell (j := 1) hp2
    have c2 := hcell (j := 2) hp2
    have c3 := hcell (j := 3) hp2
    have hpl := hlt hp2
    clear m0 m1 m2 m3 m4 g2 HWa hp1 hq1
    by_cases hs : 0 < b4
    · have ds : decide (0 < b4) = true := by simpa using hs
      have hR := HX1.out hs
      subst hR
      have d0 := hcell (j := 0) hq2
      have d1 := hcell (j := 1) hq2
      have d2 := hcell (j := 2) hq2
      have d3 := hcell (j := 3) hq2
      have fz := fun k => hfz (j := k) hq2
      have hsl2 := hlt hq2
      clear hs HX1 HX2 HCe HRow HRow2 HCo HAt HN hp2 hq2 HLi HOk HUp HCh HSl HCq HAw HRt
      go_wp2
      exact bodyPost_ret (v := .tuple #[.agg #[.int .i64 0, .int .i64 0, .slice none 0 0, .int .i64 0], .bool false, .int .i64 7]) (by simp only [results, Try.results10]; simp [go_sem, *]) rfl ⟨_, rfl, fill_nw HN2.out (Nat.le_succ _) _ _ _ _, Rd.nil _, Nat.le_refl _, Fresh.nil _ _⟩
    have ds : decide (0 < b4) = false := by simpa using hs
    have hb4 : b4 = 0 := by have := HRt.out.s0; simp only at this; omega
    have hR := HX2.out (by first | exact hs | exact Int.not_lt.1 hs)
    have hwt := (HRt.out.h hb4).2
    have hmk := HRt.out.md
    simp only at hwt hmk
    subst hb4
    have hup := HUp.out rfl
    obtain ⟨wn, hwn⟩ : ∃ wn, supT b2 m = wn := ⟨_, rfl⟩
    have hsk := sup_kn b2 m hmk HGd.out.2
    have HSp := Lib.hid (fun w => dSup b2 m w hmk HGd.out.2)
    rw [hwn] at HSp hsk
    replace hup := hup wn hsk
    unfold upQ at hR
    simp only [hwn] at hR
    have HRr := Lib.hid hR
    have HUq := Lib.hid hup
    have HWk := Lib.hid (And.intro hwt (And.intro hsk hmk))
    have HLi2 := Lib.hid (HLi.out _ HN2.out)
    have HQ2 := Lib.hid (And.intro hp2 hq2)
    clear hs HX1 HX2 hR hwt hmk hup hwn hsk HUp hp2 hq2 HLi HAt HRt HN HGd HCe
    go_wp2_with fail
    go_at_call 39
    refine HLi2.out.mono ?_
    rintro e w3 ⟨p, v1, b', n, rfl, g3, hL3, hnq⟩
    obtain ⟨g, cap, rfl, hg0, hgl, hce⟩ := HAw.out _ _ _ hL3.own
    have HL3 := Lib.hid (And.intro hL3 (And.intro g3 (And.intro hg0 hnq)))
    have p2 := hcell (j := 2) hL3.obj
    have hpl3 := hlt hL3.obj
    have m2 := hce 2 _ rfl
    clear c0 c1 c2 c3 hpl hce hL3 g3 hg0 hnq HLi2
    go_wp2_with fail
    go_at_call 43
    refine (HSp.out _).mono ?_
    rintro e w4 ⟨rfl, g4⟩
    have hL4 := HL3.out.1.nw g4
    have hup4 := HRow.out _ _ _ _ 3 (by decide) (.int .i64 wn) ⟨b0, b1, b2, wn, 0⟩ rfl hL4.own
    have hL5 := (hL4.row (a := ⟨g, k * 5 + 3, none⟩) rfl (.int .i64 wn) hup4).eq (HCq.out ⟨b0, b1, b2, wn, 0⟩ rfl).symm
    have hg5 : Nw w2 (w4.setCell ⟨g, k * 5 + 3, none⟩ (.int .i64 wn)) := (HL3.out.2.1.trans g4).st HL3.out.2.2.1 _
    have mf := own_frz hL4.own rfl (k * 5 + 3)
    have hgl4 := olt hL4.own rfl
    have hc4 := HCo.out _ _ _ _ hL4.own
    have m3' := hc4 3 _ rfl
    obtain ⟨w5, hw5⟩ : ∃ w5, w4.setCell ⟨g, k * 5 + 3, none⟩ (.int .i64 wn) = w5 := ⟨_, rfl⟩
    rw [hw5] at hL5 hg5
    have HW5 := Lib.hid hw5
    obtain ⟨q', hq'⟩ : ∃ q', q.set k ⟨b0, b1, b2, wn, 0⟩ = q' := ⟨_, rfl⟩
    have hk' : k < q'.length := by rw [← hq', List.length_set]; exact hk
    have hqk : q'[k] = ⟨b0, b1, b2, wn, 0⟩ := by subst hq'; simp
    have hcl : q.length = q'.length := by rw [← hq', List.length_set]
    have hss : ∀ x : Rq, q'.set k x = q.set k x := fun x => by rw [← hq', List.set_set]
    have hkn' : ∀ R ∈ q', knI R.md = true := fun R hR => by
      rw [← hq'] at hR
      rcases List.mem_or_eq_of_mem_set hR with hR | rfl
      · exact (HOk.out.rt R hR).md
      · exact HWk.out.2.2
    have hc5 : ∀ j u, (rqrow ⟨b0, b1, b2, wn, 0⟩)[j]? = some u → w5.cell? ⟨g, k * 5 + j, none⟩ = some u := fun j u hu => own_cell (q := q') (by rw [← hq']; exact hL5.own) hcl k hk' j u (by rw [hqk]; exact hu)
    rw [hq'] at hL5
    have HQk := Lib.hid (And.intro hq' (And.intro hqk (And.intro hcl (And.intro hss hkn'))))
    have HL5 := Lib.hid (And.intro hL5 hg5)
    have hN5 := (Nw.refl w5).drew1
    clear m2 p2 hpl3 hL4 hup4 hL5 hg5 hw5 g4 hqk hcl hss hkn' HRow HRow2 HCo hq' hgl
    go_wp2
    rw [HW5.out]
    clear HW5 m3' mf hgl4 hc4
    by_cases he : wn = b2
    · have de : (wn == b2) = true := by simpa using he
      have s2 : ∀ x, Nw w5 x → x.cell? ⟨g, k * 5 + 2, none⟩ = some (.int .i64 b2) := fun x hx => hx.kp (hc5 2 _ rfl)
      have s3 : ∀ x, Nw w5 x → x.cell? ⟨g, k * 5 + 3, none⟩ = some (.int .i64 wn) := fun x hx => hx.kp (hc5 3 _ rfl)
      obtain ⟨wc, hwc⟩ : ∃ wc, w5.drew = wc := ⟨_, rfl⟩
      have q1 := hN5
      refine region_told [some true, some true, some true, some true, some true, some true, some true, some true, some true, some true, some true, some true, some false, none, some true, some true] (Nw w5) (by kernel_rfl) (by kernel_rfl) (by kernel_rfl) q1 ?_
      rw [hwc] at q1 ⊢
      clear hwc hN5
      repeat (first
        | (refine HW.off ?_)
        | (refine HW.take' ?_; (first | (refine ⟨undef, Or.inr ⟨by rfl, rfl⟩, ?_⟩) | (apply Exists.intro; refine ⟨Or.inl ⟨by rfl, ?_⟩, ?_⟩; (intro x hx; go_simp; first | done | with_reducible rfl))); (try simp only [Act.put, List.setIfInBounds_toArray, List.set_cons_zero, List.set_cons_succ]))
        | (refine HW.go (fun K hK => ?_); go_simp; (refine hK.out _ _ q1 ?_; intro _; clear hK K)))
      refine HW.end_ ?_
      refine NoPanic.normal ?_
      have hR := HRr.out
      rw [if_pos he] at hR
      simp only at hR
      subst hR
      have hL6 := HL5.out.1.nw q1
      have g6 := HL5.out.2.trans q1
      rw [← HQk.out.1, HSl.out ⟨b0, b1, b2, wn, 0⟩ (by rw [HWk.out.1, he])] at hL6
      have HL7 := Lib.hid hL6
      have hpl := hlt hL6.obj
      have e0 := hcell (j := 0) hL6.obj
      have e1 := hcell (j := 1) hL6.obj
      have e2 := hcell (j := 2) hL6.obj
      have e3 := hcell (j := 3) hL6.obj
      have hq7 := g6.at' HQ2.out.2
      have HN7 := Lib.hid (HN2.out.trans g6)
      have HS := Lib.hid (hlt HQ2.out.2)
      have d0 := hcell (j := 0) hq7
      have d1 := hcell (j := 1) hq7
      have d2 := hcell (j := 2) hq7
      have d3 := hcell (j := 3) hq7
      have fz := fun k => hfz (j := k) hq7
      have hsl2 := hlt hq7
      clear s2 s3 hL6 g6 hc5 hq7 q1 HL5 HL3 HQk HRr HUq HSl HCh HCq HAw
      go_wp2
      exact bodyPost_ret (v := .tuple #[.agg #[.int .i64 t, .int .i64 r, .slice (some ⟨g, 0, none⟩) q.length cap, .int .i64 W], .bool true, .int .i64 0]) (by simp only [results, Try.results10]; simp [go_sem, *]) rfl ⟨_, rfl, fill_nw HN7.out (Nat.le_succ _) _ _ _ _, (HL7.out.done HS.out _ _ _ _).1, HL7.out.own.cap, HL7.out.own.fresh HN2.out.sz⟩
    · have de : (wn == b2) = false := by simpa using he
      have hE0 := HL5.out.1.nw hN5
      have m2 := hc5 2 _ rfl
      have m3 := hc5 3 _ rfl
      have hgl5 := World.block_lt_of_cell? _ _ m2
      obtain ⟨B, hB⟩ : ∃ B, upF q ⟨b0, b1, b2, b3, 0⟩ wn = B := ⟨_, rfl⟩
      have hEn := dEnterB hE0 k hk' ⟨HOk.out.w0, HOk.out.wB⟩ HQk.out.2.2.2.2 (by have := HL3.out.2.2.2; omega) (by have := HQk.out.2.2.1; omega) ⟨b0, b1, b2, wn, 0⟩ HQk.out.2.1 HWk.out.2.1 B (by
        simp only [enR]
        rw [HQk.out.2.2.2.1, ← HQk.out.1, ← hB, ← HUq.out])
      simp only [enR, HQk.out.2.2.2.1] at hEn
      have HEn := Lib.hid hEn
      have HN5 := Lib.hid hN5
      clear hE0 hEn hN5 hc5
      refine wp_region_still_tail 12 (by kernel_rfl) (by kernel_rfl) ?_
      simp only [List.take_succ_cons, List.take_zero, List.drop_succ_cons, List.drop_zero]
      repeat still_step
      try refine wpStill_nil ?_
      change wpList _ _ _ _ _ w5.drew
      go_wp2_with fail
      go_at_call 40
      refine HEn.out.mono ?_
      rintro e w6 ⟨rfl, g6', n6, _, hL6⟩
      have g6 : Nw w2 w6 := Below.trans (HL5.out.2.trans HN5.out) g6'
      have hR := HRr.out
      rw [if_neg he, hB] at hR
      clear m2 m3 hgl5 HEn HN5 g6' HUq hB
      cases B
      · simp only [Bool.false_eq_true, if_true, if_false] at hL6 hR
        have hch := HCh.out (fun x => ⟨x.id, x.txn, x.md, wn, W + 1⟩)
        simp only at hch
        rw [hch] at hR
        subst hR
        have HL7 := Lib.hid hL6
        have hpl := hlt hL6.obj
        have e0 := hcell (j := 0) hL6.obj
        have e1 := hcell (j := 1) hL6.obj
        have e2 := hcell (j := 2) hL6.obj
        have e3 := hcell (j := 3) hL6.obj
        have hq7 := g6.at' HQ2.out.2
        have HN7 := Lib.hid (HN2.out.trans g6)
        have HS := Lib.hid (hlt HQ2.out.2)
        have d0 := hcell (j := 0) hq7
        have d1 := hcell (j := 1) hq7
        have d2 := hcell (j := 2) hq7
        have d3 := hcell (j := 3) hq7
        have fz := fun k => hfz (j := k) hq7
        have hsl2 := hlt hq7
        clear hL6 g6 hq7 HL5 HL3 HQk HRr HSl HCh HCq HAw hch
        go_wp2
        exact bodyPost_ret (v := .tuple #[.agg #[.int .i64 t, .int .i64 r, .slice (some ⟨g, 0, none⟩) q.length cap, .int .i64 (W + 1)], .bool false, .int .i64 0]) (by simp only [results, Try.results10]; simp [go_sem, *]) rfl ⟨_, rfl, fill_nw HN7.out (Nat.le_succ _) _ _ _ _, (HL7.out.done HS.out _ _ _ _).1, HL7.out.own.cap, HL7.out.own.fresh HN2.out.sz⟩
      · simp only [Bool.false_eq_true, if_true, if_false] at hL6 hR
        have hch := HCh.out (fun x => ⟨x.id, x.txn, wn, wn, 0⟩)
        simp only at hch
        rw [hch] at hR
        subst hR
        have HL7 := Lib.hid hL6
        have hpl := hlt hL6.obj
        have e0 := hcell (j := 0) hL6.obj
        have e1 := hcell (j := 1) hL6.obj
        have e2 := hcell (j := 2) hL6.obj
        have e3 := hcell (j := 3) hL6.obj
        have hq7 := g6.at' HQ2.out.2
        have HN7 := Lib.hid (HN2.out.trans g6)
        have HS := Lib.hid (hlt HQ2.out.2)
        have d0 := hcell (j := 0) hq7
        have d1 := hcell (j := 1) hq7
        have d2 := hcell (j := 2) hq7
        have d3 := hcell (j := 3) hq7
        have fz := fun k => hfz (j := k) hq7
        have hsl2 := hlt hq7
        clear hL6 g6 hq7 HL5 HL3 HQk HRr HSl HCh HCq HAw hch
        go_wp2
        exact bodyPost_ret (v := .tuple #[.agg #[.int .i64 t, .int .i64 r, .slice (some ⟨g, 0, none⟩) q.length cap, .int .i64 W], .bool true, .int .i64 0]) (by simp only [results, Try.results10]; simp [go_sem, *]) rfl ⟨_, rfl, fill_nw HN7.out (Nat.le_succ _) _ _ _ _, (HL7.out.done HS.out _ _ _ _).1, HL7.out.own.cap, HL7.out.own.fresh HN2.out.sz⟩
end Go.Proofs.Ytmciiobncfchlaa
end

/- The developers' package queue: Group, Same. -/
section
namespace Go.Proofs.Ytmciiobncfchlaa
open Go.RowKit
set_option linter.unusedVariables false      -- a contract need not use every name

set_option maxHeartbeats 1000000 in
theorem dGroup1 (v : Value) (l : List Int) (w : World) (hl : l.length ≤ 1000) (hkn : ∀ z ∈ l, knI z = true) (h : Rd 1 mdrow w v l) :
    Calls Try.prog 54 #[v] w fun e w' => e = .returned (.int .i64 (l.foldl supT 0)) ∧ Nw w w' := by
  have HK := Lib.hid (fun k => (fold_cov 0 rfl (l.take k) 0 rfl (fun z hz => hkn z (List.mem_of_mem_take hz))).1)
  have HKn := Lib.hid hkn
  clear hkn
  obtain ⟨a, c, rfl, ⟨rfl, _⟩ | ⟨b, o, rfl, hc⟩⟩ := h
  · go_enter Try.func54, Try.ntmps54
    go_wp2
    refine wp_loop_rounds 1 ?_
    rw [rounds_succ]
    go_wp2
    go_ret
    exact ⟨rfl, Nw.refl _⟩
  · have HC := Lib.hid hc
    clear hc
    go_enter Try.func54, Try.ntmps54
    go_wp2
    go_loopw [3, 8] (fun s i wr => ∃ k : Nat, k ≤ l.length ∧ i = .int .i64 k ∧ s = .int .i64 ((l.take k).foldl supT 0) ∧ Nw w wr) (fun _ i _ => l.length - (intOf i).toNat)
    case atStart => exact ⟨0, Nat.zero_le _, rfl, rfl, Nw.refl _⟩
    case round =>
      obtain ⟨k, hk, rfl, rfl, hG⟩ := hrel
      by_cases hlt : k < l.length
      · have hce := (HC.out.nw hG).cell k hlt 0 _ rfl
        simp only [Nat.mul_one, Nat.add_zero] at hce
        have HS := Lib.hid (show (l.take (k + 1)).foldl supT 0 = supT ((l.take k).foldl supT 0) l[k] by rw [List.take_add_one, List.getElem?_eq_getElem hlt, List.foldl_append]; rfl)
        have HSp := Lib.hid (fun w => dSup ((l.take k).foldl supT 0) l[k] w (HK.out k) (HKn.out _ (List.getElem_mem hlt)))
        generalize (l.take k).foldl supT 0 = s at *
        generalize l[k] = z at *
        have HG := Lib.hid hG
        clear hG
        go_wp2_with (go_at_call 43; refine (HSp.out _).mono ?_; rintro e w' ⟨rfl, hg⟩)
        go_roundw
        case rel => exact ⟨k + 1, by omega, by go_num, by rw [HS.out], Nw.trans HG.out hg⟩
        case measure => simp [intOf]; omega
      · obtain rfl : k = l.length := by omega
        have HG := Lib.hid hG
        clear hG
        rw [List.take_of_length_le (Nat.le_refl _)]
        go_wp2
        go_ret
        exact ⟨rfl, HG.out⟩
set_option maxRecDepth 100000 in
set_option maxHeartbeats 4000000 in
theorem dGroup (t r W : Int) (v : Value) (q : List Rq) (w : World) (hl : q.length ≤ 1000) (hkn : ∀ R ∈ q, knI R.md = true) (h : RqAt w v q) :
    Calls Try.prog 21 #[hdV t r v W] w fun e w' => e = .returned (.int .i64 (grpQ q)) ∧ Nw w w' := by
  have HGr := Lib.hid (fun (v2 : Value) (w1 : World) (h : Rd 1 mdrow w1 v2 (q.map fun x => x.md)) => dGroup1 v2 (q.map fun x => x.md) w1 (by simpa using hl) (fun z hz => by obtain ⟨R, hR, rfl⟩ := List.mem_map.1 hz; exact hkn R hR) h)
  clear hkn
  have HAt := Lib.hid h
  obtain ⟨a, c, rfl, _⟩ := h
  unfold hdV
  have hx1 := allocAt w (.cells #[.int .i64 t, .int .i64 r, .slice a q.length c, .int .i64 W] 27)
  have hN : Nw w (w.alloc (.cells #[.int .i64 t, .int .i64 r, .slice a q.length c, .int .i64 W] 27)) := (Nw.refl w).alloc _
  obtain ⟨w1, hw1⟩ : ∃ w1, w.alloc (.cells #[.int .i64 t, .int .i64 r, .slice a q.length c, .int .i64 W] 27) = w1 := ⟨_, rfl⟩
  rw [hw1] at hx1 hN
  have HW1 := Lib.hid hw1
  have HB := Lib.hid (And.intro hx1 hN)
  have c2 := hcell (j := 2) hx1
  have hpl := hlt hx1
  clear hw1 hx1 hN
  go_enter Try.func21, Try.ntmps21
  go_wp2_with fail
  rw [HW1.out]
  go_wp2
  clear c2 hpl HW1
  go_loopw [3, 9] (fun m i wr => ∃ k : Nat, k ≤ q.length ∧ i = .int .i64 k ∧ Own 32 1 mdrow wr w1.heap.size m ((q.map fun x => x.md).take k) ∧ Nw w1 wr) (fun _ i _ => q.length - (intOf i).toNat)
  case atStart => exact ⟨0, Nat.zero_le _, rfl, World.ownsRow_nil _ _ _ _, Nw.refl _⟩
  case round =>
    obtain ⟨k, hk, rfl, hO, hG⟩ := hrel
    by_cases hlt : k < q.length
    · obtain ⟨a', c', e, ⟨e4, _⟩ | ⟨b, o, e4, hc⟩⟩ := (HAt.out.nw (HB.out.2.trans hG))
      · subst e4; simp at hlt
      simp only [Value.slice.injEq, true_and] at e
      obtain ⟨rfl, rfl⟩ := e
      subst e4
      have hki : (k : Int) < (q.length : Int) := by omega
      have hce := hc.cell k hlt
      have HX := Lib.hid (show (q.map fun x => x.md).take (k + 1) = (q.map fun x => x.md).take k ++ [q[k].md] by rw [List.take_add_one, List.getElem?_map, List.getElem?_eq_getElem hlt]; rfl)
      generalize q[k] = R at *
      obtain ⟨b0, b1, b2, b3, b4⟩ := R
      have e0 := hce 0 _ rfl
      have e1 := hce 1 _ rfl
      have e2 := hce 2 _ rfl
      have e3 := hce 3 _ rfl
      have e4 := hce 4 _ rfl
      simp only [Nat.add_zero] at e0
      simp only at HX
      have g6 : Nw wr (wr.alloc (.cells #[.int .i64 b0, .int .i64 b1, .int .i64 b2, .int .i64 b3, .int .i64 b4] 41)) := (Nw.refl wr).alloc _
      obtain ⟨w6, hw6⟩ : ∃ w6, wr.alloc (.cells #[.int .i64 b0, .int .i64 b1, .int .i64 b2, .int .i64 b3, .int .i64 b4] 41) = w6 := ⟨_, rfl⟩
      have hs6 : w6.heap.size = wr.heap.size + 1 := by rw [← hw6]; simp
      have hq6 := RqB.made wr b0 b1 b2 b3 b4 41
      rw [hw6] at g6 hq6
      obtain ⟨hlq, y0, y1, y2, y3, y4⟩ := hq6
      have HW6 := Lib.hid hw6
      have hNa : Nw w6 (w6.alloc (.cells #[.int .i64 b2] 32)) := (Nw.refl w6).alloc _
      have hal := allocAt w6 (.cells #[.int .i64 b2] 32)
      obtain ⟨v3, y3', hrun, hO3, hG3, hb3, g3, cap3, hv3⟩ := Own.push elemMd (onw hO (g6.trans hNa)) b2 w6.heap.size 1 (fun j u hu => by
        rw [hcell hal]
        simpa [mdrow] using hu) (by rw [List.length_take]; omega) (Nat.le_trans (hG.trans g6).sz hNa.sz)
      rw [← HX.out] at hO3
      have hN3 : Nw w1 y3' := ((hG.trans g6).trans hNa).gro hG3 (fun k hk => oge hO hk)
      have hlen : ((q.map fun x => x.md).take k).length = k := by simp; omega
      subst hv3
      rw [hlen] at hO3 hrun
      rw [hs6, ← hw6] at hrun
      clear hs6
      have HO3 := Lib.hid hO3
      have HN3 := Lib.hid hN3
      have HR2 := Lib.hid hrun
      clear hrun hO3 hN3 hG3 hb3 hal hNa hO hG hce hc g6 hw6
      clear HW6 y0 y1 y2 y3 y4 hlq
      go_wp2_with (at_builtin; (refine wpl_app (by rfl) (.tmp 13) (.tmp 16) 84 rfl _ _ _ _ rfl rfl HR2.out ?_))
      go_roundw
      case rel => exact ⟨k + 1, by omega, by go_num, HO3.out, HN3.out⟩
      case measure => simp [intOf]; omega
    · obtain rfl : k = q.length := by omega
      rw [List.take_of_length_le (by simp)] at hO
      have HO := Lib.hid (Own.rd (sz := 1) (row := mdrow) (fun _ => rfl) hO)
      have HG := Lib.hid hG
      clear hO hG
      go_wp2_with fail
      go_at_call 54
      refine (HGr.out _ _ HO.out).mono ?_
      rintro e w2 ⟨rfl, g⟩
      have HG2 := Lib.hid (HB.out.2.trans (HG.out.trans g))
      clear g HG HO HB
      go_wp2
      go_ret
      exact ⟨rfl, HG2.out⟩
set_option maxRecDepth 100000 in
set_option maxHeartbeats 4000000 in
theorem dEqual (v v' : Value) (q q' : List Rq) (w : World) (hl : q.length ≤ 1000) (h : RqAt w v q) (h' : RqAt w v' q') :
    Calls Try.prog 56 #[v, v'] w fun e w' => ∃ f, e = .returned (.bool f) ∧ Nw w w' ∧ (f = true ↔ q = q') := by
  obtain ⟨a, c, rfl, hh⟩ := h
  obtain ⟨a', c', rfl, hh'⟩ := h'
  by_cases hn : q.length = q'.length
  rotate_left
  · have hni : ((q.length : Int) != (q'.length : Int)) = true := by rw [bne_iff_ne]; omega
    clear hh hh'
    go_enter Try.func56, Try.ntmps56
    go_wp2
    go_ret
    exact ⟨_, rfl, Nw.refl _, by constructor <;> intro e; cases e; exact absurd (by rw [e]) hn⟩
  rw [← hn]
  have hni : ((q.length : Int) != (q.length : Int)) = false := by simp
  have HC := Lib.hid (And.intro hh hh')
  have HNn := Lib.hid hn
  clear hh hh' hn
  go_enter Try.func56, Try.ntmps56
  go_wp2
  go_loopw [13] (fun i wr => ∃ k : Nat, k ≤ q.length ∧ i = .int .i64 k ∧ q.take k = q'.take k ∧ Nw w wr) (fun i _ => q.length - (intOf i).toNat)
  case atStart => exact ⟨0, Nat.zero_le _, rfl, rfl, Nw.refl _⟩
  case round =>
    obtain ⟨k, hk, rfl, hf, hG⟩ := hrel
    have HG := Lib.hid hG
    by_cases hlt : k < q.length
    · have hlt' : k < q'.length := by have := HNn.out; omega
      rcases HC.out.1 with ⟨e4, _⟩ | ⟨b, o, e4, hc⟩
      · subst e4; simp at hlt
      rcases HC.out.2 with ⟨e5, _⟩ | ⟨b', o', e5, hc'⟩
      · subst e5; simp at hlt'
      subst e4 e5
      have hki : (k : Int) < (q.length : Int) := by omega
      have hce := (hc.nw hG).cell k hlt
      have hde := (hc'.nw hG).cell k hlt'
      have HNe := Lib.hid (fun e => take_ne hlt hlt' e)
      have HEq := Lib.hid (fun e => take_two hlt hlt' hf e)
      generalize q[k] = R at *
      generalize q'[k] = R' at *
      obtain ⟨b0, b1, b2, b3, b4⟩ := R
      obtain ⟨f0, f1, f2, f3, f4⟩ := R'
      have e0 := hce 0 _ rfl
      have e1 := hce 1 _ rfl
      have e2 := hce 2 _ rfl
      have e3 := hce 3 _ rfl
      have e4 := hce 4 _ rfl
      have g0 := hde 0 _ rfl
      have g1 := hde 1 _ rfl
      have g2 := hde 2 _ rfl
      have g3 := hde 3 _ rfl
      have g4 := hde 4 _ rfl
      simp only [Nat.add_zero] at e0 g0
      clear hce hde hc hc' hf hG
      by_cases x0 : b0 = f0
      rotate_left
      · have y0 : (b0 == f0) = false := by simpa using x0
        have HQ := Lib.hid (HNe.out (fun e => x0 (by injection e)))
        clear x0 HNe HEq
        go_wp2_with fail
        go_quiet (fail)
        go_wp2
        go_ret
        exact ⟨false, rfl, HG.out.drewN _, by simpa using HQ.out⟩
      subst x0
      by_cases x1 : b1 = f1
      rotate_left
      · have y1 : (b1 == f1) = false := by simpa using x1
        have HQ := Lib.hid (HNe.out (fun e => x1 (by injection e)))
        clear x1 HNe HEq
        go_wp2_with fail
        go_quiet (fail)
        go_wp2
        go_ret
        exact ⟨false, rfl, HG.out.drewN _, by simpa using HQ.out⟩
      subst x1
      by_cases x2 : b2 = f2
      rotate_left
      · have y2 : (b2 == f2) = false := by simpa using x2
        have HQ := Lib.hid (HNe.out (fun e => x2 (by injection e)))
        clear x2 HNe HEq
        go_wp2_with fail
        go_quiet (fail)
        go_wp2
        go_ret
        exact ⟨false, rfl, HG.out.drewN _, by simpa using HQ.out⟩
      subst x2
      by_cases x3 : b3 = f3
      rotate_left
      · have y3 : (b3 == f3) = false := by simpa using x3
        have HQ := Lib.hid (HNe.out (fun e => x3 (by injection e)))
        clear x3 HNe HEq
        go_wp2_with fail
        go_quiet (fail)
        go_wp2
        go_ret
        exact ⟨false, rfl, HG.out.drewN _, by simpa using HQ.out⟩
      subst x3
      by_cases x4 : b4 = f4
      rotate_left
      · have y4 : (b4 == f4) = false := by simpa using x4
        have HQ := Lib.hid (HNe.out (fun e => x4 (by injection e)))
        clear x4 HNe HEq
        go_wp2_with fail
        go_quiet (fail)
        go_wp2
        go_ret
        exact ⟨false, rfl, HG.out.drewN _, by simpa using HQ.out⟩
      subst x4
      have HQ := Lib.hid (HEq.out rfl)
      clear HNe HEq
      go_wp2_with fail
      go_quiet (fail)
      go_wp2
      go_roundw
      case rel => exact ⟨k + 1, by omega, by go_num, HQ.out, HG.out.drewN _⟩
      case measure => simp [intOf]; omega
    · obtain rfl : k = q.length := by omega
      clear hG
      go_wp2
      go_ret
      exact ⟨_, rfl, HG.out, by
        have h2 := hf
        rw [List.take_of_length_le (Nat.le_refl _), List.take_of_length_le (by have := HNn.out; omega)] at h2
        simp [h2]⟩
set_option maxRecDepth 100000 in
set_option maxHeartbeats 4000000 in
theorem kSameRq (v v' : Value) (q q' : List Rq) (w : World) (hl : q.length ≤ 1000) (h : RqAt w v q) (h' : RqAt w v' q') :
    Calls Try.prog 19 #[v, v'] w fun e w' => ∃ f, e = .returned (.bool f) ∧ Nw w w' ∧ (f = true ↔ q = q') := by
  obtain ⟨a, c, rfl, hh⟩ := h
  obtain ⟨a', c', rfl, hh'⟩ := h'
  by_cases hn : q.length = q'.length
  rotate_left
  · have hni : ((q.length : Int) != (q'.length : Int)) = true := by rw [bne_iff_ne]; omega
    clear hh hh'
    go_enter Try.func19, Try.ntmps19
    go_wp2
    go_ret
    exact ⟨_, rfl, Nw.refl _, by constructor <;> intro e; cases e; exact absurd (by rw [e]) hn⟩
  rw [← hn]
  have hni : ((q.length : Int) != (q.length : Int)) = false := by simp
  have HC := Lib.hid (And.intro hh hh')
  have HNn := Lib.hid hn
  clear hh hh' hn
  go_enter Try.func19, Try.ntmps19
  go_wp2
  go_loopw [5] (fun i wr => ∃ k : Nat, k ≤ q.length ∧ i = .int .i64 k ∧ q.take k = q'.take k ∧ Nw w wr) (fun i _ => q.length - (intOf i).toNat)
  case atStart => exact ⟨0, Nat.zero_le _, rfl, rfl, Nw.refl _⟩
  case round =>
    obtain ⟨k, hk, rfl, hf, hG⟩ := hrel
    have HG := Lib.hid hG
    by_cases hlt : k < q.length
    · have hlt' : k < q'.length := by have := HNn.out; omega
      rcases HC.out.1 with ⟨e4, _⟩ | ⟨b, o, e4, hc⟩
      · subst e4; simp at hlt
      rcases HC.out.2 with ⟨e5, _⟩ | ⟨b', o', e5, hc'⟩
      · subst e5; simp at hlt'
      subst e4 e5
      have hki : (k : Int) < (q.length : Int) := by omega
      have hce := (hc.nw hG).cell k hlt
      have hde := (hc'.nw hG).cell k hlt'
      have HNe := Lib.hid (fun e => take_ne hlt hlt' e)
      have HEq := Lib.hid (fun e => take_two hlt hlt' hf e)
      generalize q[k] = R at *
      generalize q'[k] = R' at *
      obtain ⟨b0, b1, b2, b3, b4⟩ := R
      obtain ⟨f0, f1, f2, f3, f4⟩ := R'
      have e0 := hce 0 _ rfl
      have e1 := hce 1 _ rfl
      have e2 := hce 2 _ rfl
      have e3 := hce 3 _ rfl
      have e4 := hce 4 _ rfl
      have g0 := hde 0 _ rfl
      have g1 := hde 1 _ rfl
      have g2 := hde 2 _ rfl
      have g3 := hde 3 _ rfl
      have g4 := hde 4 _ rfl
      simp only [Nat.add_zero] at e0 g0
      clear hce hde hc hc' hf hG
      by_cases x0 : b0 = f0
      rotate_left
      · have y0 : (b0 == f0) = false := by simpa using x0
        have HQ := Lib.hid (HNe.out (fun e => x0 (by injection e)))
        clear x0 HNe HEq
        go_wp2_with fail
        go_quiet (fail)
        go_wp2
        go_ret
        exact ⟨false, rfl, HG.out.drewN _, by simpa using HQ.out⟩
      subst x0
      by_cases x1 : b1 = f1
      rotate_left
      · have y1 : (b1 == f1) = false := by simpa using x1
        have HQ := Lib.hid (HNe.out (fun e => x1 (by injection e)))
        clear x1 HNe HEq
        go_wp2_with fail
        go_quiet (fail)
        go_wp2
        go_ret
        exact ⟨false, rfl, HG.out.drewN _, by simpa using HQ.out⟩
      subst x1
      by_cases x2 : b2 = f2
      rotate_left
      · have y2 : (b2 == f2) = false := by simpa using x2
        have HQ := Lib.hid (HNe.out (fun e => x2 (by injection e)))
        clear x2 HNe HEq
        go_wp2_with fail
        go_quiet (fail)
        go_wp2
        go_ret
        exact ⟨false, rfl, HG.out.drewN _, by simpa using HQ.out⟩
      subst x2
      by_cases x3 : b3 = f3
      rotate_left
      · have y3 : (b3 == f3) = false := by simpa using x3
        have HQ := Lib.hid (HNe.out (fun e => x3 (by injection e)))
        clear x3 HNe HEq
        go_wp2_with fail
        go_quiet (fail)
        go_wp2
        go_ret
        exact ⟨false, rfl, HG.out.drewN _, by simpa using HQ.out⟩
      subst x3
      by_cases x4 : b4 = f4
      rotate_left
      · have y4 : (b4 == f4) = false := by simpa using x4
        have HQ := Lib.hid (HNe.out (fun e => x4 (by injection e)))
        clear x4 HNe HEq
        go_wp2_with fail
        go_quiet (fail)
        go_wp2
        go_ret
        exact ⟨false, rfl, HG.out.drewN _, by simpa using HQ.out⟩
      subst x4
      have HQ := Lib.hid (HEq.out rfl)
      clear HNe HEq
      go_wp2_with fail
      go_quiet (fail)
      go_wp2
      go_roundw
      case rel => exact ⟨k + 1, by omega, by go_num, HQ.out, HG.out.drewN _⟩
      case measure => simp [intOf]; omega
    · obtain rfl : k = q.length := by omega
      clear hG
      go_wp2
      go_ret
      exact ⟨_, rfl, HG.out, by
        have h2 := hf
        rw [List.take_of_length_le (Nat.le_refl _), List.take_of_length_le (by have := HNn.out; omega)] at h2
        simp [h2]⟩
set_option maxRecDepth 100000 in
set_option maxHeartbeats 4000000 in
theorem dSame (t r W t2 r2 W2 : Int) (v v2 : Value) (q q2 : List Rq) (w : World) (hl : q.length ≤ 1000) (h : RqAt w v q) (h2 : RqAt w v2 q2) :
    Calls Try.prog 23 #[hdV t r v W, hdV t2 r2 v2 W2] w fun e w' => ∃ f, e = .returned (.bool f) ∧ Nw w w' ∧ (f = true ↔ t = t2 ∧ r = r2 ∧ W = W2 ∧ q = q2) := by
  have HE := Lib.hid (fun (z : World) (g : Nw w z) => dEqual v v2 q q2 z hl (h.nw g) (h2.nw g))
  obtain ⟨a, c, rfl, _⟩ := h
  obtain ⟨a2, c2, rfl, _⟩ := h2
  obtain ⟨n2, hn2⟩ : ∃ n, q2.length = n := ⟨_, rfl⟩
  rw [hn2] at HE ⊢
  clear hn2
  unfold hdV
  obtain ⟨hx1, hx2, hx3, _⟩ := two_boxes w (.cells #[.int .i64 t, .int .i64 r, .slice a q.length c, .int .i64 W] 27) (.cells #[.int .i64 t2, .int .i64 r2, .slice a2 n2 c2, .int .i64 W2] 27)
  obtain ⟨w1, hw1⟩ : ∃ w1, (w.alloc (.cells #[.int .i64 t, .int .i64 r, .slice a q.length c, .int .i64 W] 27)).alloc (.cells #[.int .i64 t2, .int .i64 r2, .slice a2 n2 c2, .int .i64 W2] 27) = w1 := ⟨_, rfl⟩
  rw [hw1] at hx1 hx2 hx3
  have HN := Lib.hid hx3
  have HW := Lib.hid hw1
  have HE1 := Lib.hid (HE.out w1 hx3)
  have x0 := hcell (j := 0) hx1
  have x1 := hcell (j := 1) hx1
  have x2 := hcell (j := 2) hx1
  have x3 := hcell (j := 3) hx1
  have xl := hlt hx1
  have y0 := hcell (j := 0) hx2
  have y1 := hcell (j := 1) hx2
  have y2 := hcell (j := 2) hx2
  have y3 := hcell (j := 3) hx2
  have yl := hlt hx2
  clear hx1 hx2 hx3 hw1 HE
  by_cases e1 : t = t2
  rotate_left
  · have d : (t == t2) = false := by simpa using e1
    have E1 := Lib.hid e1
    clear e1
    go_enter Try.func23, Try.ntmps23
    go_wp2_with fail
    rw [HW.out]
    go_wp2
    go_ret
    exact ⟨_, rfl, HN.out, by simp [E1.out]⟩
  by_cases e2 : r = r2
  rotate_left
  · have d : (r == r2) = false := by simpa using e2
    have E2 := Lib.hid e2
    subst e1
    clear e2
    go_enter Try.func23, Try.ntmps23
    go_wp2_with fail
    rw [HW.out]
    go_wp2
    go_ret
    exact ⟨_, rfl, HN.out, by simp [E2.out]⟩
  by_cases e3 : W = W2
  rotate_left
  · have d : (W == W2) = false := by simpa using e3
    have E3 := Lib.hid e3
    subst e1 e2
    clear e3
    go_enter Try.func23, Try.ntmps23
    go_wp2_with fail
    rw [HW.out]
    go_wp2
    go_ret
    exact ⟨_, rfl, HN.out, by simp [E3.out]⟩
  subst e1 e2 e3
  go_enter Try.func23, Try.ntmps23
  go_wp2_with fail
  rw [HW.out]
  go_wp2_with fail
  go_at_call 56
  refine HE1.out.mono ?_
  rintro e w2 ⟨f, rfl, g2, hf⟩
  have HF := Lib.hid (And.intro g2 hf)
  clear x0 x1 x2 x3 xl y0 y1 y2 y3 yl g2 hf HE1
  go_wp2
  go_ret
  exact ⟨_, rfl, HN.out.trans HF.out.1, by simp [HF.out.2]⟩
end Go.Proofs.Ytmciiobncfchlaa
end

/- Contracts of the library's functions at this program, laid by the kit's own command in plain words; only those that are used. -/
section
namespace Go.Proofs
open Go.Shelf
def Try.lays189_ren : Go.Shelf.Ren := ⟨fun | 189 => 52 | 125 => 82 | 257 => 81 | 128 => 103 | 129 => 104 | 294 => 94 | 295 => 95 | 296 => 96 | 297 => 97 | 298 => 98 | 299 => 99 | 216 => 100 | 300 => 101 | 301 => 102 | 328 => 114 | 329 => 115 | 330 => 116 | 331 => 117 | 332 => 118 | 215 => 113 | 343 => 121 | n => n, fun | 28 => 36 | 3 => 3 | 46 => 106 | 0 => 0 | 51 => 122 | 53 => 124 | 4 => 4 | 183 => 114 | 182 => 113 | 131 => 119 | 5 => 5 | 9 => 9 | 218 => 127 | 222 => 131 | 228 => 137 | 229 => 138 | n => n, fun | n => n⟩
theorem Try.lays189 : Go.Proofs.Lays.n189 Try.prog Try.lays189_ren := {
  mixed := by kernel_rfl
  f125 := Try.func82.trans (congrArg some (by kernel_rfl))
  f128 := Try.func103.trans (congrArg some (by kernel_rfl))
  f129 := Try.func104.trans (congrArg some (by kernel_rfl))
  f189 := Try.func52.trans (congrArg some (by kernel_rfl))
  f215 := Try.func113.trans (congrArg some (by kernel_rfl))
  f216 := Try.func100.trans (congrArg some (by kernel_rfl))
  f257 := Try.func81.trans (congrArg some (by kernel_rfl))
  f294 := Try.func94.trans (congrArg some (by kernel_rfl))
  f295 := Try.func95.trans (congrArg some (by kernel_rfl))
  f296 := Try.func96.trans (congrArg some (by kernel_rfl))
  f297 := Try.func97.trans (congrArg some (by kernel_rfl))
  f298 := Try.func98.trans (congrArg some (by kernel_rfl))
  f299 := Try.func99.trans (congrArg some (by kernel_rfl))
  f300 := Try.func101.trans (congrArg some (by kernel_rfl))
  f301 := Try.func102.trans (congrArg some (by kernel_rfl))
  f328 := Try.func114.trans (congrArg some (by kernel_rfl))
  f329 := Try.func115.trans (congrArg some (by kernel_rfl))
  f330 := Try.func116.trans (congrArg some (by kernel_rfl))
  f331 := Try.func117.trans (congrArg some (by kernel_rfl))
  f332 := Try.func118.trans (congrArg some (by kernel_rfl))
  f343 := Try.func121.trans (congrArg some (by kernel_rfl))
  t0 := Try.underlying0
  a0 := Try.isAgg0
  z0 := Try.sizeOf0
  v0 := Try.zeroValue0
  t3 := Try.underlying3
  a3 := Try.isAgg3
  z3 := Try.sizeOf3
  v3 := Try.zeroValue3
  t4 := Try.underlying4
  a4 := Try.isAgg4
  z4 := Try.sizeOf4
  v4 := Try.zeroValue4
  t5 := Try.underlying5
  a5 := Try.isAgg5
  z5 := Try.sizeOf5
  v5 := Try.zeroValue5
  t9 := Try.underlying9
  a9 := Try.isAgg9
  z9 := Try.sizeOf9
  v9 := Try.zeroValue9
  t28 := Try.underlying36
  a28 := Try.isAgg36
  z28 := Try.sizeOf36
  v28 := Try.zeroValue36
  t46 := Try.underlying106
  a46 := Try.isAgg106
  z46 := Try.sizeOf106
  v46 := Try.zeroValue106
  t51 := Try.underlying122
  a51 := Try.isAgg122
  z51 := Try.sizeOf122
  v51 := Try.zeroValue122
  t53 := Try.underlying124
  a53 := Try.isAgg124
  z53 := Try.sizeOf124
  v53 := Try.zeroValue124
  t131 := Try.underlying119
  a131 := Try.isAgg119
  z131 := Try.sizeOf119
  v131 := Try.zeroValue119
  t182 := Try.underlying113
  a182 := Try.isAgg113
  z182 := Try.sizeOf113
  v182 := Try.zeroValue113
  t183 := Try.underlying114
  a183 := Try.isAgg114
  z183 := Try.sizeOf114
  v183 := Try.zeroValue114
  t218 := Try.underlying127
  a218 := Try.isAgg127
  z218 := Try.sizeOf127
  v218 := Try.zeroValue127
  t222 := Try.underlying131
  a222 := Try.isAgg131
  z222 := Try.sizeOf131
  v222 := Try.zeroValue131
  t228 := Try.underlying137
  a228 := Try.isAgg137
  z228 := Try.sizeOf137
  v228 := Try.zeroValue137
  t229 := Try.underlying138
  a229 := Try.isAgg138
  z229 := Try.sizeOf138
  v229 := Try.zeroValue138 }
open Go.Sort Go.RowKit in
theorem Try.slices_Sort_int (blk off cap : Nat) (zs : List Int) (w : World) (hH : Holds (Value.int .i64) w blk off zs.toArray) (hblk : blk < w.heap.size) (hsz : zs.length < 4611686018427387904) :
    Calls Try.prog 52 #[.slice (some ⟨blk, off, none⟩) zs.length cap] w fun e w' =>
      e = .returned (.tuple #[]) ∧ ∃ n os, w' = grow (putRow (Value.int .i64) (Sort.ahead w n) blk off (zs.mergeSort fun x y => decide (x ≤ y)).toArray) os := Any.slices_Sort_int Try.lays189 blk off cap zs w hH hblk hsz
def Try.laysNm220_ren : Go.Shelf.Ren := ⟨fun | 20 => 53 | n => n, fun | 22 => 36 | 3 => 3 | 4 => 4 | 0 => 0 | n => n, fun | n => n⟩
theorem Try.laysNm220 : Go.Proofs.Lays2.n20 Try.prog Try.laysNm220_ren := {
  mixed := by kernel_rfl
  f20 := Try.func53.trans (congrArg some (by kernel_rfl))
  t0 := Try.underlying0
  a0 := Try.isAgg0
  z0 := Try.sizeOf0
  v0 := Try.zeroValue0
  t3 := Try.underlying3
  a3 := Try.isAgg3
  z3 := Try.sizeOf3
  v3 := Try.zeroValue3
  t4 := Try.underlying4
  a4 := Try.isAgg4
  z4 := Try.sizeOf4
  v4 := Try.zeroValue4
  t22 := Try.underlying36
  a22 := Try.isAgg36
  z22 := Try.sizeOf36
  v22 := Try.zeroValue36
  i3 := by kernel_rfl }
open Go.RowKit Go.Lib Go.Sort in
theorem Try.slices_Compact_int (blk off cap : Nat) (zs : List Int) (w : World) (hH : Holds (Value.int .i64) w blk off zs.toArray) (hsz : zs.length ≤ 9223372036854775807) (hcap : zs.length ≤ cap) :
    Calls Try.prog 53 #[.slice (some ⟨blk, off, none⟩) zs.length cap] w fun e w' => e = .returned (.slice (some ⟨blk, off, none⟩) (Lib.compact zs).length cap) ∧ ∃ q, w' = putRow (Value.int .i64) (Sort.ahead w q) blk off (Lib.compact zs ++ List.replicate (zs.length - (Lib.compact zs).length) 0).toArray := Any.slices_Compact_int Try.laysNm220 blk off cap zs w hH hsz hcap
open Go.RowKit Go.Lib Go.Sort in
theorem Try.slices_Compact_int_empty (a : Option Addr) (cap : Nat) (w : World) :
    Calls Try.prog 53 #[.slice a 0 cap] w fun e w' => e = .returned (.slice a 0 cap) ∧ w' = w := Any.slices_Compact_int_empty Try.laysNm220 a cap w
open Go.RowKit Go.Sort in
theorem Try.slices_Sort_int_none (p : Option Addr) (cap : Nat) (w : World) :
    Calls Try.prog 52 #[.slice p 0 cap] w fun e w' => e = .returned (.tuple #[]) ∧ w' = w := Any.slices_Sort_int_none Try.lays189 p cap w
end Go.Proofs
end

/- The library's Sort and Compact at rows of ints that the call owns; plain facts of sorted lists. -/
section
namespace Go.Proofs.Ytmciiobncfchlaa
open Go.RowKit Go.Sort
set_option linter.unusedVariables false

theorem sorted_ext : ∀ {a b : List Int}, a.Pairwise (· < ·) → b.Pairwise (· < ·) → (∀ x, x ∈ a ↔ x ∈ b) → a = b
  | [], b, _, _, h => by
    cases b with
    | nil => rfl
    | cons y b => exact absurd ((h y).2 (by simp)) (by simp)
  | x :: a, [], _, _, h => absurd ((h x).1 (by simp)) (by simp)
  | x :: a, y :: b, ha, hb, h => by
    rw [List.pairwise_cons] at ha hb
    have e : x = y := by
      rcases List.mem_cons.1 ((h x).1 (by simp)) with e | e
      · exact e
      · rcases List.mem_cons.1 ((h y).2 (by simp)) with e2 | e2
        · exact e2.symm
        · have := hb.1 x e; have := ha.1 y e2; omega
    subst e
    congr 1
    refine sorted_ext ha.2 hb.2 (fun z => ?_)
    have hz := h z
    rw [List.mem_cons, List.mem_cons] at hz
    constructor
    · intro m
      rcases hz.1 (.inr m) with e | e
      · have := ha.1 z m; omega
      · exact e
    · intro m
      rcases hz.2 (.inr m) with e | e
      · have := hb.1 z m; omega
      · exact e
theorem cmp_upto (l : List Int) (hs : l.Pairwise (· ≤ ·)) : ∀ m, m ≤ l.length → (Lib.compactUpTo l.toArray m).Pairwise (· < ·) ∧ ∀ x, x ∈ Lib.compactUpTo l.toArray m ↔ ∃ j, j < m ∧ l.toArray[j]! = x
  | 0, _ => by
    have : Lib.compactUpTo l.toArray 0 = [] := rfl
    rw [this]
    exact ⟨List.Pairwise.nil, fun x => by simp⟩
  | m + 1, hm => by
    obtain ⟨h1, h2⟩ := cmp_upto l hs m (by omega)
    have hle : ∀ i j, i < j → j < l.length → l.toArray[i]! ≤ l.toArray[j]! := fun i j hij hj => by
      have := List.pairwise_iff_getElem.1 hs i j (by omega) hj hij
      simpa [hj, show i < l.length by omega] using this
    rw [Lib.compactUpTo_succ]
    by_cases k : Lib.keeps l.toArray m = true
    · rw [if_pos k]
      refine ⟨List.pairwise_append.2 ⟨h1, by simp, fun x hx y hy => ?_⟩, fun x => ?_⟩
      · obtain rfl := List.mem_singleton.1 hy
        obtain ⟨j, hj, rfl⟩ := (h2 x).1 hx
        have hk : l.toArray[m]! ≠ l.toArray[m - 1]! := by
          unfold Lib.keeps at k
          simp at k
          rcases k with k | k
          · omega
          · simpa using k
        have a1 : l.toArray[j]! ≤ l.toArray[m - 1]! := by
          by_cases e : j = m - 1
          · rw [e]; exact Int.le_refl _
          · exact hle j (m - 1) (by omega) (by omega)
        have a2 := hle (m - 1) m (by omega) (by omega)
        omega
      · rw [List.mem_append, List.mem_singleton, h2 x]
        constructor
        · rintro (⟨j, hj, e⟩ | e)
          · exact ⟨j, by omega, e⟩
          · exact ⟨m, by omega, e.symm⟩
        · rintro ⟨j, hj, e⟩
          by_cases q : j = m
          · subst q; exact .inr e.symm
          · exact .inl ⟨j, by omega, e⟩
    · rw [if_neg k, List.append_nil]
      refine ⟨h1, fun x => ?_⟩
      rw [h2 x]
      have hk : 0 < m ∧ l.toArray[m]! = l.toArray[m - 1]! := by
        unfold Lib.keeps at k
        simp at k
        refine ⟨by omega, ?_⟩
        have := k.2
        simpa using this
      constructor
      · rintro ⟨j, hj, e⟩; exact ⟨j, by omega, e⟩
      · rintro ⟨j, hj, e⟩
        by_cases q : j = m
        · subst q; exact ⟨j - 1, by omega, by rw [← hk.2]; exact e⟩
        · exact ⟨j, by omega, e⟩
theorem arr_at (l : List Int) (j : Nat) (h : j < l.length) : l.toArray[j]! = l[j] := by simp [h]
/-- Sorted, each once. -/
theorem cmp_sorted (l : List Int) : (Lib.compact (l.mergeSort fun x y => decide (x ≤ y))).Pairwise (· < ·) ∧ ∀ x, x ∈ Lib.compact (l.mergeSort fun x y => decide (x ≤ y)) ↔ x ∈ l := by
  have hs : (l.mergeSort fun x y => decide (x ≤ y)).Pairwise (· ≤ ·) := by
    have := List.pairwise_mergeSort (le := fun (x y : Int) => decide (x ≤ y)) (fun a b c h1 h2 => by simp at *; omega) (fun a b => by simp; omega) l
    exact this.imp (fun h => by simpa using h)
  obtain ⟨h1, h2⟩ := cmp_upto _ hs _ (Nat.le_refl _)
  refine ⟨h1, fun x => ?_⟩
  have h3 := h2 x
  unfold Lib.compact
  rw [h3, ← (List.mergeSort_perm l _).mem_iff (a := x), List.mem_iff_getElem]
  constructor
  · rintro ⟨j, hj, e⟩
    exact ⟨j, hj, (arr_at _ j hj).symm.trans e⟩
  · rintro ⟨j, hj, e⟩
    exact ⟨j, hj, (arr_at _ j hj).trans e⟩
theorem dSortI (v : Value) (l : List Int) (w : World) (h : IS w v l) (hl : l.length ≤ 1000) :
    Calls Try.prog 52 #[v] w fun e w' => e = .returned (.tuple #[]) ∧ IS w' v (l.mergeSort fun x y => decide (x ≤ y)) ∧ Tch (fun i => v.ownBlock = some i) w w' := by
  rcases h.2 with ⟨rfl, e⟩ | ⟨g, cap, cur, rfl, _, hb, h1, h2, h3, ht⟩
  · obtain rfl := List.length_eq_zero_iff.1 e
    refine (Try.slices_Sort_int_none none 0 w).mono ?_
    rintro e w' ⟨rfl, h⟩
    exact ⟨rfl, by simpa using IS.nil w', by first | (subst h; exact Tch.refl _ _) | (obtain ⟨n, rfl⟩ := h; exact (Tch.refl _ _).drewN _)⟩
  · rw [Nat.mul_one] at ht
    have hH := holds_of_blockI hb ht
    have hlen : (l.mergeSort fun x y => decide (x ≤ y)).length = l.length := List.length_mergeSort _
    refine (Try.slices_Sort_int g 0 cap l w hH (hlt hb) (by omega)).mono ?_
    rintro e w' ⟨rfl, n, os, rfl⟩
    refine ⟨rfl, ?_, (Tch.refl _ w).grown (grownBy_sortedI _) (fun k hk => .inl hk)⟩
    unfold IS
    rw [hlen]
    exact ownsRow_sortedI hlen (Nat.zero_le _) hb h1 h2 h3
theorem dCompactI (v : Value) (l : List Int) (w : World) (h : IS w v l) (hl : l.length ≤ 1000) :
    Calls Try.prog 53 #[v] w fun e w' => ∃ v', e = .returned v' ∧ IS w' v' (Lib.compact l) ∧ v'.ownBlock = v.ownBlock ∧ Tch (fun i => v.ownBlock = some i) w w' := by
  rcases h.2 with ⟨rfl, e⟩ | ⟨g, cap, cur, rfl, _, hb, h1, h2, h3, ht⟩
  · obtain rfl := List.length_eq_zero_iff.1 e
    refine (Try.slices_Compact_int_empty none 0 w).mono ?_
    rintro e w' ⟨rfl, rfl⟩
    exact ⟨_, rfl, IS.nil _, rfl, Tch.refl _ _⟩
  · rw [Nat.mul_one] at ht
    have hH := holds_of_blockI hb ht
    have hle := Lib.compact_length_le l
    refine (Try.slices_Compact_int g 0 cap l w hH (by omega) h1).mono ?_
    rintro e w' ⟨rfl, n, rfl⟩
    have hg := grownBy_sortedI (w := w) (g := g) (n := n) (os := #[]) (Lib.compact l ++ List.replicate (l.length - (Lib.compact l).length) 0).toArray
    have hh := heap_sortedI (n := n) (os := #[]) (Lib.compact l ++ List.replicate (l.length - (Lib.compact l).length) 0).toArray hb
    rw [grow_empty] at hg hh
    refine ⟨_, rfl, ⟨by simp, .inr ⟨g, cap, _, rfl, Nat.zero_le _, hh, by omega, h2, by simp [putCells, h3], ?_⟩⟩, rfl, (Tch.refl _ w).grown hg (fun k hk => .inl hk)⟩
    have hlen : (Lib.compact l ++ List.replicate (l.length - (Lib.compact l).length) 0).length = l.length := by simp; omega
    have hta := take_putCellsI cur (Lib.compact l ++ List.replicate (l.length - (Lib.compact l).length) 0) (by rw [hlen]; omega)
    have hta2 := congrArg (List.take (Lib.compact l).length) hta
    rw [List.take_take, hlen, Nat.min_eq_left hle, List.map_append, List.take_append_of_le_length (by simp)] at hta2
    rw [Nat.mul_one, hta2]
    exact List.take_of_length_le (by simp)
end Go.Proofs.Ytmciiobncfchlaa
end
