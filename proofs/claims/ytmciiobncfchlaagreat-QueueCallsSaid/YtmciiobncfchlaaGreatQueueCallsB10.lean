/- Texts merged: QvL, QvT, QvU, QcA, QuW -/
import Derived.Test.YtmciiobncfchlaaGreatQueueCallsB9
import Derived.WalkKit
import Derived.ProofKit
import Derived.OpenShut
import Derived.ShutString
import Derived.ChangeOld
import Derived.Below
import Derived.Deep.Slices
import Derived.Deep.Fields
import Derived.ChangeSame
import Derived.Lib.SmallJoins

/- The developers' package queue: without, Leave, Find, Mode. -/
section
namespace Go.Proofs.YtmciiobncfchlaaGreat
open Go.RowKit
set_option linter.unusedVariables false      -- a contract need not use every name

theorem at_plc (q : List Rq) (id : Int) : AtIs q id (plc (fun R => R.id == id) q) := by
  rcases plc_form (fun R => R.id == id) q with ⟨h1, h2⟩ | ⟨k, h1, hk, h3, h4⟩
  · refine .inl ⟨h1, ?_⟩
    unfold fnd
    rw [List.find?_eq_none]
    intro x hx; rw [h2 x hx]; simp
  · refine .inr ⟨k, h1, hk, ?_⟩
    unfold fnd
    have e := split_at q k hk
    conv => lhs; rw [e]
    rw [List.find?_append, List.find?_cons, h3]
    have : (q.take k).find? (fun r => r.id == id) = none := by
      rw [List.find?_eq_none]
      intro x hx
      obtain ⟨i, hi, rfl⟩ := List.getElem_of_mem hx
      simp at hi
      have := h4 i (by omega) (by omega)
      simpa using this
    rw [this]; rfl
theorem md_plc (q : List Rq) (x : Int) : (plc (fun R => R.txn == x) q = -1 ∧ mdQ q x = 0) ∨ ∃ k : Nat, plc (fun R => R.txn == x) q = k ∧ ∃ h : k < q.length, mdQ q x = q[k].md := by
  rcases plc_form (fun R => R.txn == x) q with ⟨h1, h2⟩ | ⟨k, h1, hk, h3, h4⟩
  · refine .inl ⟨h1, md_none ?_⟩
    rw [List.find?_eq_none]
    intro y hy; rw [h2 y hy]; simp
  · refine .inr ⟨k, h1, hk, md_hit hk ?_ (by simpa using h3)⟩
    rw [List.find?_eq_none]
    intro y hy
    obtain ⟨i, hi, rfl⟩ := List.getElem_of_mem hy
    simp at hi
    have := h4 i (by omega) (by omega)
    simpa using this
theorem dWithIDn (i : Int) (w : World) : Calls Tryz.prog 40 #[.int .i64 i] w fun e w' => ∃ p, e = .returned (.func (.func 81) #[] #[.pointer (some ⟨p, 0, none⟩)]) ∧ Nw w w' ∧ w'.cell? ⟨p, 0, none⟩ = some (.int .i64 i) ∧ w.heap.size ≤ p := by
  go_enter Tryz.func40, Tryz.ntmps40
  go_wp2
  go_ret
  exact ⟨_, rfl, (Nw.refl _).alloc _, hcell (allocAt w _), Nat.le_refl _⟩
theorem rd_st {w : World} {v : Value} {q : List Rq} {w0 : World} (h : RqAt w v q) (hf : Fresh w0 v q) {p : Addr} (hp : p.block < w0.heap.size) (u : Value) : RqAt (w.setCell p u) v q := by
  obtain ⟨a, c, rfl, ⟨rfl, hh⟩ | ⟨b, o, rfl, hc⟩⟩ := h
  · exact ⟨a, c, rfl, .inl ⟨rfl, hh⟩⟩
  · rcases hf b o _ _ rfl with hb | rfl
    · refine ⟨_, c, rfl, .inr ⟨b, o, rfl, ⟨Nat.lt_of_lt_of_le hc.lt (sgrown w p u).size, fun i hi k x hx => ?_⟩⟩⟩
      have e := (sgrown w p u).block b hc.lt (fun e => by have := Option.some.inj e; omega)
      exact (World.cell?_of_block e).trans (hc.cell i hi k x hx)
    · exact ⟨_, c, rfl, .inr ⟨b, o, rfl, ⟨Nat.lt_of_lt_of_le hc.lt (sgrown w p u).size, fun i hi => by simp at hi⟩⟩⟩
theorem rd_fill {w : World} {v : Value} {q : List Rq} {w0 : World} (h : RqAt w v q) (hf : Fresh w0 v q) {rb : Nat} (hp : rb < w0.heap.size) (u0 u1 u2 u3 : Value) : RqAt ((((w.setCell ⟨rb, 0, none⟩ u0).setCell ⟨rb, 1, none⟩ u1).setCell ⟨rb, 2, none⟩ u2).setCell ⟨rb, 3, none⟩ u3) v q :=
  rd_st (rd_st (rd_st (rd_st h hf (p := ⟨rb, 0, none⟩) hp u0) hf (p := ⟨rb, 1, none⟩) hp u1) hf (p := ⟨rb, 2, none⟩) hp u2) hf (p := ⟨rb, 3, none⟩) hp u3
set_option maxRecDepth 100000 in
set_option maxHeartbeats 4000000 in
theorem dWithout (t r W id : Int) (v : Value) (q : List Rq) (w : World) (hl : q.length ≤ 1000) (h : RqAt w v q) :
    Calls Tryz.prog 55 #[hdV t r v W, .int .i64 id] w fun e w' => ∃ v', e = .returned (hdV t r v' W) ∧ Nw w w' ∧ RqAt w' v' (lvQ id q) ∧ capOk v' ∧ Fresh w v' (lvQ id q) := by
  have HCl := Lib.hid (fun (w1 : World) (g : Nw w w1) => dClone v q w1 hl (h.nw g))
  have HWi := Lib.hid (dWithIDn id)
  unfold hdV
  obtain ⟨a, c, rfl, _⟩ := h
  have HX := Lib.hid (two_boxes w (.cells #[.int .i64 t, .int .i64 r, .slice a q.length c, .int .i64 W] 26) (.cells #[.int .i64 0, .int .i64 0, .slice none 0 0, .int .i64 0] 26))
  go_enter Tryz.func55, Tryz.ntmps55
  go_wp2_with fail
  go_at_call 58
  refine (HCl.out _ HX.out.2.2.1).mono ?_
  rintro e w2 ⟨v1, rfl, g2, hO⟩
  have hq2 := g2.at' HX.out.2.1
  have hp2 := g2.at' HX.out.1
  have HQ := Lib.hid (And.intro hp2 (And.intro hq2 (HX.out.2.2.1.trans g2)))
  have hs2 : w.heap.size + 1 + 1 ≤ w2.heap.size := by have := g2.sz; rw [HX.out.2.2.2] at this; exact this
  have HO := Lib.hid (olow hO (g1 := w.heap.size + 1 + 1) (fun g hg => by have := oge hO hg; rw [HX.out.2.2.2] at this; exact this))
  clear hO g2 HCl HX hq2 hp2
  go_wp2_with fail
  go_at_call 40
  refine (HWi.out _).mono ?_
  rintro e w3 ⟨pa, rfl, g3, hc3, hge⟩
  have HD := Lib.hid (dDelete (fun R => R.id == id) _ (w.heap.size + 1 + 1) v1 q w3 hl (onw HO.out g3) (Tells.withID hc3) (fun w4 hT => by
    refine Tells.withID ((hT.cell (World.block_lt_of_cell? _ _ hc3) (fun e => ?_)).trans hc3)
    have := olt HO.out e
    simp only at this hge
    omega))
  have HG3 := Lib.hid g3
  obtain ⟨a1, c1, hv1⟩ := (RqOwn.rd HO.out).form
  subst hv1
  clear g3 hc3 hge HWi
  go_wp2_with fail
  go_at_call 85
  refine HD.out.mono ?_
  rintro e w4 ⟨v4, rfl, hR, hcap, hfr, hT⟩
  have HR := Lib.hid (And.intro hR (And.intro hcap (show Fresh ((w.alloc (.cells #[.int .i64 t, .int .i64 r, .slice a q.length c, .int .i64 W] 26)).alloc (.cells #[.int .i64 0, .int .i64 0, .slice none 0 0, .int .i64 0] 26)) v4 (lvQ id q) from fun b o n c e => by
    rcases hfr b o n c e with h | h
    · have := oge HO.out h
      exact .inl (by simpa using this)
    · exact .inr h)))
  have HN := Lib.hid (nw_tch (HQ.out.2.2.trans HG3.out) hT (fun i e => by have := oge HO.out e; omega))
  have hpl3 : w.heap.size < w3.heap.size := by have := HG3.out.sz; omega
  have hpl3' : w.heap.size + 1 < w3.heap.size := by have := HG3.out.sz; omega
  have hp4 := (hT.block w.heap.size hpl3 (fun e => by have := oge HO.out e; omega)).trans (HG3.out.at' HQ.out.1)
  have hq4 := (hT.block (w.heap.size + 1) hpl3' (fun e => by have := oge HO.out e; omega)).trans (HG3.out.at' HQ.out.2.1)
  obtain ⟨a4, c4, hv4⟩ := hR.form
  obtain ⟨n4, hn4⟩ : ∃ n, (outQ (fun R => R.id == id) q).length = n := ⟨_, rfl⟩
  rw [hn4] at hv4
  subst hv4
  have c0 := hcell (j := 0) hp4
  have c1' := hcell (j := 1) hp4
  have c2 := hcell (j := 2) hp4
  have c3 := hcell (j := 3) hp4
  have fp := fun k => hfz (j := k) hp4
  have d0 := hcell (j := 0) hq4
  have d1 := hcell (j := 1) hq4
  have d2 := hcell (j := 2) hq4
  have d3 := hcell (j := 3) hq4
  have fz := fun k => hfz (j := k) hq4
  have hs4 := hlt hp4
  have hs5 := hlt hq4
  clear hp4 hq4 hT hR hcap hn4 hpl3 hpl3' HD HO HG3 HQ hs2
  go_wp2
  exact bodyPost_ret (v := .agg #[.int .i64 t, .int .i64 r, .slice a4 n4 c4, .int .i64 W]) (by simp only [results, Tryz.results55]; simp [go_sem, *]) rfl ⟨_, rfl, fill_nw (HN.out.st (Nat.le_refl _) _) (Nat.le_succ _) _ _ _ _, rd_fill (w0 := (w.alloc (.cells #[.int .i64 t, .int .i64 r, .slice a q.length c, .int .i64 W] 26)).alloc (.cells #[.int .i64 0, .int .i64 0, .slice none 0 0, .int .i64 0] 26)) (rd_st (w0 := (w.alloc (.cells #[.int .i64 t, .int .i64 r, .slice a q.length c, .int .i64 W] 26)).alloc (.cells #[.int .i64 0, .int .i64 0, .slice none 0 0, .int .i64 0] 26)) HR.out.1 HR.out.2.2 (p := ⟨w.heap.size, 2, none⟩) (by simp; omega) _) HR.out.2.2 (by simp) _ _ _ _, HR.out.2.1, fun b o n c e => (HR.out.2.2 b o n c e).imp (fun h => by simp at h; omega) (fun h => h)⟩
set_option maxRecDepth 100000 in
set_option maxHeartbeats 4000000 in
theorem dMode (t r W id : Int) (v : Value) (q : List Rq) (w : World) (hl : q.length ≤ 1000) (h : RqAt w v q) :
    Calls Tryz.prog 23 #[hdV t r v W, .int .i64 id] w fun e w' => e = .returned (.int .i64 (mdQ q id)) ∧ Nw w w' := by
  obtain ⟨M, hM⟩ : ∃ M, mdQ q id = M := ⟨_, rfl⟩
  rw [hM]
  obtain ⟨px, hpx⟩ : ∃ px, plc (fun R => R.txn == id) q = px := ⟨_, rfl⟩
  have hFi := fun (w1 : World) (g : Nw w w1) (f : Value) (hf : Tells w1 f (fun R => R.txn == id)) => dFind t r W v f _ q w1 hl (h.nw g) hf
  rw [hpx] at hFi
  have HAt := Lib.hid h
  obtain ⟨a, c, rfl, _⟩ := h
  unfold hdV at hFi ⊢
  have HFi := Lib.hid hFi
  clear hFi
  have HWi := Lib.hid (dOfTxn id)
  have hx1 := allocAt w (.cells #[.int .i64 t, .int .i64 r, .slice a q.length c, .int .i64 W] 26)
  have hx3 : Nw w (w.alloc (.cells #[.int .i64 t, .int .i64 r, .slice a q.length c, .int .i64 W] 26)) := (Nw.refl w).alloc _
  obtain ⟨w1, hw1⟩ : ∃ w1, w.alloc (.cells #[.int .i64 t, .int .i64 r, .slice a q.length c, .int .i64 W] 26) = w1 := ⟨_, rfl⟩
  rw [hw1] at hx1 hx3
  have HB1 := Lib.hid (And.intro hx1 hx3)
  have s0 : ∀ z, Nw w1 z → z.cell? ⟨w.heap.size, 0, none⟩ = some (.int .i64 t) := fun z hz => hz.kp (hcell (j := 0) hx1)
  have s1 : ∀ z, Nw w1 z → z.cell? ⟨w.heap.size, 1, none⟩ = some (.int .i64 r) := fun z hz => hz.kp (hcell (j := 1) hx1)
  have s2 : ∀ z, Nw w1 z → z.cell? ⟨w.heap.size, 2, none⟩ = some (.slice a q.length c) := fun z hz => hz.kp (hcell (j := 2) hx1)
  have s3 : ∀ z, Nw w1 z → z.cell? ⟨w.heap.size, 3, none⟩ = some (.int .i64 W) := fun z hz => hz.kp (hcell (j := 3) hx1)
  clear hx1 hx3
  have HW1 := Lib.hid hw1
  clear hw1
  have q1 := (Nw.refl w1).drew1
  obtain ⟨wc, hwc⟩ : ∃ wc, w1.drew = wc := ⟨_, rfl⟩
  go_enter Tryz.func23, Tryz.ntmps23
  go_wp2
  rw [HW1.out]
  refine region_told [some true, some true, some false, none, some false, none, some true] (Nw w1) (by kernel_rfl) (by kernel_rfl) (by kernel_rfl) q1 ?_
  rw [hwc] at q1 ⊢
  clear hwc
  repeat (first
    | (refine HW.off ?_)
    | (refine HW.take' ?_; (first | (refine ⟨undef, Or.inr ⟨by rfl, rfl⟩, ?_⟩) | (apply Exists.intro; refine ⟨Or.inl ⟨by rfl, ?_⟩, ?_⟩; (intro x hx; go_simp; first | done | with_reducible rfl))); (try simp only [Act.put, List.setIfInBounds_toArray, List.set_cons_zero, List.set_cons_succ]))
    | (refine HW.go (fun K hK => ?_); go_simp; (first
      | (go_at_call 41; (with_reducible refine (HWi.out _).mono ?_); rintro e wy ⟨pa, rfl, g2, hbx⟩; refine hK.out _ _ (q1.trans g2) ?_; intro _; replace q1 := q1.trans g2; clear hK K g2; replace hbx := Tells.ofTxn hbx)
      | (go_at_call 39; (with_reducible refine (HFi.out _ (HB1.out.2.trans q1) _ hbx).mono ?_); rintro e wy ⟨rfl, g2⟩; refine hK.out _ _ (q1.trans g2) ?_; intro _; replace q1 := q1.trans g2; clear hK K g2 hbx)
      | (refine hK.out _ _ q1 ?_; intro _; clear hK K))))
  refine HW.end_ ?_
  refine NoPanic.normal ?_
  have HN := Lib.hid (HB1.out.2.trans q1)
  have hp1 := q1.at' HB1.out.1
  have c2 := hcell (j := 2) hp1
  have hpl := hlt hp1
  rcases md_plc q id with ⟨e1, e2⟩ | ⟨k, e1, hk, e2⟩
  · obtain rfl := hpx.symm.trans e1
    obtain rfl := hM.symm.trans e2
    clear hpx hM e1 e2 s0 s1 s2 s3 HB1 HFi HWi HAt HW1 q1 hp1
    go_wp2
    go_ret
    exact ⟨rfl, HN.out⟩
  · obtain rfl := hpx.symm.trans e1
    rcases (HAt.out.nw HN.out) with ⟨a', c', e3, ⟨e4, _⟩ | ⟨b, o, e4, hc⟩⟩
    · subst e4; simp at hk
    simp only [Value.slice.injEq, true_and] at e3
    obtain ⟨rfl, rfl⟩ := e3
    subst e4
    have m2 := hc.cell k hk 2 _ rfl
    obtain rfl := hM.symm.trans e2
    have dk : ((k : Int) == -1) = false := by simp
    have hki : (k : Int) < (q.length : Int) := by omega
    clear hpx e1 e2 s0 s1 s2 s3 HB1 HFi HWi HAt HW1 q1 hp1 hc
    go_wp2
    go_ret
    exact ⟨rfl, HN.out⟩
set_option maxRecDepth 100000 in
set_option maxHeartbeats 4000000 in
theorem dFindQ (t r W id : Int) (v : Value) (q : List Rq) (w : World) (hl : q.length ≤ 1000) (h : RqAt w v q) :
    Calls Tryz.prog 21 #[hdV t r v W, .int .i64 id] w fun e w' => e = .returned (fndV q id) ∧ Nw w w' := by
  obtain ⟨V, hV⟩ : ∃ V, fndV q id = V := ⟨_, rfl⟩
  rw [hV]
  obtain ⟨px, hpx⟩ : ∃ px, plc (fun R => R.id == id) q = px := ⟨_, rfl⟩
  have hFi := fun (w1 : World) (g : Nw w w1) (f : Value) (hf : Tells w1 f (fun R => R.id == id)) => dFind t r W v f _ q w1 hl (h.nw g) hf
  rw [hpx] at hFi
  have HAt := Lib.hid h
  obtain ⟨a, c, rfl, _⟩ := h
  unfold hdV at hFi ⊢
  have HFi := Lib.hid hFi
  clear hFi
  have HWi := Lib.hid (dWithID id)
  obtain ⟨hx1, hx2, hx3, hx4⟩ := two_boxes w (.cells #[.int .i64 t, .int .i64 r, .slice a q.length c, .int .i64 W] 26) (.cells #[.int .i64 0, .int .i64 0, .int .i64 0, .int .i64 0, .int .i64 0] 42)
  obtain ⟨w1, hw1⟩ : ∃ w1, (w.alloc (.cells #[.int .i64 t, .int .i64 r, .slice a q.length c, .int .i64 W] 26)).alloc (.cells #[.int .i64 0, .int .i64 0, .int .i64 0, .int .i64 0, .int .i64 0] 42) = w1 := ⟨_, rfl⟩
  rw [hw1] at hx1 hx2 hx3
  have HB1 := Lib.hid (And.intro (And.intro hx1 hx2) hx3)
  have s0 : ∀ z, Nw w1 z → z.cell? ⟨w.heap.size, 0, none⟩ = some (.int .i64 t) := fun z hz => hz.kp (hcell (j := 0) hx1)
  have s1 : ∀ z, Nw w1 z → z.cell? ⟨w.heap.size, 1, none⟩ = some (.int .i64 r) := fun z hz => hz.kp (hcell (j := 1) hx1)
  have s2 : ∀ z, Nw w1 z → z.cell? ⟨w.heap.size, 2, none⟩ = some (.slice a q.length c) := fun z hz => hz.kp (hcell (j := 2) hx1)
  have s3 : ∀ z, Nw w1 z → z.cell? ⟨w.heap.size, 3, none⟩ = some (.int .i64 W) := fun z hz => hz.kp (hcell (j := 3) hx1)
  clear hx1 hx2 hx3 hx4
  have HW1 := Lib.hid hw1
  clear hw1
  have q1 := (Nw.refl w1).drew1
  obtain ⟨wc, hwc⟩ : ∃ wc, w1.drew = wc := ⟨_, rfl⟩
  go_enter Tryz.func21, Tryz.ntmps21
  go_wp2
  rw [HW1.out]
  refine region_told [some true, some true, some false, none, some false, none, some true] (Nw w1) (by kernel_rfl) (by kernel_rfl) (by kernel_rfl) q1 ?_
  rw [hwc] at q1 ⊢
  clear hwc
  repeat (first
    | (refine HW.off ?_)
    | (refine HW.take' ?_; (first | (refine ⟨undef, Or.inr ⟨by rfl, rfl⟩, ?_⟩) | (apply Exists.intro; refine ⟨Or.inl ⟨by rfl, ?_⟩, ?_⟩; (intro x hx; go_simp; first | done | with_reducible rfl))); (try simp only [Act.put, List.setIfInBounds_toArray, List.set_cons_zero, List.set_cons_succ]))
    | (refine HW.go (fun K hK => ?_); go_simp; (first
      | (go_at_call 40; (with_reducible refine (HWi.out _).mono ?_); rintro e wy ⟨pa, rfl, g2, hbx⟩; refine hK.out _ _ (q1.trans g2) ?_; intro _; replace q1 := q1.trans g2; clear hK K g2; replace hbx := Tells.withID hbx)
      | (go_at_call 39; (with_reducible refine (HFi.out _ (HB1.out.2.trans q1) _ hbx).mono ?_); rintro e wy ⟨rfl, g2⟩; refine hK.out _ _ (q1.trans g2) ?_; intro _; replace q1 := q1.trans g2; clear hK K g2 hbx)
      | (refine hK.out _ _ q1 ?_; intro _; clear hK K))))
  refine HW.end_ ?_
  refine NoPanic.normal ?_
  have HN := Lib.hid (HB1.out.2.trans q1)
  have hp1 := q1.at' HB1.out.1.1
  have hq1 := q1.at' HB1.out.1.2
  have c0 := hcell (j := 0) hp1
  have c1 := hcell (j := 1) hp1
  have c2 := hcell (j := 2) hp1
  have c3 := hcell (j := 3) hp1
  have hpl := hlt hp1
  have d0 := hcell (j := 0) hq1
  have d1 := hcell (j := 1) hq1
  have d2 := hcell (j := 2) hq1
  have d3 := hcell (j := 3) hq1
  have d4 := hcell (j := 4) hq1
  have fz := fun k => hfz (j := k) hq1
  have hsl2 := hlt hq1
  rcases at_plc q id with ⟨e1, hf⟩ | ⟨k, e1, hk, hf⟩
  · obtain rfl := hpx.symm.trans e1
    have HF := Lib.hid (hV.symm.trans (show fndV q id = .tuple #[rqV ⟨0, 0, 0, 0, 0⟩, .bool false] by unfold fndV; rw [hf]))
    clear hpx hV e1 hf s0 s1 s2 s3 HB1 HFi HWi HAt HW1 q1 hp1 hq1
    go_wp2
    refine bodyPost_ret (v := .tuple #[.agg #[.int .i64 0, .int .i64 0, .int .i64 0, .int .i64 0, .int .i64 0], .bool false]) (by simp only [results, Tryz.results21]; simp [go_sem, *]) rfl ⟨by rw [HF.out]; rfl, ?_⟩
    exact ((((HN.out.st (Nat.le_succ _) _).st (Nat.le_succ _) _).st (Nat.le_succ _) _).st (Nat.le_succ _) _).st (Nat.le_succ _) _
  · obtain rfl := hpx.symm.trans e1
    rcases (HAt.out.nw HN.out) with ⟨a', c', e3, ⟨e4, _⟩ | ⟨b, o, e4, hc⟩⟩
    · subst e4; simp at hk
    simp only [Value.slice.injEq, true_and] at e3
    obtain ⟨rfl, rfl⟩ := e3
    subst e4
    have hce := hc.cell k hk
    have dk : ((k : Int) == -1) = false := by simp
    have hki : (k : Int) < (q.length : Int) := by omega
    have HF := Lib.hid (hV.symm.trans (show fndV q id = .tuple #[rqV q[k], .bool true] by unfold fndV; rw [hf]))
    clear hpx hV e1 hf s0 s1 s2 s3 HB1 HFi HWi HAt HW1 q1 hp1 hq1 hc
    generalize q[k] = R at *
    obtain ⟨b0, b1, b2, b3, b4⟩ := R
    have m0 := hce 0 _ rfl
    have m1 := hce 1 _ rfl
    have m2 := hce 2 _ rfl
    have m3 := hce 3 _ rfl
    have m4 := hce 4 _ rfl
    simp only [Nat.add_zero] at m0
    clear hce
    go_wp2
    refine bodyPost_ret (v := .tuple #[.agg #[.int .i64 b0, .int .i64 b1, .int .i64 b2, .int .i64 b3, .int .i64 b4], .bool true]) (by simp only [results, Tryz.results21]; simp [go_sem, *]) rfl ⟨by rw [HF.out]; rfl, ?_⟩
    exact ((((HN.out.st (Nat.le_succ _) _).st (Nat.le_succ _) _).st (Nat.le_succ _) _).st (Nat.le_succ _) _).st (Nat.le_succ _) _
set_option maxRecDepth 100000 in
set_option maxHeartbeats 4000000 in
theorem dLeave (t r W id : Int) (v : Value) (q : List Rq) (w : World) (hl : q.length ≤ 1000) (h : RqAt w v q) :
    Calls Tryz.prog 15 #[hdV t r v W, .int .i64 id] w (HD1 (lvR ⟨t, r, W, q⟩ id) w) := by
  obtain ⟨X, hX⟩ : ∃ X, lvR ⟨t, r, W, q⟩ id = X := ⟨_, rfl⟩
  rw [hX]
  unfold HD1
  have HWo := Lib.hid (fun (w1 : World) (g : Nw w w1) => dWithout t r W id v q w1 hl (h.nw g))
  unfold hdV at HWo
  obtain ⟨px, hpx⟩ : ∃ px, plc (fun R => R.id == id) q = px := ⟨_, rfl⟩
  have hFi := fun (w1 : World) (g : Nw w w1) (f : Value) (hf : Tells w1 f (fun R => R.id == id)) => dFind t r W v f _ q w1 hl (h.nw g) hf
  rw [hpx] at hFi
  have HAt := Lib.hid h
  obtain ⟨a, c, rfl, _⟩ := h
  unfold hdV at hFi ⊢
  have HFi := Lib.hid hFi
  clear hFi
  have HWi := Lib.hid (dWithID id)
  obtain ⟨hx1, hx2, hx3, hx4⟩ := two_boxes w (.cells #[.int .i64 t, .int .i64 r, .slice a q.length c, .int .i64 W] 26) (.cells #[.int .i64 0, .int .i64 0, .slice none 0 0, .int .i64 0] 26)
  obtain ⟨w1, hw1⟩ : ∃ w1, (w.alloc (.cells #[.int .i64 t, .int .i64 r, .slice a q.length c, .int .i64 W] 26)).alloc (.cells #[.int .i64 0, .int .i64 0, .slice none 0 0, .int .i64 0] 26) = w1 := ⟨_, rfl⟩
  rw [hw1] at hx1 hx2 hx3
  have HB1 := Lib.hid (And.intro (And.intro hx1 hx2) hx3)
  have s0 : ∀ z, Nw w1 z → z.cell? ⟨w.heap.size, 0, none⟩ = some (.int .i64 t) := fun z hz => hz.kp (hcell (j := 0) hx1)
  have s1 : ∀ z, Nw w1 z → z.cell? ⟨w.heap.size, 1, none⟩ = some (.int .i64 r) := fun z hz => hz.kp (hcell (j := 1) hx1)
  have s2 : ∀ z, Nw w1 z → z.cell? ⟨w.heap.size, 2, none⟩ = some (.slice a q.length c) := fun z hz => hz.kp (hcell (j := 2) hx1)
  have s3 : ∀ z, Nw w1 z → z.cell? ⟨w.heap.size, 3, none⟩ = some (.int .i64 W) := fun z hz => hz.kp (hcell (j := 3) hx1)
  clear hx1 hx2 hx3 hx4
  have HW1 := Lib.hid hw1
  clear hw1
  have q1 := (Nw.refl w1).drew1
  obtain ⟨wc, hwc⟩ : ∃ wc, w1.drew = wc := ⟨_, rfl⟩
  go_enter Tryz.func15, Tryz.ntmps15
  go_wp2
  rw [HW1.out]
  refine region_told [some true, some true, some false, none, some false, none, some true] (Nw w1) (by kernel_rfl) (by kernel_rfl) (by kernel_rfl) q1 ?_
  rw [hwc] at q1 ⊢
  clear hwc
  repeat (first
    | (refine HW.off ?_)
    | (refine HW.take' ?_; (first | (refine ⟨undef, Or.inr ⟨by rfl, rfl⟩, ?_⟩) | (apply Exists.intro; refine ⟨Or.inl ⟨by rfl, ?_⟩, ?_⟩; (intro x hx; go_simp; first | done | with_reducible rfl))); (try simp only [Act.put, List.setIfInBounds_toArray, List.set_cons_zero, List.set_cons_succ]))
    | (refine HW.go (fun K hK => ?_); go_simp; (first
      | (go_at_call 40; (with_reducible refine (HWi.out _).mono ?_); rintro e wy ⟨pa, rfl, g2, hbx⟩; refine hK.out _ _ (q1.trans g2) ?_; intro _; replace q1 := q1.trans g2; clear hK K g2; replace hbx := Tells.withID hbx)
      | (go_at_call 39; (with_reducible refine (HFi.out _ (HB1.out.2.trans q1) _ hbx).mono ?_); rintro e wy ⟨rfl, g2⟩; refine hK.out _ _ (q1.trans g2) ?_; intro _; replace q1 := q1.trans g2; clear hK K g2 hbx)
      | (refine hK.out _ _ q1 ?_; intro _; clear hK K))))
  refine HW.end_ ?_
  refine NoPanic.normal ?_
  have HN := Lib.hid (HB1.out.2.trans q1)
  have hp1 := q1.at' HB1.out.1.1
  have hq1 := q1.at' HB1.out.1.2
  have c0 := hcell (j := 0) hp1
  have c1 := hcell (j := 1) hp1
  have c2 := hcell (j := 2) hp1
  have c3 := hcell (j := 3) hp1
  have hpl := hlt hp1
  rcases at_plc q id with ⟨e1, hf⟩ | ⟨k, e1, hk, hf⟩
  · obtain rfl := hpx.symm.trans e1
    have hR := hX.symm.trans (show lvR ⟨t, r, W, q⟩ id = (noH, 5) by unfold lvR; rw [hf])
    subst hR
    have d0 := hcell (j := 0) hq1
    have d1 := hcell (j := 1) hq1
    have d2 := hcell (j := 2) hq1
    have d3 := hcell (j := 3) hq1
    have fz := fun k => hfz (j := k) hq1
    have hsl2 := hlt hq1
    clear hpx hX e1 hf s0 s1 s2 s3 HB1 HFi HWi HAt HW1 q1 hp1 hq1 HWo
    go_wp2
    exact bodyPost_ret (v := .tuple #[.agg #[.int .i64 0, .int .i64 0, .slice none 0 0, .int .i64 0], .int .i64 5]) (by simp only [results, Tryz.results15]; simp [go_sem, *]) rfl ⟨_, rfl, fill_nw HN.out (Nat.le_succ _) _ _ _ _, Rd.nil _, Nat.le_refl _, Fresh.nil _ _⟩
  · obtain rfl := hpx.symm.trans e1
    have dk : ((k : Int) == -1) = false := by simp
    have hR := hX.symm.trans (show lvR ⟨t, r, W, q⟩ id = (⟨t, r, W, lvQ id q⟩, 0) by unfold lvR; rw [hf])
    subst hR
    have HQ := Lib.hid hq1
    have HWo2 := Lib.hid (HWo.out _ HN.out)
    clear hpx hX e1 hf s0 s1 s2 s3 HB1 HFi HWi HAt HW1 q1 hp1 hq1 HWo
    go_wp2_with fail
    go_at_call 55
    refine HWo2.out.mono ?_
    rintro e w2 ⟨v2, rfl, g2, hR, hcap, hfr⟩
    have hs := Lib.hid (hlt HQ.out)
    have hq2 := g2.at' HQ.out
    have HR := Lib.hid (And.intro hR (And.intro hcap hfr))
    have HN2 := Lib.hid (HN.out.trans g2)
    have HN1 := Lib.hid HN.out
    obtain ⟨a2, k2, hv2⟩ := hR.form
    obtain ⟨n2, hn2⟩ : ∃ n, (lvQ id q).length = n := ⟨_, rfl⟩
    rw [hn2] at hv2
    subst hv2
    have d0 := hcell (j := 0) hq2
    have d1 := hcell (j := 1) hq2
    have d2 := hcell (j := 2) hq2
    have d3 := hcell (j := 3) hq2
    have fz := fun k => hfz (j := k) hq2
    have hsl2 := hlt hq2
    clear hq2 hR hcap hfr g2 hn2 HQ HWo2 HN
    go_wp2
    exact bodyPost_ret (v := .tuple #[.agg #[.int .i64 t, .int .i64 r, .slice a2 n2 k2, .int .i64 W], .int .i64 0]) (by simp only [results, Tryz.results15]; simp [go_sem, *]) rfl ⟨_, rfl, fill_nw HN2.out (Nat.le_succ _) _ _ _ _, rd_fill HR.out.1 HR.out.2.2 hs.out _ _ _ _, HR.out.2.1, HR.out.2.2.old HN1.out⟩
end Go.Proofs.YtmciiobncfchlaaGreat
end

/- Law 9: empty, lives; the kit's LightHeads. -/
section
namespace Go.Proofs.YtmciiobncfchlaaGreat
open Go.RowKit
set_option linter.unusedVariables false      -- a contract need not use every name

theorem stOk_small (q : List Rq) (h : q.length ≤ 20) : StOk (tC q) (wpl q q.length) := stOk_20 _ _ (Nat.le_trans (wpl_len q _) h)
/-- A head in a box. -/
def HB (w : World) (B : Nat) (t r : Int) (v : Value) (W : Int) : Prop := w.heap[B]? = some (.cells #[.int .i64 t, .int .i64 r, v, .int .i64 W] 26)
abbrev filld (w : World) (B : Nat) (u0 u1 u2 u3 : Value) : World := (((w.setCell ⟨B, 0, none⟩ u0).setCell ⟨B, 1, none⟩ u1).setCell ⟨B, 2, none⟩ u2).setCell ⟨B, 3, none⟩ u3
theorem HB.fill {w : World} {B : Nat} {t r W : Int} {v : Value} (h : HB w B t r v W) (t' r' W' : Int) (v' : Value) : HB (filld w B (.int .i64 t') (.int .i64 r') v' (.int .i64 W')) B t' r' v' W' :=
  hset (j := 3) _ (hset (j := 2) _ (hset (j := 1) _ (hset (j := 0) _ h)))
theorem HB.made (w : World) (t r : Int) (v : Value) (W : Int) : HB (w.alloc (.cells #[.int .i64 t, .int .i64 r, v, .int .i64 W] 26)) w.heap.size t r v W := allocAt w _
theorem HB.nw {w w' : World} {B : Nat} {t r W : Int} {v : Value} (h : HB w B t r v W) (g : Nw w w') : HB w' B t r v W := g.at' h
/-- A result stored in a box that is older. -/
theorem is_one (w : World) (x : Int) : IS (w.alloc (.cells #[.int .i64 x] 3)) (.slice (some ⟨w.heap.size, 0, none⟩) 1 1) [x] := by
  have h := World.ownsRow_lit (base := 0) (size := 1) (e := 3) w #[.int .i64 x] 1 (Nat.zero_le _) (by unfold maxLen; omega) (by simp)
  unfold IS
  simpa using h
theorem rd_fill' {w0 w : World} {v : Value} {q : List Rq} (h : RqAt w v q) (hf : Fresh w0 v q) {B : Nat} (hB : B < w0.heap.size) (u0 u1 u2 u3 : Value) : RqAt (filld w B u0 u1 u2 u3) v q := rd_fill h hf hB u0 u1 u2 u3
set_option maxRecDepth 100000 in
theorem kT (x : Int) (w : World) : Calls Tryz.prog 66 #[.int .i64 x] w fun e w' => e = .returned (.agg #[.int .i64 x, .int .i64 (-1)]) ∧ Nw w w' := by
  go_enter Tryz.func66, Tryz.ntmps66
  go_wp2
  refine bodyPost_ret (v := .agg #[.int .i64 x, .int .i64 (-1)]) (by simp [results, Tryz.results66, go_sem, *]) rfl ⟨rfl, ?_⟩
  exact (Nw.refl w).alloc _
set_option maxRecDepth 100000 in
theorem lEmpty (w : World) : Calls Tryz.prog 30 #[] w fun e w' => e = .returned (hdV 0 (-1) (.slice none 0 0) 0) ∧ Nw w w' := by
  have HT := Lib.hid (kT 0)
  have hb := HB.made w 0 0 (.slice none 0 0) 0
  have hN : Nw w (w.alloc (.cells #[.int .i64 0, .int .i64 0, .slice none 0 0, .int .i64 0] 26)) := (Nw.refl w).alloc _
  go_enter Tryz.func30, Tryz.ntmps30
  go_wp2_with fail
  go_at_call 66
  refine (HT.out _).mono ?_
  rintro e w1 ⟨rfl, g⟩
  have hb1 := hb.nw g
  have d0 := hcell (j := 0) hb1
  have d1 := hcell (j := 1) hb1
  have d2 := hcell (j := 2) hb1
  have d3 := hcell (j := 3) hb1
  have fz := fun k => hfz (j := k) hb1
  have hl := hlt hb1
  have HN := Lib.hid (hN.trans g)
  clear hb hb1 g hN HT
  go_wp2
  exact bodyPost_ret (v := .agg #[.int .i64 0, .int .i64 (-1), .slice none 0 0, .int .i64 0]) (by simp [results, Tryz.results30, go_sem, *]) rfl ⟨rfl, fill_nw HN.out (Nat.le_refl _) _ _ _ _⟩
theorem lq0 : Ok 0 [] := (okQ_iff 0 []).1 (by kernel_rfl)
theorem lq1 : Ok 0 [⟨0, 1, 3, 3, 0⟩] := (okQ_iff 0 [⟨0, 1, 3, 3, 0⟩]).1 (by kernel_rfl)
theorem lq2 : Ok 1 [⟨0, 1, 3, 3, 0⟩, ⟨1, 2, 0, 6, 1⟩] := (okQ_iff 1 [⟨0, 1, 3, 3, 0⟩, ⟨1, 2, 0, 6, 1⟩]).1 (by kernel_rfl)
theorem lq3 : Ok 2 [⟨0, 1, 3, 3, 0⟩, ⟨1, 2, 0, 6, 1⟩, ⟨2, 3, 0, 3, 2⟩] := (okQ_iff 2 [⟨0, 1, 3, 3, 0⟩, ⟨1, 2, 0, 6, 1⟩, ⟨2, 3, 0, 3, 2⟩]).1 (by kernel_rfl)
theorem lq4 : Ok 2 [⟨1, 2, 0, 6, 1⟩, ⟨2, 3, 0, 3, 2⟩] := (okQ_iff 2 [⟨1, 2, 0, 6, 1⟩, ⟨2, 3, 0, 3, 2⟩]).1 (by kernel_rfl)
theorem la0 : askR ⟨0, -1, 0, []⟩ 0 1 3 = (⟨0, -1, 0, [⟨0, 1, 3, 3, 0⟩]⟩, true, 0) := by kernel_rfl
theorem la1 : askR ⟨0, -1, 0, [⟨0, 1, 3, 3, 0⟩]⟩ 1 2 6 = (⟨0, -1, 1, [⟨0, 1, 3, 3, 0⟩, ⟨1, 2, 0, 6, 1⟩]⟩, false, 0) := by kernel_rfl
theorem la2 : askR ⟨0, -1, 1, [⟨0, 1, 3, 3, 0⟩, ⟨1, 2, 0, 6, 1⟩]⟩ 2 3 3 = (⟨0, -1, 2, [⟨0, 1, 3, 3, 0⟩, ⟨1, 2, 0, 6, 1⟩, ⟨2, 3, 0, 3, 2⟩]⟩, false, 0) := by kernel_rfl
theorem ll3 : lvR ⟨0, -1, 2, [⟨0, 1, 3, 3, 0⟩, ⟨1, 2, 0, 6, 1⟩, ⟨2, 3, 0, 3, 2⟩]⟩ 0 = (⟨0, -1, 2, [⟨1, 2, 0, 6, 1⟩, ⟨2, 3, 0, 3, 2⟩]⟩, 0) := by kernel_rfl
theorem ls4 : scanQ [⟨1, 2, 0, 6, 1⟩, ⟨2, 3, 0, 3, 2⟩] = ([1], [⟨1, 2, 6, 6, 0⟩, ⟨2, 3, 0, 3, 2⟩]) := by kernel_rfl
theorem lm5 : mdQ [⟨1, 2, 6, 6, 0⟩, ⟨2, 3, 0, 3, 2⟩] 2 = 6 ∧ mdQ [⟨1, 2, 6, 6, 0⟩, ⟨2, 3, 0, 3, 2⟩] 3 = 0 := ⟨by kernel_rfl, by kernel_rfl⟩
set_option maxRecDepth 100000 in
set_option maxHeartbeats 8000000 in
theorem lives_ok (w : World) : Calls Tryz.prog 4 #[] w fun e w' => e = .returned (.bool true) ∧ Nw w w' := by
  have HEm := Lib.hid lEmpty
  have HA0 := Lib.hid (fun w => dAsk 0 (-1) 0 0 1 3 (.slice none 0 0) [] w (by simp) lq0 (Rd.nil w))
  unfold HD2 at HA0
  rw [la0] at HA0
  unfold hdV at HEm HA0
  go_enter Tryz.func4, Tryz.ntmps4
  go_wp2_with fail
  go_at_call 30
  refine (HEm.out _).mono ?_
  rintro e w1 ⟨rfl, g1⟩
  go_wp2_with fail
  go_at_call 10
  refine (HA0.out _).mono ?_
  rintro e w2 ⟨v, rfl, g2, hR, _, hf⟩
  obtain ⟨a, k, hv⟩ := hR.form
  simp only [List.length_cons, List.length_nil, Nat.reduceAdd] at hv
  subst hv
  have hb := HB.made w2 0 (-1) (.slice a 1 k) 0
  have hN : Nw w (w2.alloc (.cells #[.int .i64 0, .int .i64 (-1), .slice a 1 k, .int .i64 0] 26)) := (g1.trans g2).alloc _
  replace hR := hR.nw ((Nw.refl w2).alloc (.cells #[.int .i64 0, .int .i64 (-1), .slice a 1 k, .int .i64 0] 26))
  obtain ⟨B, hB⟩ : ∃ B, w2.heap.size = B := ⟨_, rfl⟩
  have hBw : w.heap.size ≤ B := by rw [← hB]; exact (g1.trans g2).sz
  rw [hB] at hb
  have HW := Lib.hid hB
  obtain ⟨u1, hw3⟩ : ∃ u1, w2.alloc (.cells #[.int .i64 0, .int .i64 (-1), .slice a 1 k, .int .i64 0] 26) = u1 := ⟨_, rfl⟩
  have HW3 := Lib.hid hw3
  rw [hw3] at hb hN hR
  have H1 := Lib.hid (And.intro hb (And.intro hN hR))
  clear hB hw3 hf g1 g2 hb hN hR
  have HC1 := Lib.hid (dAsk 0 (-1) 0 1 2 6 (.slice a 1 k) [⟨0, 1, 3, 3, 0⟩] u1 (by simp) lq1 H1.out.2.2)
  unfold HD2 at HC1
  rw [la1] at HC1
  unfold hdV at HC1
  have c0 := hcell (j := 0) H1.out.1
  have c1 := hcell (j := 1) H1.out.1
  have c2 := hcell (j := 2) H1.out.1
  have c3 := hcell (j := 3) H1.out.1
  have hl := hlt H1.out.1
  go_wp2_with fail
  rw [HW3.out, HW.out]
  go_wp2_with fail
  go_at_call 10
  refine HC1.out.mono ?_
  rintro e u1' ⟨v, rfl, gg, hR, _, hf⟩
  clear c0 c1 c2 c3 hl
  have hb1 := H1.out.1.nw gg
  obtain ⟨a2, k2, hv⟩ := hR.form
  simp only [List.length_cons, List.length_nil, Nat.reduceAdd] at hv
  subst hv
  have d0 := hcell (j := 0) hb1
  have d1 := hcell (j := 1) hb1
  have d2 := hcell (j := 2) hb1
  have d3 := hcell (j := 3) hb1
  have dz := fun k => hfz (j := k) hb1
  have dl := hlt hb1
  obtain ⟨u2, hu2⟩ : ∃ x, filld u1' B (.int .i64 0) (.int .i64 (-1)) (.slice a2 2 k2) (.int .i64 1) = x := ⟨_, rfl⟩
  have H2 := Lib.hid (And.intro (hb1.fill 0 (-1) 1 (.slice a2 2 k2)) (And.intro (fill_nw (H1.out.2.1.trans gg) hBw (.int .i64 0) (.int .i64 (-1)) (.slice a2 2 k2) (.int .i64 1)) (rd_fill' hR hf (hlt H1.out.1) (.int .i64 0) (.int .i64 (-1)) (.slice a2 2 k2) (.int .i64 1))))
  change Hid (HB (filld u1' B (.int .i64 0) (.int .i64 (-1)) (.slice a2 2 k2) (.int .i64 1)) B 0 (-1) (.slice a2 2 k2) 1 ∧ Nw w (filld u1' B (.int .i64 0) (.int .i64 (-1)) (.slice a2 2 k2) (.int .i64 1)) ∧ RqAt (filld u1' B (.int .i64 0) (.int .i64 (-1)) (.slice a2 2 k2) (.int .i64 1)) (.slice a2 2 k2) _) at H2
  rw [hu2] at H2
  have HE2 := Lib.hid hu2
  clear hb1
  clear hu2 gg hR hf HC1
  have HC2 := Lib.hid (dAsk 0 (-1) 1 2 3 3 (.slice a2 2 k2) [⟨0, 1, 3, 3, 0⟩, ⟨1, 2, 0, 6, 1⟩] u2 (by simp) lq2 H2.out.2.2)
  unfold HD2 at HC2
  rw [la2] at HC2
  unfold hdV at HC2
  have c0 := hcell (j := 0) H2.out.1
  have c1 := hcell (j := 1) H2.out.1
  have c2 := hcell (j := 2) H2.out.1
  have c3 := hcell (j := 3) H2.out.1
  have hl := hlt H2.out.1
  go_wp2_with fail
  have hE := HE2.out; unfold filld at hE; rw [hE]; clear hE d0 d1 d2 d3 dz dl
  go_wp2_with fail
  go_at_call 10
  refine HC2.out.mono ?_
  rintro e u2' ⟨v, rfl, gg, hR, _, hf⟩
  clear c0 c1 c2 c3 hl
  have hb2 := H2.out.1.nw gg
  obtain ⟨a3, k3, hv⟩ := hR.form
  simp only [List.length_cons, List.length_nil, Nat.reduceAdd] at hv
  subst hv
  have d0 := hcell (j := 0) hb2
  have d1 := hcell (j := 1) hb2
  have d2 := hcell (j := 2) hb2
  have d3 := hcell (j := 3) hb2
  have dz := fun k => hfz (j := k) hb2
  have dl := hlt hb2
  obtain ⟨u3, hu3⟩ : ∃ x, filld u2' B (.int .i64 0) (.int .i64 (-1)) (.slice a3 3 k3) (.int .i64 2) = x := ⟨_, rfl⟩
  have H3 := Lib.hid (And.intro (hb2.fill 0 (-1) 2 (.slice a3 3 k3)) (And.intro (fill_nw (H2.out.2.1.trans gg) hBw (.int .i64 0) (.int .i64 (-1)) (.slice a3 3 k3) (.int .i64 2)) (rd_fill' hR hf (hlt H2.out.1) (.int .i64 0) (.int .i64 (-1)) (.slice a3 3 k3) (.int .i64 2))))
  change Hid (HB (filld u2' B (.int .i64 0) (.int .i64 (-1)) (.slice a3 3 k3) (.int .i64 2)) B 0 (-1) (.slice a3 3 k3) 2 ∧ Nw w (filld u2' B (.int .i64 0) (.int .i64 (-1)) (.slice a3 3 k3) (.int .i64 2)) ∧ RqAt (filld u2' B (.int .i64 0) (.int .i64 (-1)) (.slice a3 3 k3) (.int .i64 2)) (.slice a3 3 k3) _) at H3
  rw [hu3] at H3
  have HE3 := Lib.hid hu3
  clear hb2
  clear hu3 gg hR hf HC2
  have HC3 := Lib.hid (dLeave 0 (-1) 2 0 (.slice a3 3 k3) [⟨0, 1, 3, 3, 0⟩, ⟨1, 2, 0, 6, 1⟩, ⟨2, 3, 0, 3, 2⟩] u3 (by simp) H3.out.2.2)
  unfold HD1 at HC3
  rw [ll3] at HC3
  unfold hdV at HC3
  have c0 := hcell (j := 0) H3.out.1
  have c1 := hcell (j := 1) H3.out.1
  have c2 := hcell (j := 2) H3.out.1
  have c3 := hcell (j := 3) H3.out.1
  have hl := hlt H3.out.1
  go_wp2_with fail
  have hE := HE3.out; unfold filld at hE; rw [hE]; clear hE d0 d1 d2 d3 dz dl
  go_wp2_with fail
  go_at_call 15
  refine HC3.out.mono ?_
  rintro e u3' ⟨v, rfl, gg, hR, _, hf⟩
  clear c0 c1 c2 c3 hl
  have hb3 := H3.out.1.nw gg
  obtain ⟨a4, k4, hv⟩ := hR.form
  simp only [List.length_cons, List.length_nil, Nat.reduceAdd] at hv
  subst hv
  have d0 := hcell (j := 0) hb3
  have d1 := hcell (j := 1) hb3
  have d2 := hcell (j := 2) hb3
  have d3 := hcell (j := 3) hb3
  have dz := fun k => hfz (j := k) hb3
  have dl := hlt hb3
  obtain ⟨u4, hu4⟩ : ∃ x, filld u3' B (.int .i64 0) (.int .i64 (-1)) (.slice a4 2 k4) (.int .i64 2) = x := ⟨_, rfl⟩
  have H4 := Lib.hid (And.intro (hb3.fill 0 (-1) 2 (.slice a4 2 k4)) (And.intro (fill_nw (H3.out.2.1.trans gg) hBw (.int .i64 0) (.int .i64 (-1)) (.slice a4 2 k4) (.int .i64 2)) (rd_fill' hR hf (hlt H3.out.1) (.int .i64 0) (.int .i64 (-1)) (.slice a4 2 k4) (.int .i64 2))))
  change Hid (HB (filld u3' B (.int .i64 0) (.int .i64 (-1)) (.slice a4 2 k4) (.int .i64 2)) B 0 (-1) (.slice a4 2 k4) 2 ∧ Nw w (filld u3' B (.int .i64 0) (.int .i64 (-1)) (.slice a4 2 k4) (.int .i64 2)) ∧ RqAt (filld u3' B (.int .i64 0) (.int .i64 (-1)) (.slice a4 2 k4) (.int .i64 2)) (.slice a4 2 k4) _) at H4
  rw [hu4] at H4
  have HE4 := Lib.hid hu4
  clear hb3
  clear hu4 gg hR hf HC3
  have HC4 := Lib.hid (dScan 0 (-1) 2 (.slice a4 2 k4) [⟨1, 2, 0, 6, 1⟩, ⟨2, 3, 0, 3, 2⟩] u4 (by simp) lq4 H4.out.2.2 (stOk_small [⟨1, 2, 0, 6, 1⟩, ⟨2, 3, 0, 3, 2⟩] (by simp)))
  simp only [ls4] at HC4
  unfold hdV at HC4
  have c0 := hcell (j := 0) H4.out.1
  have c1 := hcell (j := 1) H4.out.1
  have c2 := hcell (j := 2) H4.out.1
  have c3 := hcell (j := 3) H4.out.1
  have hl := hlt H4.out.1
  go_wp2_with fail
  have hE := HE4.out; unfold filld at hE; rw [hE]; clear hE d0 d1 d2 d3 dz dl
  go_wp2_with fail
  go_at_call 31
  refine HC4.out.mono ?_
  rintro e u4' ⟨v, vi, rfl, gg, hR, _, hI, hf, hif⟩
  clear c0 c1 c2 c3 hl
  have hb4 := H4.out.1.nw gg
  obtain ⟨a5, k5, hv⟩ := hR.form
  simp only [List.length_cons, List.length_nil, Nat.reduceAdd] at hv
  subst hv
  have d0 := hcell (j := 0) hb4
  have d1 := hcell (j := 1) hb4
  have d2 := hcell (j := 2) hb4
  have d3 := hcell (j := 3) hb4
  have dz := fun k => hfz (j := k) hb4
  have dl := hlt hb4
  obtain ⟨u5, hu5⟩ : ∃ x, filld u4' B (.int .i64 0) (.int .i64 (-1)) (.slice a5 2 k5) (.int .i64 2) = x := ⟨_, rfl⟩
  have H5 := Lib.hid (And.intro (hb4.fill 0 (-1) 2 (.slice a5 2 k5)) (And.intro (fill_nw (H4.out.2.1.trans gg) hBw (.int .i64 0) (.int .i64 (-1)) (.slice a5 2 k5) (.int .i64 2)) (rd_fill' hR hf (hlt H4.out.1) (.int .i64 0) (.int .i64 (-1)) (.slice a5 2 k5) (.int .i64 2))))
  change Hid (HB (filld u4' B (.int .i64 0) (.int .i64 (-1)) (.slice a5 2 k5) (.int .i64 2)) B 0 (-1) (.slice a5 2 k5) 2 ∧ Nw w (filld u4' B (.int .i64 0) (.int .i64 (-1)) (.slice a5 2 k5) (.int .i64 2)) ∧ RqAt (filld u4' B (.int .i64 0) (.int .i64 (-1)) (.slice a5 2 k5) (.int .i64 2)) (.slice a5 2 k5) _) at H5
  rw [hu5] at H5
  have HE5 := Lib.hid hu5
  clear hb4
  have HI := Lib.hid (And.intro hI (And.intro hif (hlt H4.out.1)))
  clear hu5 gg hR hf HC4 hI hif
  have hI5 : IS u5 vi [1] := by
    rw [← HE5.out]
    exact is_fill HI.out.1 (fun g e => by have := HI.out.2.1 g e; have := HI.out.2.2; omega) _ _ _ _
  obtain ⟨ai, ci, hvi, _⟩ := HI.out.1.box
  subst hvi
  simp only [List.length_cons, List.length_nil, Nat.reduceAdd] at hI5
  have hI6 := hI5.nw ((Nw.refl u5).alloc (.cells #[.int .i64 1] 3))
  have hI7 : IS (u5.alloc (.cells #[.int .i64 1] 3)) (.slice (some ⟨u5.heap.size, 0, none⟩) 1 1) [1] := is_one u5 1
  have HSm := Lib.hid (same_any _ _ _ [1] hI6 hI7)
  have HMo := Lib.hid (fun (x : World) (g : Nw u5 x) (t : Int) => dMode 0 (-1) 2 t (.slice a5 2 k5) [⟨1, 2, 6, 6, 0⟩, ⟨2, 3, 0, 3, 2⟩] x (by simp) (H5.out.2.2.nw g))
  unfold hdV at HMo
  have M1 := Lib.hid (fun (x : World) (g : Nw u5 x) => HMo.out x g 2)
  have M2 := Lib.hid (fun (x : World) (g : Nw u5 x) => HMo.out x g 3)
  rw [lm5.1] at M1
  rw [lm5.2] at M2
  clear HMo hI5 hI6 hI7
  go_wp2_with fail
  have hE := HE5.out
  unfold filld at hE
  rw [hE]
  clear hE d0 d1 d2 d3 dz dl
  have hsz : u4'.heap.size = u5.heap.size := by rw [← HE5.out]; simp [World.setCell]
  rw [hsz]
  clear hsz
  go_at_call 27
  refine HSm.out.mono ?_
  rintro e x1 ⟨rfl, s1⟩
  have t1 : Nw u5 x1 := ((Nw.refl u5).alloc _).trans s1
  have c0 := hcell (j := 0) (H5.out.1.nw t1)
  have c1 := hcell (j := 1) (H5.out.1.nw t1)
  have c2 := hcell (j := 2) (H5.out.1.nw t1)
  have c3 := hcell (j := 3) (H5.out.1.nw t1)
  have hl := hlt (H5.out.1.nw t1)
  have T1 := Lib.hid t1
  clear s1 t1
  go_wp2_with fail
  go_at_call 23
  refine (M1.out _ T1.out).mono ?_
  rintro e x2 ⟨rfl, s2⟩
  have T2 := Lib.hid (T1.out.trans s2)
  clear c0 c1 c2 c3 hl
  have c0 := hcell (j := 0) (H5.out.1.nw T2.out)
  have c1 := hcell (j := 1) (H5.out.1.nw T2.out)
  have c2 := hcell (j := 2) (H5.out.1.nw T2.out)
  have c3 := hcell (j := 3) (H5.out.1.nw T2.out)
  have hl := hlt (H5.out.1.nw T2.out)
  clear s2
  go_wp2_with fail
  go_at_call 23
  refine (M2.out _ T2.out).mono ?_
  rintro e x3 ⟨rfl, s3⟩
  go_wp2
  go_ret
  exact ⟨rfl, H5.out.2.1.trans (T2.out.trans s3)⟩
end Go.Proofs.YtmciiobncfchlaaGreat
end

/- Arguments: a request, a slice of requests, a head; the kit's LightHeads. -/
section
namespace Go.Proofs.YtmciiobncfchlaaGreat
open Go.ChangeShapes Go.WideShapes Go.ChangeAt Go.RowKit Go.Deep
set_option linter.unusedVariables false

theorem list_of {α : Type} {n : Nat} {Q : Nat → α → Prop} (h : ∀ i, i < n → ∃ x, Q i x) : ∃ l : List α, l.length = n ∧ ∀ i (hi : i < l.length), Q i l[i] := by
  induction n with
  | zero => exact ⟨[], rfl, fun i hi => by simp at hi⟩
  | succ n ih =>
    obtain ⟨l, hl, hq⟩ := ih fun i hi => h i (by omega)
    obtain ⟨x, hx⟩ := h n (by omega)
    refine ⟨l ++ [x], by simp [hl], fun i hi => ?_⟩
    rw [List.length_append, List.length_singleton] at hi
    by_cases q : i < l.length
    · rw [List.getElem_append_left q]; exact hq i q
    · have : i = n := by omega
      subst this
      rw [List.getElem_append_right (by omega)]
      simpa using hx
theorem len4 {cs : List Value} (h : cs.length = 4) : ∃ v0 v1 v2 v3, cs = [v0, v1, v2, v3] := by
  match cs, h with
  | [v0, v1, v2, v3], _ => exact ⟨v0, v1, v2, v3, rfl⟩
theorem len5 {cs : List Value} (h : cs.length = 5) : ∃ v0 v1 v2 v3 v4, cs = [v0, v1, v2, v3, v4] := by
  match cs, h with
  | [v0, v1, v2, v3, v4], _ => exact ⟨v0, v1, v2, v3, v4, rfl⟩
theorem cellsI : Tryz.prog.cellsOf 3 = 1 := by kernel_rfl
theorem cellsMode : Tryz.prog.cellsOf 27 = 1 := by kernel_rfl
theorem cellsNm : Tryz.prog.cellsOf 23 = 2 := by kernel_rfl
theorem cellsRq : Tryz.prog.cellsOf 42 = 5 := by kernel_rfl
theorem cellsSl : Tryz.prog.cellsOf 24 = 1 := by kernel_rfl
theorem cellsHd : Tryz.prog.cellsOf 26 = 4 := by kernel_rfl
section
variable {H : Type} {enc : TypeId × Value → H} {w : World} {base : Nat} {spare : Nat → Bool} {held : Bool}
theorem some_of {α : Type} {xs : List α} {i : Nat} (h : i < xs.length) : ∃ y, xs[i]? = some y := ⟨_, List.getElem?_eq_getElem h⟩
/-- All the numbers of a request are such as an int holds. -/
def FitU (R : Rq) : Prop := (-9223372036854775808 ≤ R.id ∧ R.id ≤ 9223372036854775807) ∧ (-9223372036854775808 ≤ R.txn ∧ R.txn ≤ 9223372036854775807) ∧ (-9223372036854775808 ≤ R.sn ∧ R.sn ≤ 9223372036854775807)
theorem of_wf {n : Int} (h : (Lit.int .i64 n).wf = true) : -9223372036854775808 ≤ n ∧ n ≤ 9223372036854775807 := by
  simp [Lit.wf, IntKind.min, IntKind.max, IntKind.signed, IntKind.bits] at h
  omega
theorem open_rq {fuel : Nat} {cs : List Value} {x : DataW H × List MemPlace} (h : DataW.trod enc Tryz.prog w base spare held fuel 42 cs = some x) : ∃ R : Rq, cs = rqrow R ∧ FitU R := by
  obtain ⟨xs, n, _, _, hl, hxl, hf⟩ := DataW.trod_struct Tryz.underlying42 h
  rw [cellsRq] at hl
  obtain ⟨v0, v1, v2, v3, v4, rfl⟩ := len5 hl
  have f0 : DataW.trod enc Tryz.prog w base spare held n 3 (([v0, v1, v2, v3, v4].drop 0).take (Tryz.prog.cellsOf 3)) = xs[0]? := hf 0 _ rfl
  have f1 : DataW.trod enc Tryz.prog w base spare held n 3 (([v0, v1, v2, v3, v4].drop 1).take (Tryz.prog.cellsOf 3)) = xs[1]? := hf 1 _ rfl
  have f2 : DataW.trod enc Tryz.prog w base spare held n 27 (([v0, v1, v2, v3, v4].drop 2).take (Tryz.prog.cellsOf 27)) = xs[2]? := hf 2 _ rfl
  have f3 : DataW.trod enc Tryz.prog w base spare held n 27 (([v0, v1, v2, v3, v4].drop 3).take (Tryz.prog.cellsOf 27)) = xs[3]? := hf 3 _ rfl
  have f4 : DataW.trod enc Tryz.prog w base spare held n 3 (([v0, v1, v2, v3, v4].drop 4).take (Tryz.prog.cellsOf 3)) = xs[4]? := hf 4 _ rfl
  simp at hxl
  obtain ⟨y0, e0⟩ := some_of (xs := xs) (i := 0) (by omega)
  obtain ⟨y1, e1⟩ := some_of (xs := xs) (i := 1) (by omega)
  obtain ⟨y2, e2⟩ := some_of (xs := xs) (i := 2) (by omega)
  obtain ⟨y3, e3⟩ := some_of (xs := xs) (i := 3) (by omega)
  obtain ⟨y4, e4⟩ := some_of (xs := xs) (i := 4) (by omega)
  rw [e0] at f0
  rw [e1] at f1
  rw [e2] at f2
  rw [e3] at f3
  rw [e4] at f4
  simp only [cellsI, cellsMode, List.drop_succ_cons, List.drop_zero, List.take_succ_cons, List.take_zero] at f0 f1 f2 f3 f4
  obtain ⟨a0, q0, _, u0⟩ := DataW.trod_int Tryz.underlying3 f0
  obtain ⟨a1, q1, _, u1⟩ := DataW.trod_int Tryz.underlying3 f1
  obtain ⟨a2, q2, _, u2⟩ := DataW.trod_int Tryz.underlying27 f2
  obtain ⟨a3, q3, _, u3⟩ := DataW.trod_int Tryz.underlying27 f3
  obtain ⟨a4, q4, _, u4⟩ := DataW.trod_int Tryz.underlying3 f4
  obtain rfl := (List.cons.inj q0).1
  obtain rfl := (List.cons.inj q1).1
  obtain rfl := (List.cons.inj q2).1
  obtain rfl := (List.cons.inj q3).1
  obtain rfl := (List.cons.inj q4).1
  exact ⟨⟨a0, a1, a2, a3, a4⟩, rfl, of_wf u0, of_wf u1, of_wf u4⟩
theorem open_rqs {fuel : Nat} {v : Value} {x : DataW H × List MemPlace} (h : DataW.trod enc Tryz.prog w base spare held fuel 24 [v] = some x) : ∃ l, RqAt w v l ∧ capOk v ∧ ∀ R ∈ l, FitU R := by
  rcases open_slice Tryz.underlying24 h with ⟨hcs, _⟩ | ⟨a, len, cap, m, n, D, Pl, hcs, _, hl, hm, hmm, _, hi⟩
  · simp only [List.cons.injEq, and_true] at hcs
    subst hcs
    exact ⟨[], Rd.nil w, Nat.le_refl _, fun R hR => by simp at hR⟩
  · simp only [List.cons.injEq, and_true] at hcs
    subst hcs
    have hlm : len ≤ m := by rw [hmm]; split <;> omega
    have each : ∀ i, i < len → ∃ R : Rq, FitU R ∧ ∀ j u, (rqrow R)[j]? = some u → w.cell? (a.add (i * 5 + j)) = some u := by
      intro i hil
      obtain ⟨cs', hc, ht⟩ := hi i (by omega)
      rw [cellsRq] at hc
      obtain ⟨R, rfl, hF⟩ := open_rq ht
      obtain ⟨_, hcl, hat⟩ := World.cells?_some hc
      have key : ∀ j, j < 5 → w.cell? (a.add (i * 5 + j)) = (rqrow R)[j]? := fun j hj => by rw [← Go.Deep.add_add]; exact hat j hj
      refine ⟨R, hF, fun j u hj => ?_⟩
      have hj6 : j < 5 := by have := (List.getElem?_eq_some_iff.1 hj).1; simpa [rqrow] using this
      rw [key j hj6]; exact hj
    obtain ⟨l, hll, hq⟩ := list_of each
    refine ⟨l, ?_, hl, fun R hR => by obtain ⟨i, hi, rfl⟩ := List.getElem_of_mem hR; exact (hq i (by omega)).1⟩
    subst hll
    rcases Nat.eq_zero_or_pos l.length with h0 | h0
    · obtain rfl := List.length_eq_zero_iff.1 h0
      exact ⟨some a, cap, rfl, .inl ⟨rfl, fun e => by cases e⟩⟩
    · have hu := (hq 0 h0).2 0 _ rfl
      obtain ⟨b, o, spot⟩ := a
      have hs : spot = none := by simpa [Addr.add] using World.cell?_spot hu
      subst hs
      refine ⟨some ⟨b, o, none⟩, cap, rfl, .inr ⟨b, o, rfl, ⟨?_, fun i hi c u hu => ?_⟩⟩⟩
      · rw [Addr.add_lit] at hu
        exact World.block_lt_of_cell? _ _ hu
      · have := (hq i hi).2 c u hu
        rw [Addr.add_lit, ← Nat.add_assoc] at this
        exact this
set_option maxRecDepth 100000 in
/-- A head that is handed in. -/
theorem open_headF {v : Value} {d : DataW H} {p : List MemPlace} {r : Reach} {b0 : Nat} (hv : Value.okWide Tryz.prog w r b0 26 v) (h : DataW.Trod enc Tryz.prog w base spare held 26 v d p) :
    ∃ (t r W : Int) (vq : Value) (q : List Rq), v = hdV t r vq W ∧ RqAt w vq q ∧ capOk vq ∧ ∀ R ∈ q, FitU R := by
  obtain ⟨cs, rfl, hsz⟩ := okWide_struct Tryz.underlying26 hv
  rw [cellsHd] at hsz
  obtain ⟨fuel, hf⟩ := h
  obtain ⟨xs, n, _, _, hl, hxl, hf⟩ := DataW.trod_struct Tryz.underlying26 hf
  obtain ⟨l⟩ := cs
  simp only [Value.cells] at hl hf
  obtain ⟨v0, v1, v2, v3, rfl⟩ := len4 hsz
  have f0 : DataW.trod enc Tryz.prog w base spare held n 23 (([v0, v1, v2, v3].drop 0).take (Tryz.prog.cellsOf 23)) = xs[0]? := hf 0 _ rfl
  have f1 : DataW.trod enc Tryz.prog w base spare held n 24 (([v0, v1, v2, v3].drop 2).take (Tryz.prog.cellsOf 24)) = xs[1]? := hf 1 _ rfl
  have f2 : DataW.trod enc Tryz.prog w base spare held n 3 (([v0, v1, v2, v3].drop 3).take (Tryz.prog.cellsOf 3)) = xs[2]? := hf 2 _ rfl
  simp at hxl
  obtain ⟨y0, e0⟩ := some_of (xs := xs) (i := 0) (by omega)
  obtain ⟨y1, e1⟩ := some_of (xs := xs) (i := 1) (by omega)
  obtain ⟨y2, e2⟩ := some_of (xs := xs) (i := 2) (by omega)
  rw [e0] at f0
  rw [e1] at f1
  rw [e2] at f2
  simp only [cellsI, cellsNm, cellsSl, List.drop_succ_cons, List.drop_zero, List.take_succ_cons, List.take_zero] at f0 f1 f2
  obtain ⟨q, hq, hc, hF⟩ := open_rqs f1
  obtain ⟨a3, q3, _, _⟩ := DataW.trod_int Tryz.underlying3 f2
  obtain ⟨xs', n', _, _, hl', hxl', hf'⟩ := DataW.trod_struct Tryz.underlying23 f0
  have g0 : DataW.trod enc Tryz.prog w base spare held n' 3 (([v0, v1].drop 0).take (Tryz.prog.cellsOf 3)) = xs'[0]? := hf' 0 _ rfl
  have g1 : DataW.trod enc Tryz.prog w base spare held n' 3 (([v0, v1].drop 1).take (Tryz.prog.cellsOf 3)) = xs'[1]? := hf' 1 _ rfl
  simp at hxl'
  obtain ⟨z0, r0⟩ := some_of (xs := xs') (i := 0) (by omega)
  obtain ⟨z1, r1⟩ := some_of (xs := xs') (i := 1) (by omega)
  rw [r0] at g0
  rw [r1] at g1
  simp only [cellsI, List.drop_succ_cons, List.drop_zero, List.take_succ_cons, List.take_zero] at g0 g1
  obtain ⟨a0, q0, _, _⟩ := DataW.trod_int Tryz.underlying3 g0
  obtain ⟨a1, q1, _, _⟩ := DataW.trod_int Tryz.underlying3 g1
  obtain rfl := (List.cons.inj q0).1
  obtain rfl := (List.cons.inj q1).1
  obtain rfl := (List.cons.inj q3).1
  exact ⟨a0, a1, a3, v2, q, rfl, hq, hc, hF⟩
set_option maxRecDepth 100000 in
theorem open_head {v : Value} {d : DataW H} {p : List MemPlace} {r : Reach} {b0 : Nat} (hv : Value.okWide Tryz.prog w r b0 26 v) (h : DataW.Trod enc Tryz.prog w base spare held 26 v d p) :
    ∃ (t r W : Int) (vq : Value) (q : List Rq), v = hdV t r vq W ∧ RqAt w vq q ∧ capOk vq := by
  obtain ⟨t, r, W, vq, q, h1, h2, h3, _⟩ := open_headF hv h
  exact ⟨t, r, W, vq, q, h1, h2, h3⟩
end
set_option maxRecDepth 100000 in
set_option maxHeartbeats 1000000 in
/-- LightHeads of one head. -/
theorem kLight1 (b : Nat) (t r W : Int) (a : Option Addr) (n c : Nat) (w : World) (h : w.heap[b]? = some (.cells #[.int .i64 t, .int .i64 r, .slice a n c, .int .i64 W] 26)) :
    Calls Tryz.prog 5 #[.slice (some ⟨b, 0, none⟩) 1 1, .int .i64 1] w fun e w' => e = .returned (.bool (decide (n ≤ 12))) ∧ Nw w w' := by
  have c2 := hcell (j := 2) h
  have hl := hlt h
  clear h
  by_cases hn : n ≤ 12
  · have d1 : decide (12 < (n : Int)) = false := by rw [decide_eq_false_iff_not]; omega
    rw [show decide (n ≤ 12) = true by simpa using hn]
    clear hn
    go_enter Tryz.func5, Tryz.ntmps5
    go_wp2
    refine wp_loop_rounds 2 ?_
    repeat (rw [rounds_succ]; go_wp2)
    go_ret
    exact ⟨rfl, Nw.refl _⟩
  · have d1 : decide (12 < (n : Int)) = true := by rw [decide_eq_true_iff]; omega
    rw [show decide (n ≤ 12) = false by simpa using hn]
    clear hn
    go_enter Tryz.func5, Tryz.ntmps5
    go_wp2
    refine wp_loop_rounds 2 ?_
    repeat (rw [rounds_succ]; go_wp2)
    go_ret
    exact ⟨rfl, Nw.refl _⟩
end Go.Proofs.YtmciiobncfchlaaGreat
end

/- QueueCalls: the kit's LightHeads of two; the document's own Same of any two heads. -/
section
namespace Go.Proofs.YtmciiobncfchlaaGreat
open Go.RowKit
set_option linter.unusedVariables false

set_option maxRecDepth 100000 in
set_option maxHeartbeats 1000000 in
/-- LightHeads of two heads. -/
theorem kLight2 (b : Nat) (t r W : Int) (a : Option Addr) (n c : Nat) (t' r' W' : Int) (a' : Option Addr) (n' c' : Nat) (w : World) (h : w.heap[b]? = some (.cells #[.int .i64 t, .int .i64 r, .slice a n c, .int .i64 W, .int .i64 t', .int .i64 r', .slice a' n' c', .int .i64 W'] 26)) :
    Calls Tryz.prog 5 #[.slice (some ⟨b, 0, none⟩) 2 2, .int .i64 2] w fun e w' => e = .returned (.bool (decide (n ≤ 12) && decide (n' ≤ 12))) ∧ Nw w w' := by
  have c2 := hcell (j := 2) h
  have c6 := hcell (j := 6) h
  have hl := hlt h
  clear h
  by_cases hn : n ≤ 12
  rotate_left
  · have d1 : decide (12 < (n : Int)) = true := by rw [decide_eq_true_iff]; omega
    rw [show decide (n ≤ 12) = false by simpa using hn]
    clear hn
    go_enter Tryz.func5, Tryz.ntmps5
    go_wp2
    refine wp_loop_rounds 3 ?_
    repeat (rw [rounds_succ]; go_wp2)
    go_ret
    exact ⟨rfl, Nw.refl _⟩
  have d1 : decide (12 < (n : Int)) = false := by rw [decide_eq_false_iff_not]; omega
  rw [show decide (n ≤ 12) = true by simpa using hn]
  clear hn
  by_cases hn : n' ≤ 12
  rotate_left
  · have d2 : decide (12 < (n' : Int)) = true := by rw [decide_eq_true_iff]; omega
    rw [show decide (n' ≤ 12) = false by simpa using hn]
    clear hn
    go_enter Tryz.func5, Tryz.ntmps5
    go_wp2
    refine wp_loop_rounds 3 ?_
    repeat (rw [rounds_succ]; go_wp2)
    go_ret
    exact ⟨rfl, Nw.refl _⟩
  have d2 : decide (12 < (n' : Int)) = false := by rw [decide_eq_false_iff_not]; omega
  rw [show decide (n' ≤ 12) = true by simpa using hn]
  clear hn
  go_enter Tryz.func5, Tryz.ntmps5
  go_wp2
  refine wp_loop_rounds 3 ?_
  repeat (rw [rounds_succ]; go_wp2)
  go_ret
  exact ⟨rfl, Nw.refl _⟩
def SmP (P : Prop) (w : World) (e : Ending) (w' : World) : Prop := ∃ f, e = .returned (.bool f) ∧ Nw w w' ∧ (f = true ↔ P)
set_option maxRecDepth 100000 in
set_option maxHeartbeats 4000000 in
theorem r9same (t r W t2 r2 W2 : Int) (v v2 : Value) (q q2 : List Rq) (w : World) (hl : q.length ≤ 1000) (h : RqAt w v q) (h2 : RqAt w v2 q2) :
    Calls Tryz.prog 9 #[hdV t r v W, hdV t2 r2 v2 W2] w (SmP (t = t2 ∧ r = r2 ∧ W = W2 ∧ q = q2) w) := by
  unfold hdV
  obtain ⟨a, c, rfl, hh⟩ := h
  obtain ⟨a2, c2, rfl, hh2⟩ := h2
  by_cases e0 : t = t2 ∧ r = r2 ∧ W = W2 ∧ q.length = q2.length
  · obtain ⟨e1, e2, e3, e4⟩ := e0
    by_cases hq : q = []
    · subst e1 e2 e3 hq
      obtain rfl : q2 = [] := List.eq_nil_of_length_eq_zero e4.symm
      clear hh hh2 e4
      go_enter Tryz.func9, Tryz.ntmps9
      go_wp2
      refine wp_loop_rounds 1 ?_
      repeat (rw [rounds_succ]; go_wp2)
      go_ret
      exact ⟨true, rfl, ((Nw.refl _).alloc _).alloc _, by simp⟩
    · rcases hh with ⟨e, _⟩ | ⟨b, o, rfl, hc⟩
      · exact absurd e hq
      rcases hh2 with ⟨e, _⟩ | ⟨b', o', rfl, hc'⟩
      · subst e; exact absurd (List.eq_nil_of_length_eq_zero e4) hq
      refine (r9same_rows t r W t2 r2 W2 b o c b' o' c2 q q2 w e1 e2 e3 e4 hl hc hc').mono ?_
      rintro e w' ⟨f, rfl, g, hf⟩
      exact ⟨f, rfl, g, by rw [hf]; exact ⟨fun h => ⟨e1, e2, e3, h⟩, fun h => h.2.2.2⟩⟩
  have HNo := Lib.hid (show ¬ (t = t2 ∧ r = r2 ∧ W = W2 ∧ q = q2) from fun h => e0 ⟨h.1, h.2.1, h.2.2.1, by rw [h.2.2.2]⟩)
  obtain ⟨P, hP⟩ : ∃ P, (t = t2 ∧ r = r2 ∧ W = W2 ∧ q = q2) = P := ⟨_, rfl⟩
  rw [hP] at HNo ⊢
  clear hP
  clear hh hh2
  obtain ⟨n, hn⟩ : ∃ n, q.length = n := ⟨_, rfl⟩
  obtain ⟨n2, hn2⟩ : ∃ n, q2.length = n := ⟨_, rfl⟩
  rw [hn, hn2] at e0 ⊢
  clear hn hn2
  by_cases e1 : t = t2
  rotate_left
  · have d : (t == t2) = false := by simpa using e1
    clear e1 e0
    go_enter Tryz.func9, Tryz.ntmps9
    go_wp2
    go_ret
    exact ⟨false, rfl, ((Nw.refl _).alloc _).alloc _, ⟨fun e => (by cases e), fun e => absurd e HNo.out⟩⟩
  by_cases e2 : r = r2
  rotate_left
  · have d : (r == r2) = false := by simpa using e2
    subst e1
    clear e2 e0
    go_enter Tryz.func9, Tryz.ntmps9
    go_wp2
    go_ret
    exact ⟨false, rfl, ((Nw.refl _).alloc _).alloc _, ⟨fun e => (by cases e), fun e => absurd e HNo.out⟩⟩
  by_cases e3 : W = W2
  rotate_left
  · have d : (W == W2) = false := by simpa using e3
    subst e1 e2
    clear e3 e0
    go_enter Tryz.func9, Tryz.ntmps9
    go_wp2
    go_ret
    exact ⟨false, rfl, ((Nw.refl _).alloc _).alloc _, ⟨fun e => (by cases e), fun e => absurd e HNo.out⟩⟩
  have e4 : n ≠ n2 := fun e => e0 ⟨e1, e2, e3, e⟩
  have d : ((n : Int) == (n2 : Int)) = false := by simp; omega
  subst e1 e2 e3
  clear e4 e0
  go_enter Tryz.func9, Tryz.ntmps9
  go_wp2
  go_ret
  exact ⟨false, rfl, ((Nw.refl _).alloc _).alloc _, ⟨fun e => (by cases e), fun e => absurd e HNo.out⟩⟩
end Go.Proofs.YtmciiobncfchlaaGreat
end

/- The document's own queue: Put. -/
section
namespace Go.Proofs.YtmciiobncfchlaaGreat
open Go.RowKit
set_option linter.unusedVariables false      -- a contract need not use every name

theorem putL_eq (n : Int) : ∀ (l : List Int) (k : Nat) (h : k < l.length), (∀ x ∈ l.take k, x < n) → l[k] = n → putL n l = l
  | a :: r, 0, _, _, e => by
    simp only [List.getElem_cons_zero] at e
    unfold putL
    rw [if_neg (by omega), if_pos e]
  | a :: r, k + 1, h, hlt, e => by
    have h0 := hlt a (by simp)
    unfold putL
    rw [if_pos h0, putL_eq n r k (by simpa using h) (fun x hx => hlt x (by simp [hx])) (by simpa using e)]
theorem putL_ins (n : Int) : ∀ (l : List Int) (k : Nat), k ≤ l.length → (∀ x ∈ l.take k, x < n) → (∀ h : k < l.length, n < l[k]) → putL n l = l.take k ++ n :: l.drop k
  | [], 0, _, _, _ => rfl
  | a :: r, 0, _, _, h => by
    have h0 := h (by simp)
    simp only [List.getElem_cons_zero] at h0
    unfold putL
    rw [if_neg (by omega), if_neg (by omega)]
    rfl
  | a :: r, k + 1, hk, hlt, h => by
    have h0 := hlt a (by simp)
    unfold putL
    rw [if_pos h0, putL_ins n r k (by simpa using hk) (fun x hx => hlt x (by simp [hx])) (fun h' => by have := h (by simpa using h'); simpa using this)]
    rfl
def inrow (x : Int) : List Value := [.int .i64 x]
theorem elemIn : Elem Tryz.prog 48 3 1 8 inrow where
  und := Tryz.underlying48
  inf := by
    have h : (Tryz.prog.info? 3).map (fun i => (i.zero, i.size, i.bytes)) = some (some (.int .i64 0), 1, 8) := by kernel_rfl
    cases e : Tryz.prog.info? 3 with
    | none => rw [e] at h; cases h
    | some i =>
      rw [e] at h
      simp only [Option.map_some, Option.some.injEq, Prod.mk.injEq] at h
      exact ⟨i, _, rfl, h.1, h.2.1, h.2.2, rfl⟩
  pos := by decide
  byt := by decide
  len := fun _ => rfl
  one := fun a u hu => by
    simp only [inrow, List.mem_cons, List.not_mem_nil, or_false] at hu
    subst hu; rfl
theorem rows_in : ∀ l : List Int, rowsOf inrow l = l.map (Value.int .i64)
  | [] => rfl
  | a :: r => by
    show inrow a ++ rowsOf inrow r = _
    rw [rows_in r]; rfl
theorem IS.own {w : World} {v : Value} {l : List Int} (h : IS w v l) : Own 3 1 inrow w 0 v l := by
  unfold Own
  rw [rows_in]; exact h
theorem Own.is {w : World} {g0 : Nat} {v : Value} {l : List Int} (h : Own 3 1 inrow w g0 v l) : IS w v l := by
  unfold Own at h
  rw [rows_in] at h
  exact olow h (fun _ _ => Nat.zero_le _)
theorem in_part {w : World} {b c k : Nat} {l : List Int} (h : RdC 1 inrow w b 0 l) (hk : k ≤ l.length) (hc : l.length ≤ c) :
    ∀ j u, (rowsOf inrow (l.drop k))[j]? = some u → w.cell? ((if c = k then (⟨b, 0, none⟩ : Addr) else ⟨b, 0 + k * 1, none⟩).add j) = some u := by
  by_cases e : c = k
  · intro j u hu
    have : l.drop k = [] := List.drop_eq_nil_of_le (by omega)
    rw [this] at hu
    simp [rowsOf] at hu
  · rw [if_neg e]
    have hp := h.part k (l.length - k)
    rw [List.take_of_length_le (by simp)] at hp
    exact hp.flat (fun _ => rfl) (by decide)
theorem Own.none {α : Type} {P : Program} {ST T : TypeId} {sz bytes : Nat} {row : α → List Value} (E : Elem P ST T sz bytes row) {w : World} {g0 : Nat} {v : Value} {l : List α} (h : Own T sz row w g0 v l) : (Builtin.append_ #[ST, ST] ST #[v, .slice none 0 0]).run P w = .ok v w := by
  obtain ⟨i0, z, hi, _⟩ := E.inf
  exact run_append_owned_none (P := P) w g0 ST ST T i0 sz E.und hi _ _ _ h
theorem IS.rdc {w : World} {g c : Nat} {l : List Int} (h : IS w (.slice (some ⟨g, 0, none⟩) l.length c) l) : RdC 1 inrow w g 0 l :=
  ⟨h.glt, fun i hi j u hu => by
    have hj : j < 1 := (List.getElem?_eq_some_iff.1 hu).1
    obtain rfl : j = 0 := by omega
    have e := h.cell i hi
    rw [List.getD_eq_getElem?_getD, List.getElem?_eq_getElem hi] at e
    simp only [Nat.zero_add, Nat.mul_one, Nat.add_zero]
    exact e.trans hu⟩
theorem put_ins {w : World} {g c k : Nat} {l : List Int} (n : Int) (h : IS w (.slice (some ⟨g, 0, none⟩) l.length c) l) (hl : l.length ≤ 1000) (hk : k ≤ l.length) :
    ∃ v1 w1 v2 w2 v3 w3, (Builtin.append_ #[48, 48] 48 #[.slice (some ⟨w.heap.size, 0, none⟩) 0 0, .slice (some ⟨g, 0, none⟩) k c]).run Tryz.prog (w.alloc (.cells #[] 3)) = .ok v1 w1 ∧
      (Builtin.append_ #[48, 48] 48 #[v1, .slice (some ⟨w1.heap.size, 0, none⟩) 1 1]).run Tryz.prog (w1.alloc (.cells #[.int .i64 n] 3)) = .ok v2 w2 ∧
      (Builtin.append_ #[48, 48] 48 #[v2, .slice (some (if c = k then ⟨g, 0, none⟩ else ⟨g, 0 + k * 1, none⟩)) (l.length - k) (c - k)]).run Tryz.prog w2 = .ok v3 w3 ∧ IS w3 v3 (l.take k ++ n :: l.drop k) ∧ Nw w w3 := by
  have hc := IS.rdc h
  have hcap := own_cap h
  obtain ⟨v1, w1, r1, O1, N1⟩ := own_clone elemIn (w := w) (v := .slice (some ⟨g, 0, none⟩) k c) (l := l.take k) ⟨_, c, by rw [List.length_take, Nat.min_eq_left hk], .inr ⟨g, 0, rfl, by simpa using hc.part 0 k⟩⟩ (by rw [List.length_take]; omega)
  have hNa : Nw w1 (w1.alloc (.cells #[.int .i64 n] 3)) := (Nw.refl w1).alloc _
  have hal := allocAt w1 (.cells #[.int .i64 n] 3)
  obtain ⟨v2, w2, r2, O2, G2, b2, _⟩ := Own.push elemIn (onw O1 hNa) n w1.heap.size 1 (fun j u hu => by
    rw [hcell hal]
    simpa [inrow] using hu) (by rw [List.length_take]; omega) (Nat.le_trans N1.sz hNa.sz)
  have N2 : Nw w w2 := (N1.trans hNa).gro G2 (fun k hk => oge O1 hk)
  obtain ⟨v3, w3, r3, O3, G3, b3⟩ := Own.many elemIn O2 (l.drop k) _ (c - k) (in_part (hc.nw N2) hk hcap) (by simp; omega) N2.sz
  have N3 := N2.gro G3 (fun k hk => oge O2 hk)
  rw [List.length_drop] at r3
  exact ⟨v1, w1, v2, w2, v3, w3, r1, r2, r3, by have := O3.is; simpa using this, N3⟩
theorem put_nil (w : World) (n : Int) :
    ∃ v1 w1 v2 w2, (Builtin.append_ #[48, 48] 48 #[.slice (some ⟨w.heap.size, 0, none⟩) 0 0, .slice none 0 0]).run Tryz.prog (w.alloc (.cells #[] 3)) = .ok v1 w1 ∧
      (Builtin.append_ #[48, 48] 48 #[v1, .slice (some ⟨w1.heap.size, 0, none⟩) 1 1]).run Tryz.prog (w1.alloc (.cells #[.int .i64 n] 3)) = .ok v2 w2 ∧
      (Builtin.append_ #[48, 48] 48 #[v2, .slice none 0 0]).run Tryz.prog w2 = .ok v2 w2 ∧ IS w2 v2 [n] ∧ Nw w w2 := by
  obtain ⟨v1, w1, r1, O1, N1⟩ := own_clone elemIn (w := w) (Rd.nil (sz := 1) (row := inrow) w) (by simp)
  have hNa : Nw w1 (w1.alloc (.cells #[.int .i64 n] 3)) := (Nw.refl w1).alloc _
  have hal := allocAt w1 (.cells #[.int .i64 n] 3)
  obtain ⟨v2, w2, r2, O2, G2, b2, _⟩ := Own.push elemIn (onw O1 hNa) n w1.heap.size 1 (fun j u hu => by
    rw [hcell hal]
    simpa [inrow] using hu) (by simp) (Nat.le_trans N1.sz hNa.sz)
  exact ⟨v1, w1, v2, w2, r1, r2, Own.none elemIn O2, by have := O2.is; simpa using this, (N1.trans hNa).gro G2 (fun k hk => oge O1 hk)⟩
set_option maxRecDepth 100000 in
set_option maxHeartbeats 1000000 in
theorem r9put (n : Int) (v : Value) (l : List Int) (w : World) (hl : l.length ≤ 1000) (h : IS w v l) :
    Calls Tryz.prog 65 #[v, .int .i64 n] w fun e w' => ∃ v', e = .returned v' ∧ Nw w w' ∧ IS w' v' (putL n l) := by
  rcases h.form with ⟨rfl, rfl⟩ | ⟨g, c, rfl⟩
  · obtain ⟨v1, w1, v2, w2, r1, r2, r3, hI, hN⟩ := put_nil w n
    have HR1 := Lib.hid r1
    have HR2 := Lib.hid r2
    have HR3 := Lib.hid r3
    have HX := Lib.hid (And.intro hN hI)
    clear r1 r2 r3 hI hN
    go_enter Tryz.func65, Tryz.ntmps65
    go_wp2
    refine wp_loop_rounds 1 ?_
    repeat (rw [rounds_succ]; go_wp2_with (at_builtin; (first | (refine wpl_app (by rfl) (.tmp 34) (.tmp 37) 48 rfl _ _ _ _ rfl rfl HR1.out ?_) | (refine wpl_app (by rfl) (.tmp 39) (.tmp 41) 48 rfl _ _ _ _ rfl rfl HR2.out ?_) | (refine wpl_app (by rfl) (.tmp 43) (.tmp 46) 48 rfl _ _ _ _ rfl rfl HR3.out ?_))))
    go_ret
    exact ⟨_, rfl, HX.out.1, HX.out.2⟩
  · have HC := Lib.hid h.rdc
    have HI := Lib.hid h
    clear h
    go_enter Tryz.func65, Tryz.ntmps65
    go_wp2
    go_loopw [5] (fun i wr => ∃ k : Nat, k ≤ l.length ∧ i = .int .i64 k ∧ (∀ x ∈ l.take k, x < n) ∧ Nw w wr) (fun i _ => l.length - (intOf i).toNat)
    case atStart => exact ⟨0, Nat.zero_le _, rfl, by simp, Nw.refl _⟩
    case round =>
      obtain ⟨k, hk, rfl, hf, hG⟩ := hrel
      have HG := Lib.hid hG
      clear hG
      by_cases hlt : k < l.length
      · have hce := (HC.out.nw HG.out).cell k hlt 0 _ rfl
        simp only [Nat.zero_add, Nat.mul_one, Nat.add_zero] at hce
        have HS := Lib.hid (show l[k] < n → ∀ x ∈ l.take (k + 1), x < n from fun e x hx => by
          rcases take_mem hlt hx with h | rfl
          · exact hf x h
          · exact e)
        have HEq := Lib.hid (show l[k] = n → putL n l = l from fun e => putL_eq n l k hlt hf e)
        have HIn := Lib.hid (show n < l[k] → putL n l = l.take k ++ n :: l.drop k from fun e => putL_ins n l k hk hf (fun _ => e))
        clear hf
        generalize l[k] = x at *
        by_cases hx : x < n
        · have d : decide (x < n) = true := decide_eq_true hx
          have HS2 := Lib.hid (HS.out hx)
          clear HS HEq HIn hx
          go_wp2
          go_roundw
          case rel => exact ⟨k + 1, by omega, by go_num, HS2.out, HG.out⟩
          case measure => simp [intOf]; omega
        · have d : decide (x < n) = false := decide_eq_false hx
          by_cases he : x = n
          · have d2 : (x == n) = true := by simpa using he
            have HPut := Lib.hid (HEq.out he)
            clear HS HEq HIn hx he
            go_wp2
            go_ret
            exact ⟨_, rfl, HG.out, by rw [HPut.out]; exact HI.out.nw HG.out⟩
          · have d2 : (x == n) = false := by simpa using he
            have HPut := Lib.hid (HIn.out (by omega))
            clear HS HEq HIn hx he
            obtain ⟨v1, w1, v2, w2, v3, w3, r1, r2, r3, hI3, hN3⟩ := put_ins n (HI.out.nw HG.out) hl hk
            rw [if_neg (by have := own_cap HI.out; omega)] at r3
            simp only [Nat.zero_add, Nat.mul_one] at r3
            have HR1 := Lib.hid r1
            have HR2 := Lib.hid r2
            have HR3 := Lib.hid r3
            have hcap := own_cap HI.out
            have HX := Lib.hid (And.intro (HG.out.trans hN3) hI3)
            have k1 : k ≤ c := by omega
            have k2 : (k : Int) ≤ (c : Int) := by omega
            have k3 : (k : Int) ≤ (l.length : Int) := by omega
            have k4 : ((l.length : Int) - (k : Int)).toNat = l.length - k := by omega
            have k5 : ((c : Int) - (k : Int)).toNat = c - k := by omega
            have k6 : (l.length : Int) ≤ (c : Int) := by omega
            clear r1 r2 r3 hI3 hN3
            go_wp2_with (at_builtin; (first | (refine wpl_app (by rfl) (.tmp 34) (.tmp 37) 48 rfl _ _ _ _ rfl rfl HR1.out ?_) | (refine wpl_app (by rfl) (.tmp 39) (.tmp 41) 48 rfl _ _ _ _ rfl rfl HR2.out ?_) | (refine wpl_app (by rfl) (.tmp 43) (.tmp 46) 48 rfl _ _ _ _ rfl rfl HR3.out ?_)))
            go_ret
            exact ⟨_, rfl, HX.out.1, by rw [HPut.out]; exact HX.out.2⟩
      · obtain rfl : k = l.length := by omega
        have HPut := Lib.hid (putL_ins n l l.length hk hf (fun h => absurd h (Nat.lt_irrefl _)))
        clear hf
        obtain ⟨v1, w1, v2, w2, v3, w3, r1, r2, r3, hI3, hN3⟩ := put_ins n (HI.out.nw HG.out) hl hk
        rw [show (some (if c = l.length then (⟨g, 0, none⟩ : Addr) else ⟨g, 0 + l.length * 1, none⟩)) = (if c = l.length then some (⟨g, 0, none⟩ : Addr) else some ⟨g, l.length, none⟩) from by rw [Nat.zero_add, Nat.mul_one]; split <;> rfl, Nat.sub_self] at r3
        have HR1 := Lib.hid r1
        have HR2 := Lib.hid r2
        have HR3 := Lib.hid r3
        have hcap := own_cap HI.out
        have HX := Lib.hid (And.intro (HG.out.trans hN3) hI3)
        have k1 : l.length ≤ c := by omega
        have k2 : (l.length : Int) ≤ (c : Int) := by omega
        have k3 : (l.length : Int) ≤ (l.length : Int) := by omega
        have k4 : ((l.length : Int) - (l.length : Int)).toNat = l.length  - l.length := by omega
        have k5 : ((c : Int) - (l.length : Int)).toNat = c  - l.length := by omega
        have k6 : (l.length : Int) ≤ (c : Int) := by omega
        clear r1 r2 r3 hI3 hN3
        go_wp2_with (at_builtin; (first | (refine wpl_app (by rfl) (.tmp 34) (.tmp 37) 48 rfl _ _ _ _ rfl rfl HR1.out ?_) | (refine wpl_app (by rfl) (.tmp 39) (.tmp 41) 48 rfl _ _ _ _ rfl rfl HR2.out ?_) | (refine wpl_app (by rfl) (.tmp 43) (.tmp 46) 48 rfl _ _ _ _ rfl rfl HR3.out ?_)))
        all_goals (go_ret; exact ⟨_, rfl, HX.out.1, by rw [HPut.out]; exact HX.out.2⟩)
end Go.Proofs.YtmciiobncfchlaaGreat
end
