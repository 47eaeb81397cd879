/- Texts merged: QvV, BdQ, BdR, QvW -/
import Derived.Test.YtfemopcichmlmaaGreatRRRBucketFullB17
import Derived.StillTailTactics

/- The developers' package queue: Abandon, Hand. -/
section
namespace Go.Proofs.YtfemopcichmlmaaGreatRRR
open Go.RowKit
set_option linter.unusedVariables false      -- a contract need not use every name

set_option maxRecDepth 100000 in
set_option maxHeartbeats 4000000 in
theorem dAbandon (t r W id : Int) (v : Value) (q : List Rq) (w : World) (hl : q.length ≤ 1000) (hok : Ok W q) (h : RqAt w v q) :
    Calls Tryz.prog 43 #[hdV t r v W, .int .i64 id] w (HD1 (abRes ⟨t, r, W, q⟩ id) w) := by
  have HOk := Lib.hid hok
  clear hok
  obtain ⟨X, hX⟩ : ∃ X, abRes ⟨t, r, W, q⟩ id = X := ⟨_, rfl⟩
  rw [hX]
  unfold HD1
  have HCl := Lib.hid (fun (w1 : World) (g : Nw w w1) => dClone v q w1 hl (h.nw g))
  have HWo := Lib.hid (fun (w1 : World) (g : Nw w w1) => dWithout t r W id v q w1 hl (h.nw g))
  unfold hdV at HWo
  obtain ⟨px, hpx⟩ : ∃ px, plc (fun R => R.id == id) q = px := ⟨_, rfl⟩
  have hFi := fun (w1 : World) (g : Nw w w1) (f : Value) (hf : Tells w1 f (fun R => R.id == id)) => dFind t r W v f _ q w1 hl (h.nw g) hf
  rw [hpx] at hFi
  have HAt := Lib.hid h
  obtain ⟨a, c, rfl, _⟩ := h
  unfold hdV at hFi ⊢
  have HFi := Lib.hid hFi
  clear hFi
  have HWi := Lib.hid (dWithID id)
  obtain ⟨hx1, hx2, hx3, hx4⟩ := two_boxes w (.cells #[.int .i64 t, .int .i64 r, .slice a q.length c, .int .i64 W] 52) (.cells #[.int .i64 0, .int .i64 0, .slice none 0 0, .int .i64 0] 52)
  obtain ⟨w1, hw1⟩ : ∃ w1, (w.alloc (.cells #[.int .i64 t, .int .i64 r, .slice a q.length c, .int .i64 W] 52)).alloc (.cells #[.int .i64 0, .int .i64 0, .slice none 0 0, .int .i64 0] 52) = w1 := ⟨_, rfl⟩
  rw [hw1] at hx1 hx2 hx3
  have HB1 := Lib.hid (And.intro (And.intro hx1 hx2) hx3)
  have s0 : ∀ z, Nw w1 z → z.cell? ⟨w.heap.size, 0, none⟩ = some (.int .i64 t) := fun z hz => hz.kp (hcell (j := 0) hx1)
  have s1 : ∀ z, Nw w1 z → z.cell? ⟨w.heap.size, 1, none⟩ = some (.int .i64 r) := fun z hz => hz.kp (hcell (j := 1) hx1)
  have s2 : ∀ z, Nw w1 z → z.cell? ⟨w.heap.size, 2, none⟩ = some (.slice a q.length c) := fun z hz => hz.kp (hcell (j := 2) hx1)
  have s3 : ∀ z, Nw w1 z → z.cell? ⟨w.heap.size, 3, none⟩ = some (.int .i64 W) := fun z hz => hz.kp (hcell (j := 3) hx1)
  clear hx1 hx2 hx3 hx4
  have HW1 := Lib.hid hw1
  clear hw1
  have q1 := (Nw.refl w1).drewQ
  obtain ⟨wc, hwc⟩ : ∃ wc, w1.drew = wc := ⟨_, rfl⟩
  go_enter Tryz.func43, Tryz.ntmps43
  go_wp2
  rw [HW1.out]
  refine region_told [some true, some true, some false, none, some false, none, some true] (Nw w1) (by kernel_rfl) (by kernel_rfl) (by kernel_rfl) q1 ?_
  rw [hwc] at q1 ⊢
  clear hwc
  repeat (first
    | (refine HW.off ?_)
    | (refine HW.take' ?_; (first | (refine ⟨undef, Or.inr ⟨by rfl, rfl⟩, ?_⟩) | (apply Exists.intro; refine ⟨Or.inl ⟨by rfl, ?_⟩, ?_⟩; (intro x hx; go_simp; first | done | with_reducible rfl))); (try simp only [Act.put, List.setIfInBounds_toArray, List.set_cons_zero, List.set_cons_succ]))
    | (refine HW.go (fun K hK => ?_); go_simp; (first
      | (go_at_call 49; (with_reducible refine (HWi.out _).mono ?_); rintro e wy ⟨pa, rfl, g2, hbx⟩; refine hK.out _ _ (q1.trans g2) ?_; intro _; replace q1 := q1.trans g2; clear hK K g2; replace hbx := Tells.withID hbx)
      | (go_at_call 48; (with_reducible refine (HFi.out _ (HB1.out.2.trans q1) _ hbx).mono ?_); rintro e wy ⟨rfl, g2⟩; refine hK.out _ _ (q1.trans g2) ?_; intro _; replace q1 := q1.trans g2; clear hK K g2 hbx)
      | (refine hK.out _ _ q1 ?_; intro _; clear hK K))))
  refine HW.end_ ?_
  refine NoPanic.normal ?_
  have HN := Lib.hid (HB1.out.2.trans q1)
  have hp1 := q1.at' HB1.out.1.1
  have hq1 := q1.at' HB1.out.1.2
  have c0 := hcell (j := 0) hp1
  have c1 := hcell (j := 1) hp1
  have c2 := hcell (j := 2) hp1
  have c3 := hcell (j := 3) hp1
  have hpl := hlt hp1
  rcases at_plc q id with ⟨e1, hf⟩ | ⟨k, e1, hk, hf⟩
  · obtain rfl := hpx.symm.trans e1
    have hR := hX.symm.trans (show abRes ⟨t, r, W, q⟩ id = (noH, 5) by unfold abRes; rw [hf])
    subst hR
    have d0 := hcell (j := 0) hq1
    have d1 := hcell (j := 1) hq1
    have d2 := hcell (j := 2) hq1
    have d3 := hcell (j := 3) hq1
    have fz := fun k => hfz (j := k) hq1
    have hsl2 := hlt hq1
    clear hpx hX e1 hf s0 s1 s2 s3 HB1 HFi HWi HAt HW1 q1 hp1 hq1 HWo HCl
    go_wp2
    exact bodyPost_ret (v := .tuple #[.agg #[.int .i64 0, .int .i64 0, .slice none 0 0, .int .i64 0], .int .i64 5]) (by simp only [results, Tryz.results43]; simp [go_sem, *]) rfl ⟨_, rfl, fill_nw HN.out (Nat.le_succ _) _ _ _ _, Rd.nil _, Nat.le_refl _, Fresh.nil _ _⟩
  · obtain rfl := hpx.symm.trans e1
    have dk : ((k : Int) == -1) = false := by simp
    have hX1 : ¬ 0 < q[k].sn → X = (noH, 7) := fun s => hX.symm.trans (by unfold abRes; rw [hf]; exact if_neg s)
    have hX2 : 0 < q[k].sn → q[k].md = 0 → X = (⟨t, r, W, lvQ id q⟩, 0) := fun s m => hX.symm.trans (by unfold abRes; rw [hf]; simp only [if_pos s]; unfold abQ; rw [if_pos m, (fnd_is hf).2])
    have hX3 : 0 < q[k].sn → q[k].md ≠ 0 → X = (⟨t, r, W, q.set k ⟨q[k].id, q[k].txn, q[k].md, q[k].md, 0⟩⟩, 0) := fun s m => hX.symm.trans (by unfold abRes; rw [hf]; simp only [if_pos s]; rw [ab_at HOk.out hk m]; rfl)
    rcases HAt.out with ⟨a', c', e3, ⟨e4, _⟩ | ⟨b, o, e4, hc⟩⟩
    · subst e4; simp at hk
    simp only [Value.slice.injEq, true_and] at e3
    obtain ⟨rfl, rfl⟩ := e3
    subst e4
    have hki : (k : Int) < (q.length : Int) := by omega
    have hce := (hc.nw HN.out).cell k hk
    have HCe := Lib.hid (fun (z : World) (g : Nw w z) => (hc.nw g).cell k hk)
    have HWa := Lib.hid (fun z => dWaits q[k] z)
    have HHo := Lib.hid (fun z => dHolds q[k] z)
    have HRow := Lib.hid (fun (z : World) (g0 g cap : Nat) (j : Nat) (hj : j < 5) (u : Value) (new : Rq) (e : (rqrow q[k]).set j u = rqrow new) (h : RqOwn z g0 (.slice (some ⟨g, 0, none⟩) q.length cap) q) => own_upd h rfl k hk j hj u new e)
    have HRow2 := Lib.hid (fun (z : World) (g0 g cap : Nat) (X : Rq) (j : Nat) (hj : j < 5) (u : Value) (new : Rq) (e : (rqrow X).set j u = rqrow new) (h : RqOwn z g0 (.slice (some ⟨g, 0, none⟩) q.length cap) (q.set k X)) => own_upd h (by rw [List.length_set]) k (by rw [List.length_set]; exact hk) j hj u new (by rw [List.getElem_set_self]; exact e))
    simp only [List.set_set] at HRow2
    have HCo := Lib.hid (fun (z : World) (g0 g cap : Nat) (h : RqOwn z g0 (.slice (some ⟨g, 0, none⟩) q.length cap) q) => own_cell h rfl k hk)
    clear hpx hX e1 hf s0 s1 s2 s3 HB1 HFi HWi HW1 q1 hc HOk
    generalize q[k] = R at *
    obtain ⟨b0, b1, b2, b3, b4⟩ := R
    unfold rqV at HWa HHo
    have m0 := hce 0 _ rfl
    have m1 := hce 1 _ rfl
    have m2 := hce 2 _ rfl
    have m3 := hce 3 _ rfl
    have m4 := hce 4 _ rfl
    simp only [Nat.add_zero] at m0
    clear hce
    have HX1 := Lib.hid hX1
    have HX2 := Lib.hid hX2
    have HX3 := Lib.hid hX3
    clear hX1 hX2 hX3
    go_wp2_with fail
    go_at_call 57
    refine (HWa.out _).mono ?_
    rintro e w2 ⟨rfl, g2⟩
    have hp2 := g2.at' hp1
    have hq2 := g2.at' hq1
    have HN2 := Lib.hid (HN.out.trans g2)
    clear c0 c1 c2 c3 hpl
    have c0 := hcell (j := 0) hp2
    have c1 := hcell (j := 1) hp2
    have c2 := hcell (j := 2) hp2
    have c3 := hcell (j := 3) hp2
    have hpl := hlt hp2
    clear m0 m1 m2 m3 m4
    have hce := HCe.out _ HN2.out
    have m0 := hce 0 _ rfl
    have m1 := hce 1 _ rfl
    have m2 := hce 2 _ rfl
    have m3 := hce 3 _ rfl
    have m4 := hce 4 _ rfl
    simp only [Nat.add_zero] at m0
    clear hce
    clear g2 HWa hp1 hq1
    by_cases hs : 0 < b4
    rotate_left
    · have ds : decide (0 < b4) = false := by simpa using hs
      have hR := HX1.out (by first | exact hs | exact Int.not_lt.1 hs)
      subst hR
      have d0 := hcell (j := 0) hq2
      have d1 := hcell (j := 1) hq2
      have d2 := hcell (j := 2) hq2
      have d3 := hcell (j := 3) hq2
      have fz := fun k => hfz (j := k) hq2
      have hsl2 := hlt hq2
      clear hs HX1 HX2 HX3 HCe HHo HRow HRow2 HCo HCl HWo HAt HN hp2 hq2
      go_wp2
      exact bodyPost_ret (v := .tuple #[.agg #[.int .i64 0, .int .i64 0, .slice none 0 0, .int .i64 0], .int .i64 7]) (by simp only [results, Tryz.results43]; simp [go_sem, *]) rfl ⟨_, rfl, fill_nw HN2.out (Nat.le_succ _) _ _ _ _, Rd.nil _, Nat.le_refl _, Fresh.nil _ _⟩
    have ds : decide (0 < b4) = true := by simpa using hs
    go_wp2_with fail
    go_at_call 60
    refine (HHo.out _).mono ?_
    rintro e w3 ⟨rfl, g3⟩
    have hp3 := g3.at' hp2
    have hq3 := g3.at' hq2
    have HN3 := Lib.hid (HN2.out.trans g3)
    clear c0 c1 c2 c3 hpl
    have c0 := hcell (j := 0) hp3
    have c1 := hcell (j := 1) hp3
    have c2 := hcell (j := 2) hp3
    have c3 := hcell (j := 3) hp3
    have hpl := hlt hp3
    clear m0 m1 m2 m3 m4
    have hce := HCe.out _ HN3.out
    have m0 := hce 0 _ rfl
    have m1 := hce 1 _ rfl
    have m2 := hce 2 _ rfl
    have m3 := hce 3 _ rfl
    have m4 := hce 4 _ rfl
    simp only [Nat.add_zero] at m0
    clear hce
    clear g3 HHo hp2 hq2
    by_cases hm : b2 = 0
    · have dm : (b2 != 0) = false := by simpa using hm
      have hR := HX2.out hs hm
      subst hR
      rw [dm]
      have HQ := Lib.hid hq3
      have HWo2 := Lib.hid (HWo.out _ HN3.out)
      clear dm hs hm ds HX1 HX2 HX3 HCe HRow HRow2 HCo HCl HWo HAt hp3 hq3
      go_wp2_with fail
      go_at_call 56
      refine HWo2.out.mono ?_
      rintro e w4 ⟨v2, rfl, g4, hR, hcap, hfr⟩
      have hs := Lib.hid (hlt HQ.out)
      have hq4 := g4.at' HQ.out
      have HR := Lib.hid (And.intro hR (And.intro hcap hfr))
      have HN4 := Lib.hid (HN3.out.trans g4)
      obtain ⟨a2, k2, hv2⟩ := hR.form
      obtain ⟨n2, hn2⟩ : ∃ n, (lvQ id q).length = n := ⟨_, rfl⟩
      rw [hn2] at hv2
      subst hv2
      have d0 := hcell (j := 0) hq4
      have d1 := hcell (j := 1) hq4
      have d2 := hcell (j := 2) hq4
      have d3 := hcell (j := 3) hq4
      have fz := fun k => hfz (j := k) hq4
      have hsl2 := hlt hq4
      clear hq4 hR hcap hfr g4 hn2 HQ HWo2 HN HN2 c0 c1 c2 c3 hpl m0 m1 m2 m3 m4
      go_wp2
      exact bodyPost_ret (v := .tuple #[.agg #[.int .i64 t, .int .i64 r, .slice a2 n2 k2, .int .i64 W], .int .i64 0]) (by simp only [results, Tryz.results43]; simp [go_sem, *]) rfl ⟨_, rfl, fill_nw HN4.out (Nat.le_succ _) _ _ _ _, rd_fill HR.out.1 HR.out.2.2 hs.out _ _ _ _, HR.out.2.1, HR.out.2.2.old HN3.out⟩
    · have dm : (b2 != 0) = true := by simpa using hm
      have hR := HX3.out hs hm
      subst hR
      rw [dm]
      have HQ := Lib.hid (And.intro hp3 hq3)
      have HCl2 := Lib.hid (HCl.out _ HN3.out)
      clear dm hs hm ds HX1 HX2 HX3 HCe HCl HWo HAt hp3 hq3
      go_wp2_with fail
      go_at_call 27
      refine HCl2.out.mono ?_
      rintro e w4 ⟨v4, rfl, g4, hO⟩
      obtain ⟨g, cap, rfl, hg0, hgl, _⟩ := RqOwn.at hO hk
      have hne : ¬ g = w.heap.size := by have := hlt HQ.out.1; omega
      have hne' : ¬ w.heap.size = g := fun e => hne e.symm
      have hn2 : ¬ g = w.heap.size + 1 := by have := hlt HQ.out.2; omega
      have hn2' : ¬ w.heap.size + 1 = g := fun e => hn2 e.symm
      have hp4 := g4.at' HQ.out.1
      have hq4 := g4.at' HQ.out.2
      have HB := Lib.hid (And.intro (hlt HQ.out.1) (hlt HQ.out.2))
      have hO1 := own_st hO (p := ⟨w.heap.size, 2, none⟩) (by exact HB.out.1) (.slice (some ⟨g, 0, none⟩) q.length cap)
      have hO2 := HRow.out _ _ _ _ 3 (by decide) (.int .i64 b2) ⟨b0, b1, b2, b2, b4⟩ rfl hO1
      have hO3 := HRow2.out _ _ _ _ ⟨b0, b1, b2, b2, b4⟩ 4 (by decide) (.int .i64 0) ⟨b0, b1, b2, b2, 0⟩ rfl hO2
      have hO4 := fill_own hO3 (rb := w.heap.size + 1) HB.out.2 (.int .i64 t) (.int .i64 r) (.slice (some ⟨g, 0, none⟩) q.length cap) (.int .i64 W)
      have HO4 := Lib.hid hO4
      have HN4 := Lib.hid (HN3.out.trans g4)
      have HG := Lib.hid (And.intro hg0 HN3.out.sz)
      have hoc := HCo.out _ _ _ _ hO
      clear c0 c1 c2 c3 hpl m0 m1 m2 m3 m4
      have c0 := hcell (j := 0) hp4
      have c1 := hcell (j := 1) hp4
      have c2 := hcell (j := 2) hp4
      have c3 := hcell (j := 3) hp4
      have hpl := hlt hp4
      have fp := fun k => hfz (j := k) hp4
      have fg := fun k => own_frz hO rfl k
      have m2 := hoc 2 _ rfl
      have m3 := hoc 3 _ rfl
      have m4 := hoc 4 _ rfl
      have d0 := hcell (j := 0) hq4
      have d1 := hcell (j := 1) hq4
      have d2 := hcell (j := 2) hq4
      have d3 := hcell (j := 3) hq4
      have fz := fun k => hfz (j := k) hq4
      have hsl2 := hlt hq4
      clear hq4 hp4 hO hO1 hO2 hO3 hO4 hoc g4 HCl2 HN HN2 HRow HRow2 HCo hg0
      go_wp2
      exact bodyPost_ret (v := .tuple #[.agg #[.int .i64 t, .int .i64 r, .slice (some ⟨g, 0, none⟩) q.length cap, .int .i64 W], .int .i64 0]) (by simp only [results, Tryz.results43]; simp [go_sem, *]) rfl ⟨_, rfl, fill_nw (((HN4.out.st (Nat.le_refl _) _).st (by show w.heap.size ≤ g; have := HG.out; omega) _).st (by show w.heap.size ≤ g; have := HG.out; omega) _) (Nat.le_succ _) _ _ _ _, RqOwn.rd HO4.out, HO4.out.cap, HO4.out.fresh HG.out.2⟩
end Go.Proofs.YtfemopcichmlmaaGreatRRR
end

/- end: Leave and Abandon. -/
section
namespace Go.Proofs.YtfemopcichmlmaaGreatRRR
open Go.RowKit Go.Shelf
set_option linter.unusedVariables false      -- a contract need not use every name

/-- A box that is new does not lie in the bucket. -/
theorem Db.box {w w1 w2 : World} {o mb po n : Nat} {l : List Hp} {L L1 : List Bool} {F F1 : Nat → Prop} (h : Db w o mb po n l L F) (h1 : Db w1 o mb po n l L1 F1) {pb : Nat} (hpb : w.heap.size ≤ pb) (hF : ¬ F1 pb) (t : Tch (fun b => b = pb) w1 w2) : Db w2 o mb po n l L1 F1 := by
  have hol := h.ol
  have hml := h.map.lt
  refine h1.tch t (fun e => by omega) (fun e => by omega) (fun k e q => hF (q ▸ e)) (fun x hx => ⟨fun e => ?_, fun b e hq e2 => ?_⟩)
  · have := (h.ok x hx).lt; omega
  · obtain ⟨a', c', e1, ⟨q1, _⟩ | ⟨b', o', e3, hc⟩⟩ := (h.ok x hx).rd
    · exact hq q1
    · unfold hpV at e1
      rw [e, e3] at e1
      injection e1 with e1 _ _
      injection e1 with e1
      subst e1
      have := hc.lt
      have e4 : (⟨b', o', none⟩ : Addr).block = b' := rfl
      omega
theorem wth_some {l : List Hp} {id : Int} {x : Hp} (e : whP l id = some x) : wthP l id = x ∧ x ∈ l ∧ ∃ r, fnd x.h.q id = some r := by
  refine ⟨by unfold wthP; rw [e]; rfl, List.mem_of_find?_eq_some e, ?_⟩
  have := List.find?_some e
  exact Option.isSome_iff_exists.1 this
theorem wth_none {l : List Hp} {id : Int} (e : whP l id = none) : wthP l id = zeroHp := by unfold wthP; rw [e]; rfl
theorem wth_rd {w : World} {o mb po n : Nat} {l : List Hp} {L : List Bool} {F : Nat → Prop} (h : Db w o mb po n l L F) (id : Int) : RqAt w (hpV (wthP l id)) (wthP l id).h.q := by
  cases e : whP l id with
  | none => rw [wth_none e]; exact Rd.nil w
  | some x => rw [(wth_some e).1]; exact (h.ok x (wth_some e).2.1).rd
theorem wth_ok {n k : Nat} {l : List Hp} {L : List Bool} (b : BInv n k (hsP l) L) (id : Int) : HInv (wthP l id).h ∧ (wthP l id).h.W ≤ k ∧ (wthP l id).h.q.length ≤ k := by
  cases e : whP l id with
  | none => rw [wth_none e]; exact ⟨inv_nil 0 0, by show (0 : Int) ≤ (k : Int); omega, Nat.zero_le _⟩
  | some x =>
    rw [(wth_some e).1]
    have hm : x.h ∈ hsP l := List.mem_map.2 ⟨x, (wth_some e).2.1, rfl⟩
    exact ⟨b.inv _ hm, b.wt _ hm, b.ql _ hm⟩
/-- What end comes to. -/
def EndD (w : World) (o mb po n : Nat) (F : Nat → Prop) (l : List Hp) (L : List Bool) (id : Int) (X : Hq) (E : Int) (e : Ending) (w' : World) : Prop :=
  (E ≠ 0 → e = .returned (.tuple #[.slice none 0 0, .int .i64 E]) ∧ Nw w w') ∧
  (E = 0 → ∃ vi l', e = .returned (.tuple #[vi, .int .i64 0]) ∧ IS w' vi (scanQ X.q).1 ∧ hsP l' = endS (hsP l) X ∧ DbTo w o mb po n F w' l' (if (fnd X.q id).isSome = true then L else gvL L id) ∧ ∀ b, vi.ownBlock = some b → w.heap.size ≤ b)
set_option maxRecDepth 20000 in
set_option maxHeartbeats 4000000 in
theorem end_d {w : World} {o mb po n : Nat} {l : List Hp} {L : List Bool} {F : Nat → Prop} (h : Db w o mb po n l L F) (id : Int) (g : Nat) (eg : ∀ args w, (callFunc g args).run Tryz.prog w = .ok (.enter g args) w) (X : Hq) (E : Int)
    (hC : ∀ w1, Nw w w1 → Calls Tryz.prog g #[hpH (wthP l id), .int .i64 id] w1 (HD1 (X, E) w1))
    (hX : E = 0 → wfN (X.t, X.r) ∧ X.q.length ≤ 1000 ∧ Ok X.W X.q ∧ (endS (hsP l) X).length ≤ 64) :
    Calls Tryz.prog 38 #[.pointer (some ⟨o, 0, none⟩), .int .i64 id, .func (.func g) #[] #[]] w (EndD w o mb po n F l L id X E) := by
  have H := Lib.hid h
  have hol := h.ol
  have HMd := Lib.hid (bmade_yes o w h.c0)
  have HWi := Lib.hid (with_any h id)
  have HC := Lib.hid hC
  have HX := Lib.hid hX
  obtain ⟨V, hV⟩ : ∃ V, hpH (wthP l id) = V := ⟨_, rfl⟩
  rw [hV] at HWi HC
  have hVa : ∃ c, V = .agg c := ⟨_, hV.symm⟩
  clear h hC hX hV
  obtain ⟨cs, rfl⟩ := hVa
  go_enter Tryz.func38, Tryz.ntmps38
  go_wp2_with fail
  refine HMd.out.mono ?_
  rintro e w' ⟨rfl, rfl⟩
  go_wp2_with fail
  refine HWi.out.mono ?_
  rintro e w1 ⟨rfl, g1⟩
  go_wp2_with fail
  refine (HC.out _ g1).mono ?_
  rintro e w2 ⟨v2, rfl, g2, rd2, cap2, fr2⟩
  obtain ⟨a2, c2, hv2⟩ := rd2.form
  obtain ⟨q2l, hq2⟩ : ∃ q2l, X.q.length = q2l := ⟨_, rfl⟩
  simp only at hv2 rd2
  rw [hq2] at hv2
  subst hv2
  have HG := Lib.hid (g1.trans g2)
  have HRd := Lib.hid (And.intro rd2 (And.intro fr2 (And.intro hq2 g1)))
  obtain ⟨Xt, Xr, XW, Xq⟩ := X
  simp only [hdV]
  clear g1 g2 rd2 cap2 fr2 hq2
  by_cases he : E = 0
  · subst he
    obtain ⟨hwa, hxl, hxo, hxe⟩ := HX.out rfl
    simp only at hwa hxl hxo hxe
    obtain ⟨y1, hy1⟩ : ∃ y1, w2.alloc (.cells #[.int .i64 Xt, .int .i64 Xr, .slice a2 q2l c2, .int .i64 XW] 52) = y1 := ⟨_, rfl⟩
    have hal := allocAt w2 (.cells #[.int .i64 Xt, .int .i64 Xr, .slice a2 q2l c2, .int .i64 XW] 52)
    rw [hy1] at hal
    have g3 : Nw w2 y1 := by rw [← hy1]; exact (Nw.refl w2).alloc _
    have hrd := HRd.out.1.nw g3
    have HFi := Lib.hid (fun w3 (g : Nw y1 w3) => dFindQ Xt Xr XW id (.slice a2 q2l c2) Xq w3 hxl (hrd.nw g))
    obtain ⟨b0, b1, b2, b3, b4, hv, _⟩ := fndV_eq Xq id
    rw [hv] at HFi
    unfold hdV at HFi
    obtain ⟨yb, hyb⟩ : ∃ yb, (fnd Xq id).isSome = yb := ⟨_, rfl⟩
    rw [hyb] at HFi
    have HY := Lib.hid hy1
    have HG1 := Lib.hid (HG.out.trans g3)
    have HXx := Lib.hid (And.intro hwa (And.intro hxl (And.intro hxo (And.intro hxe hyb))))
    have hpb : w.heap.size ≤ w2.heap.size := HG.out.sz
    clear hy1 g3 hv hwa hxl hxo hxe hyb
    go_wp2_with fail
    rw [HY.out]
    refine (HFi.out _ (Nw.refl _)).mono ?_
    rintro e y2 ⟨rfl, g4⟩
    obtain ⟨y3, hy3⟩ : ∃ y3, y2.alloc (.cells #[.int .i64 b0, .int .i64 b1, .int .i64 b2, .int .i64 b3, .int .i64 b4] 42) = y3 := ⟨_, rfl⟩
    have g5 : Nw y2 y3 := by rw [← hy3]; exact (Nw.refl y2).alloc _
    have HY3 := Lib.hid hy3
    have hal3 := (g4.trans g5).at' hal
    have hrd3 := hrd.nw (g4.trans g5)
    have HG3 := Lib.hid (HG1.out.trans (g4.trans g5))
    have hbl : w2.heap.size < y3.heap.size := hlt hal3
    have hal2 := g4.at' hal
    have HG2 := Lib.hid (HG1.out.trans g4)
    clear hy3 hal hrd HFi HY
    generalize w2.heap.size = pb at *
    have c2' := (H.out.nw HG2.out).c2
    have hol3 : o < y2.heap.size := Nat.lt_of_lt_of_le hol HG2.out.sz
    have p0 := hcell (j := 0) hal2
    have p1 := hcell (j := 1) hal2
    have p2 := hcell (j := 2) hal2
    have p3 := hcell (j := 3) hal2
    have pl2 := hlt hal2
    clear hal2
    have hes := HXx.out.2.2.2.1
    cases yb
    · have HGv := Lib.hid (give_any (H.out.nw HG3.out).pol id)
      go_wp2_with fail
      rw [HY3.out]
      refine HGv.out.mono ?_
      rintro e y4 ⟨rfl, hpt⟩
      obtain ⟨F1, hDb1, hF1, ht1⟩ := (H.out.nw HG3.out).pool hpt
      have hpbF : ¬ F pb := fun e => by have := H.out.pol.own _ e; omega
      obtain ⟨_, _, _, hpt'⟩ := hpt
      have hal4 := (hpt'.block pb hbl hpbF).trans hal3
      have hrd4 : RqAt y4 (.slice a2 q2l c2) Xq := rq_tchM hrd3 hpt' (fun a n c e hqe e2 => by
        simp only [Value.slice.injEq] at e
        obtain ⟨rfl, rfl, rfl⟩ := e
        obtain ⟨a', c', e1, ⟨q1, _⟩ | ⟨b', o', e3, _⟩⟩ := HRd.out.1
        · exact hqe q1
        · rw [e3] at e1
          injection e1 with e1 _ _
          injection e1 with e1
          subst e1
          rcases HRd.out.2.1 b' o' _ _ rfl with q2 | q2
          · have := H.out.pol.own _ e2
            have := HRd.out.2.2.2.sz
            have e4 : (⟨b', o', none⟩ : Addr).block = b' := rfl
            omega
          · exact hqe q2)
      have HS := Lib.hid (settle_any hDb1 Xt Xr XW (.slice a2 q2l c2) Xq HXx.out.1 HXx.out.2.1 HXx.out.2.2.1 hrd4 hes)
      have HK := Lib.hid (And.intro (show ∀ k, F1 k → F k ∨ w.heap.size ≤ k from fun k e => (hF1 k e).imp (fun q => q) (fun q => by have := HG3.out.sz; omega)) (show Tch (fun b => b = mb ∨ F b) w y4 from (Tch.nw HG3.out).trans ht1))
      have hys : w.heap.size ≤ y4.heap.size := HK.out.2.size
      have p0 := hcell (j := 0) hal4
      have p1 := hcell (j := 1) hal4
      have p2 := hcell (j := 2) hal4
      have p3 := hcell (j := 3) hal4
      have pl4 := hlt hal4
      clear hal3 hal4 hDb1 hF1 ht1 hpt' hpbF hrd4 hrd3 hes c2'
      go_wp2_with fail
      refine HS.out.mono ?_
      rintro e y5 ⟨vi, l', rfl, his, hl', hto, hin⟩
      have HR := Lib.hid (show EndD w o mb po n F l L id ⟨Xt, Xr, XW, Xq⟩ 0 (.returned (.tuple #[vi, .int .i64 0])) y5 from ⟨fun e => absurd rfl e, fun _ => ⟨vi, l', rfl, his, hl', by rw [if_neg (by rw [HXx.out.2.2.2.2]; simp)]; exact DbTo.comp HK.out.1 HK.out.2 hto, fun b e => Nat.le_trans hys (hin b e)⟩⟩)
      clear his hl' hto hin p0 p1 p2 p3
      go_wp2
      exact bodyPost_ret (v := .tuple #[vi, .int .i64 0]) (by simp [results, Tryz.results38, go_sem, *]) rfl HR.out
    · have HS := Lib.hid (settle_any (H.out.nw HG3.out) Xt Xr XW (.slice a2 q2l c2) Xq HXx.out.1 HXx.out.2.1 HXx.out.2.2.1 hrd3 hes)
      clear hal3 hrd3 hes c2'
      go_wp2_with fail
      rw [HY3.out]
      refine HS.out.mono ?_
      rintro e y5 ⟨vi, l', rfl, his, hl', hto, hin⟩
      have hys : w.heap.size ≤ y3.heap.size := HG3.out.sz
      have HR := Lib.hid (show EndD w o mb po n F l L id ⟨Xt, Xr, XW, Xq⟩ 0 (.returned (.tuple #[vi, .int .i64 0])) y5 from ⟨fun e => absurd rfl e, fun _ => ⟨vi, l', rfl, his, hl', by rw [if_pos (by rw [HXx.out.2.2.2.2])]; exact hto.pre HG3.out, fun b e => Nat.le_trans hys (hin b e)⟩⟩)
      clear his hl' hto hin p0 p1 p2 p3
      go_wp2
      exact bodyPost_ret (v := .tuple #[vi, .int .i64 0]) (by simp [results, Tryz.results38, go_sem, *]) rfl HR.out
  · have hne : (E != 0) = true := by simpa using he
    have hne2 : (E == 0) = false := by simpa using he
    have HR := Lib.hid (HG.out.alloc (.cells #[.int .i64 Xt, .int .i64 Xr, .slice a2 q2l c2, .int .i64 XW] 52))
    have HE := Lib.hid he
    clear he
    go_wp2
    exact bodyPost_ret (v := .tuple #[.slice none 0 0, .int .i64 E]) (by simp [results, Tryz.results38, go_sem, *]) rfl (show EndD w o mb po n F l L id ⟨Xt, Xr, XW, Xq⟩ E _ _ from ⟨fun _ => ⟨rfl, HR.out⟩, fun e => absurd e HE.out⟩)
end Go.Proofs.YtfemopcichmlmaaGreatRRR
end

/- Leave and Abandon, in plain words. -/
section
namespace Go.Proofs.YtfemopcichmlmaaGreatRRR
open Go.RowKit Go.Shelf
set_option linter.unusedVariables false      -- a contract need not use every name

theorem abd_found {q : List Rq} {id : Int} {r : Rq} (hf : fnd q id = some r) : (fnd (abQ r q) id).isSome = !decide (r.md = 0) := by
  obtain ⟨hr, hi⟩ := fnd_is hf
  unfold abQ
  by_cases hm : r.md = 0
  · rw [if_pos hm]
    have : fnd (lvQ r.id q) id = none := by
      refine List.find?_eq_none.2 fun x hx => ?_
      have := (List.mem_filter.1 hx).2
      rw [← hi]
      simpa using this
    rw [this]
    simp [hm]
  · rw [if_neg hm]
    have : (fnd (chg abR r.id q) id).isSome = true := by
      unfold fnd
      rw [List.find?_isSome]
      exact ⟨abR r, List.mem_map.2 ⟨r, hr, if_pos rfl⟩, by simp [abR, hi]⟩
    rw [this]
    simp [hm]
theorem lv_gone (q : List Rq) (id : Int) : fnd (lvQ id q) id = none := by
  unfold fnd lvQ
  rw [List.find?_eq_none]
  intro x hx
  have := (List.mem_filter.1 hx).2
  simpa using this
/-- What Leave and Abandon come to. -/
def OutD (w : World) (o mb po n : Nat) (F : Nat → Prop) (R : List Int × Int) (S : List Hq × List Bool) (e : Ending) (w' : World) : Prop :=
  ∃ vi l', e = .returned (.tuple #[vi, .int .i64 R.2]) ∧ IS w' vi R.1 ∧ hsP l' = S.1 ∧ DbTo w o mb po n F w' l' S.2 ∧ ∀ b, vi.ownBlock = some b → w.heap.size ≤ b
theorem wth_of (l : List Hp) (id : Int) : ofId (hsP l) id = (whP l id).map Hp.h := of_map l id
theorem e_leave : ∀ args w, (callFunc 39 args).run Tryz.prog w = .ok (.enter 39 args) w := enters_of Tryz.func39 (by kernel_rfl) rfl
theorem e_abandon : ∀ args w, (callFunc 43 args).run Tryz.prog w = .ok (.enter 43 args) w := enters_of Tryz.func43 (by kernel_rfl) rfl
theorem leave_d {w : World} {o mb po n k : Nat} {l : List Hp} {L : List Bool} {F : Nat → Prop} (h : Db w o mb po n l L F) (b : BInv n k (hsP l) L) (hk : k ≤ 800) (hn : n ≤ 64) (id : Int) :
    Calls Tryz.prog 16 #[.pointer (some ⟨o, 0, none⟩), .int .i64 id] w (OutD w o mb po n F (lvBR (hsP l) id) (lvBS (hsP l) L id)) := by
  obtain ⟨hi, hW, hql⟩ := wth_ok b id
  have hbl := (binv_lv b id).len
  obtain ⟨X, hX⟩ : ∃ X, lvR (wthP l id).h id = X := ⟨_, rfl⟩
  have hC := fun w1 (g : Nw w w1) => dLeave (wthP l id).h.t (wthP l id).h.r (wthP l id).h.W id (hpV (wthP l id)) (wthP l id).h.q w1 (by omega) ((wth_rd h id).nw g)
  rw [show (⟨(wthP l id).h.t, (wthP l id).h.r, (wthP l id).h.W, (wthP l id).h.q⟩ : Hq) = (wthP l id).h from rfl, hX] at hC
  have key : (X.2 = 0 → wfN (X.1.t, X.1.r) ∧ X.1.q.length ≤ 1000 ∧ Ok X.1.W X.1.q ∧ (endS (hsP l) X.1).length ≤ 64) ∧ ((X.2 = 5 ∧ lvBR (hsP l) id = ([], 5) ∧ lvBS (hsP l) L id = (hsP l, L)) ∨ (X.2 = 0 ∧ lvBR (hsP l) id = ((scanQ X.1.q).1, 0) ∧ lvBS (hsP l) L id = (endS (hsP l) X.1, gvL L id) ∧ (fnd X.1.q id).isSome = false)) := by
    cases e : whP l id with
    | none =>
      have e0 : X = (noH, 5) := by rw [← hX, wth_none e]; rfl
      have e1 : ofId (hsP l) id = none := by rw [wth_of, e]; rfl
      subst e0
      exact ⟨fun q => (by cases q), .inl ⟨rfl, by unfold lvBR; rw [e1], by unfold lvBS; rw [e1]⟩⟩
    | some x =>
      obtain ⟨ex, hx, r, hr⟩ := wth_some e
      have e1 : ofId (hsP l) id = some x.h := by rw [wth_of, e]; rfl
      have e0 : X = (⟨x.h.t, x.h.r, x.h.W, lvQ id x.h.q⟩, 0) := by rw [← hX, ex]; unfold lvR; rw [hr]
      rw [ex] at hi hW hql
      subst e0
      have hS : lvBS (hsP l) L id = (endS (hsP l) ⟨x.h.t, x.h.r, x.h.W, lvQ id x.h.q⟩, gvL L id) := by unfold lvBS; rw [e1]
      rw [hS] at hbl
      simp only at hbl
      exact ⟨fun _ => ⟨h.map.wf x hx, by have := lvQ_len id x.h.q; simp only; omega, ok_lv hi.ok id, by simp only; omega⟩, .inr ⟨rfl, by unfold lvBR; rw [e1], hS, by simp only; rw [lv_gone]; rfl⟩⟩
  have HDB := Lib.hid h
  have HE := Lib.hid (end_d h id 39 e_leave X.1 X.2 hC key.1)
  have HK := Lib.hid key.2
  clear hC key hbl hi hW hql hX h b
  go_enter Tryz.func16, Tryz.ntmps16
  go_wp2_with fail
  refine HE.out.mono ?_
  rintro e w' ⟨h1, h2⟩
  rcases HK.out with ⟨k1, k2, k3⟩ | ⟨k1, k2, k3, k4⟩
  · obtain ⟨rfl, g⟩ := h1 (by rw [k1]; decide)
    have HR := Lib.hid (And.intro k2 (And.intro k3 g))
    rw [k1]
    clear h1 h2 k2 k3 g
    go_wp2
    refine bodyPost_ret (v := .tuple #[.slice none 0 0, .int .i64 5]) (by simp [results, Tryz.results16, go_sem, *]) rfl ?_
    unfold OutD
    rw [HR.out.1, HR.out.2.1]
    exact ⟨_, l, rfl, IS.nil _, rfl, HDB.out.to HR.out.2.2, fun b e => by cases e⟩
  · obtain ⟨vi, l', rfl, his, hl', hto, hin⟩ := h2 k1
    have HR := Lib.hid (And.intro k2 (And.intro k3 (And.intro his (And.intro hl' (And.intro hto (And.intro hin k4))))))
    clear h1 h2 k2 k3 k4 his hl' hto hin
    go_wp2
    refine bodyPost_ret (v := .tuple #[vi, .int .i64 0]) (by simp [results, Tryz.results16, go_sem, *]) rfl ?_
    unfold OutD
    rw [HR.out.1, HR.out.2.1]
    exact ⟨_, l', rfl, HR.out.2.2.1, HR.out.2.2.2.1, by have := HR.out.2.2.2.2.1; rw [if_neg (by rw [HR.out.2.2.2.2.2.2]; simp)] at this; exact this, HR.out.2.2.2.2.2.1⟩
theorem abandon_d {w : World} {o mb po n k : Nat} {l : List Hp} {L : List Bool} {F : Nat → Prop} (h : Db w o mb po n l L F) (b : BInv n k (hsP l) L) (hk : k ≤ 800) (hn : n ≤ 64) (id : Int) :
    Calls Tryz.prog 24 #[.pointer (some ⟨o, 0, none⟩), .int .i64 id] w (OutD w o mb po n F (abBR (hsP l) id) (abBS (hsP l) L id)) := by
  obtain ⟨hi, hW, hql⟩ := wth_ok b id
  have hbl := (binv_ab b id).len
  obtain ⟨X, hX⟩ : ∃ X, abRes (wthP l id).h id = X := ⟨_, rfl⟩
  have hC := fun w1 (g : Nw w w1) => dAbandon (wthP l id).h.t (wthP l id).h.r (wthP l id).h.W id (hpV (wthP l id)) (wthP l id).h.q w1 (by omega) hi.ok ((wth_rd h id).nw g)
  rw [show (⟨(wthP l id).h.t, (wthP l id).h.r, (wthP l id).h.W, (wthP l id).h.q⟩ : Hq) = (wthP l id).h from rfl, hX] at hC
  have key : (X.2 = 0 → wfN (X.1.t, X.1.r) ∧ X.1.q.length ≤ 1000 ∧ Ok X.1.W X.1.q ∧ (endS (hsP l) X.1).length ≤ 64) ∧ ((X.2 ≠ 0 ∧ abBR (hsP l) id = ([], X.2) ∧ abBS (hsP l) L id = (hsP l, L)) ∨ (X.2 = 0 ∧ abBR (hsP l) id = ((scanQ X.1.q).1, 0) ∧ abBS (hsP l) L id = (endS (hsP l) X.1, if (fnd X.1.q id).isSome = true then L else gvL L id))) := by
    cases e : whP l id with
    | none =>
      have e0 : X = (noH, 5) := by rw [← hX, wth_none e]; rfl
      have e1 : ofId (hsP l) id = none := by rw [wth_of, e]; rfl
      subst e0
      exact ⟨fun q => (by cases q), .inl ⟨by decide, by unfold abBR; rw [e1], by unfold abBS; rw [e1]⟩⟩
    | some x =>
      obtain ⟨ex, hx, r, hr⟩ := wth_some e
      have e1 : ofId (hsP l) id = some x.h := by rw [wth_of, e]; rfl
      have er := rqB_of hr
      rw [ex] at hi hW hql
      by_cases hsn : 0 < r.sn
      · have e0 : X = (⟨x.h.t, x.h.r, x.h.W, abQ r x.h.q⟩, 0) := by rw [← hX, ex]; unfold abRes; rw [hr]; simp only; rw [if_pos hsn]
        subst e0
        have hf := abd_found hr
        have hS : abBS (hsP l) L id = (endS (hsP l) ⟨x.h.t, x.h.r, x.h.W, abQ r x.h.q⟩, if (fnd (abQ r x.h.q) id).isSome = true then L else gvL L id) := by
          unfold abBS
          rw [e1]
          simp only [er]
          rw [if_pos hsn, hf]
          by_cases hm : r.md = 0 <;> simp [hm]
        rw [hS] at hbl
        simp only at hbl
        exact ⟨fun _ => ⟨h.map.wf x hx, by have := abQ_len r x.h.q; simp only; omega, ok_ab hi.ok r (fndI hr).1, by simp only; omega⟩, .inr ⟨rfl, by unfold abBR; rw [e1]; simp only [er]; rw [if_pos hsn], hS⟩⟩
      · have e0 : X = (noH, 7) := by rw [← hX, ex]; unfold abRes; rw [hr]; simp only; rw [if_neg hsn]
        subst e0
        exact ⟨fun q => (by cases q), .inl ⟨by decide, by unfold abBR; rw [e1]; simp only [er]; rw [if_neg hsn], by unfold abBS; rw [e1]; simp only [er]; rw [if_neg hsn]⟩⟩
  have HDB := Lib.hid h
  have HE := Lib.hid (end_d h id 43 e_abandon X.1 X.2 hC key.1)
  have HK := Lib.hid key.2
  clear hC key hbl hi hW hql hX h b
  go_enter Tryz.func24, Tryz.ntmps24
  go_wp2_with fail
  refine HE.out.mono ?_
  rintro e w' ⟨h1, h2⟩
  rcases HK.out with ⟨k1, k2, k3⟩ | ⟨k1, k2, k3⟩
  · obtain ⟨rfl, g⟩ := h1 k1
    have HR := Lib.hid (And.intro k2 (And.intro k3 g))
    generalize X.2 = E at *
    clear h1 h2 k1 k2 k3 g
    go_wp2
    refine bodyPost_ret (v := .tuple #[.slice none 0 0, .int .i64 E]) (by simp [results, Tryz.results24, go_sem, *]) rfl ?_
    unfold OutD
    rw [HR.out.1, HR.out.2.1]
    exact ⟨_, l, rfl, IS.nil _, rfl, HDB.out.to HR.out.2.2, fun b e => by cases e⟩
  · obtain ⟨vi, l', rfl, his, hl', hto, hin⟩ := h2 k1
    have HR := Lib.hid (And.intro k2 (And.intro k3 (And.intro his (And.intro hl' (And.intro hto hin)))))
    clear h1 h2 k2 k3 his hl' hto hin
    go_wp2
    refine bodyPost_ret (v := .tuple #[vi, .int .i64 0]) (by simp [results, Tryz.results24, go_sem, *]) rfl ?_
    unfold OutD
    rw [HR.out.1, HR.out.2.1]
    exact ⟨_, l', rfl, HR.out.2.2.1, HR.out.2.2.2.1, HR.out.2.2.2.2.1, HR.out.2.2.2.2.2⟩
end Go.Proofs.YtfemopcichmlmaaGreatRRR
end

/- The developers' package queue: Upgrade. -/
section
namespace Go.Proofs.YtfemopcichmlmaaGreatRRR
open Go.RowKit
set_option linter.unusedVariables false      -- a contract need not use every name

theorem dSup (a b : Int) (w : World) (ha : knI a = true) (hb : knI b = true) : Calls Tryz.prog 59 #[.int .i64 a, .int .i64 b] w fun e w' => e = .returned (.int .i64 (supT a b)) ∧ Nw w w' := by
  have h1 : 0 ≤ a ∧ a < 7 := by simpa [knI] using ha
  have h2 : 0 ≤ b ∧ b < 7 := by simpa [knI] using hb
  exact sup_in a b w h1.1 h1.2 h2.1 h2.2
set_option maxRecDepth 100000 in
set_option maxHeartbeats 8000000 in
theorem dUpgrade (t r W id m : Int) (v : Value) (q : List Rq) (w : World) (hl : q.length ≤ 900) (hok : Ok W q) (h : RqAt w v q) :
    Calls Tryz.prog 42 #[hdV t r v W, .int .i64 id, .int .i64 m] w (HD2 (upR ⟨t, r, W, q⟩ id m) w) := by
  obtain ⟨X, hX⟩ : ∃ X, upR ⟨t, r, W, q⟩ id m = X := ⟨_, rfl⟩
  rw [hX]
  have HLo := Lib.hid (fun w => dLockable m w)
  have HOk := Lib.hid hok
  have HAt := Lib.hid h
  have hFi := fun (w1 : World) (g : Nw w w1) (f : Value) (hf : Tells w1 f (fun R => R.id == id)) => dFind t r W v f _ q w1 (by omega) (h.nw g) hf
  have HLi := Lib.hid (fun (w1 : World) (g : Nw w w1) => dLineOf t r W v q w1 (by omega) (fun R hR => (hok.rt R hR).md) (h.nw g))
  obtain ⟨a, c, rfl, _⟩ := h
  unfold HD2 hdV at *
  have HX := Lib.hid (two_boxes w (.cells #[.int .i64 t, .int .i64 r, .slice a q.length c, .int .i64 W] 52) (.cells #[.int .i64 0, .int .i64 0, .slice none 0 0, .int .i64 0] 52))
  obtain ⟨y, hy⟩ : ∃ y, ((m != 0) && knI m) = y := ⟨_, rfl⟩
  rw [hy] at HLo
  obtain ⟨px, hpx⟩ : ∃ px, plc (fun R => R.id == id) q = px := ⟨_, rfl⟩
  rw [hpx] at hFi
  have HFi := Lib.hid hFi
  have HWi := Lib.hid (dWithID id)
  clear hFi hok
  cases y
  · have hR := hX.symm.trans (up_bad (h := ⟨t, r, W, q⟩) (by cases e : knI m with | false => exact .inr rfl | true => rw [e, Bool.and_true] at hy; exact .inl (by simpa using hy)))
    subst hR
    clear hy hpx HFi HWi HLi HOk HAt hX
    go_enter Tryz.func42, Tryz.ntmps42
    go_wp2_with fail
    go_at_call 47
    refine (HLo.out _).mono ?_
    rintro e w1 ⟨rfl, g1⟩
    have hq1 := g1.at' HX.out.2.1
    have HQ := Lib.hid (HX.out.2.2.1.trans g1)
    have d0 := hcell (j := 0) hq1
    have d1 := hcell (j := 1) hq1
    have d2 := hcell (j := 2) hq1
    have d3 := hcell (j := 3) hq1
    have fz := fun k => hfz (j := k) hq1
    have hsl2 := hlt hq1
    clear g1 hq1 HX HLo
    go_wp2
    exact bodyPost_ret (v := .tuple #[.agg #[.int .i64 0, .int .i64 0, .slice none 0 0, .int .i64 0], .bool false, .int .i64 2]) (by simp only [results, Tryz.results42]; simp [go_sem, *]) rfl ⟨_, rfl, fill_nw HQ.out (Nat.le_succ _) _ _ _ _, Rd.nil _, Nat.le_refl _, Fresh.nil _ _⟩
  have hgood : ¬ (m = 0 ∨ knI m = false) := by
    rw [Bool.and_eq_true, bne_iff_ne] at hy
    rintro (e | e)
    · exact hy.1 e
    · rw [hy.2] at e; cases e
  have hkm : knI m = true := by
    rw [Bool.and_eq_true] at hy
    exact hy.2
  have HGd := Lib.hid (And.intro hgood hkm)
  clear hy hgood hkm
  go_enter Tryz.func42, Tryz.ntmps42
  go_wp2_with fail
  go_at_call 47
  refine (HLo.out _).mono ?_
  rintro e w1 ⟨rfl, g1⟩
  have hx1 := g1.at' HX.out.1
  have HB1 := Lib.hid (And.intro (And.intro (g1.at' HX.out.1) (g1.at' HX.out.2.1)) (HX.out.2.2.1.trans g1))
  have s0 : ∀ z, Nw w1 z → z.cell? ⟨w.heap.size, 0, none⟩ = some (.int .i64 t) := fun z hz => hz.kp (hcell (j := 0) hx1)
  have s1 : ∀ z, Nw w1 z → z.cell? ⟨w.heap.size, 1, none⟩ = some (.int .i64 r) := fun z hz => hz.kp (hcell (j := 1) hx1)
  have s2 : ∀ z, Nw w1 z → z.cell? ⟨w.heap.size, 2, none⟩ = some (.slice a q.length c) := fun z hz => hz.kp (hcell (j := 2) hx1)
  have s3 : ∀ z, Nw w1 z → z.cell? ⟨w.heap.size, 3, none⟩ = some (.int .i64 W) := fun z hz => hz.kp (hcell (j := 3) hx1)
  clear hx1 g1 HX HLo
  go_wp2
  have q1 := (Nw.refl w1).drewQ
  obtain ⟨wc, hwc⟩ : ∃ wc, w1.drew = wc := ⟨_, rfl⟩
  refine region_told [some true, some true, some false, none, some false, none, some true] (Nw w1) (by kernel_rfl) (by kernel_rfl) (by kernel_rfl) q1 ?_
  rw [hwc] at q1 ⊢
  clear hwc
  repeat (first
    | (refine HW.off ?_)
    | (refine HW.take' ?_; (first | (refine ⟨undef, Or.inr ⟨by rfl, rfl⟩, ?_⟩) | (apply Exists.intro; refine ⟨Or.inl ⟨by rfl, ?_⟩, ?_⟩; (intro x hx; go_simp; first | done | with_reducible rfl))); (try simp only [Act.put, List.setIfInBounds_toArray, List.set_cons_zero, List.set_cons_succ]))
    | (refine HW.go (fun K hK => ?_); go_simp; (first
      | (go_at_call 49; (with_reducible refine (HWi.out _).mono ?_); rintro e wy ⟨pa, rfl, g2, hbx⟩; refine hK.out _ _ (q1.trans g2) ?_; intro _; replace q1 := q1.trans g2; clear hK K g2; replace hbx := Tells.withID hbx)
      | (go_at_call 48; (with_reducible refine (HFi.out _ (HB1.out.2.trans q1) _ hbx).mono ?_); rintro e wy ⟨rfl, g2⟩; refine hK.out _ _ (q1.trans g2) ?_; intro _; replace q1 := q1.trans g2; clear hK K g2 hbx)
      | (refine hK.out _ _ q1 ?_; intro _; clear hK K))))
  refine HW.end_ ?_
  refine NoPanic.normal ?_
  have HN := Lib.hid (HB1.out.2.trans q1)
  have hp1 := q1.at' HB1.out.1.1
  have hq1 := q1.at' HB1.out.1.2
  have c0 := hcell (j := 0) hp1
  have c1 := hcell (j := 1) hp1
  have c2 := hcell (j := 2) hp1
  have c3 := hcell (j := 3) hp1
  have hpl := hlt hp1
  rcases at_plc q id with ⟨e1, hf⟩ | ⟨k, e1, hk, hf⟩
  · obtain rfl := hpx.symm.trans e1
    have hR := hX.symm.trans (up_none (h := ⟨t, r, W, q⟩) HGd.out.1 hf)
    subst hR
    have d0 := hcell (j := 0) hq1
    have d1 := hcell (j := 1) hq1
    have d2 := hcell (j := 2) hq1
    have d3 := hcell (j := 3) hq1
    have fz := fun k => hfz (j := k) hq1
    have hsl2 := hlt hq1
    clear hpx hX e1 hf s0 s1 s2 s3 HB1 HFi HWi HAt q1 hp1 hq1 HLi HOk
    go_wp2
    exact bodyPost_ret (v := .tuple #[.agg #[.int .i64 0, .int .i64 0, .slice none 0 0, .int .i64 0], .bool false, .int .i64 5]) (by simp only [results, Tryz.results42]; simp [go_sem, *]) rfl ⟨_, rfl, fill_nw HN.out (Nat.le_succ _) _ _ _ _, Rd.nil _, Nat.le_refl _, Fresh.nil _ _⟩
  · obtain rfl := hpx.symm.trans e1
    have dk : ((k : Int) == -1) = false := by simp
    have hX1 : 0 < q[k].sn → X = (noH, false, 7) := fun s => hX.symm.trans (up_wait (h := ⟨t, r, W, q⟩) HGd.out.1 hf s)
    have hX2 : ¬ 0 < q[k].sn → X = (⟨t, r, (upQ W q q[k] m).1, (upQ W q q[k] m).2.1⟩, (upQ W q q[k] m).2.2, 0) := fun s => hX.symm.trans (up_go (h := ⟨t, r, W, q⟩) HGd.out.1 hf s)
    have HRt := Lib.hid (HOk.out.rt _ (List.getElem_mem hk))
    have HUp := Lib.hid (fun (hs : q[k].sn = 0) (want : Int) (hw : knI want = true) => up_en HOk.out k hk hs want hw)
    have HCh := Lib.hid (fun (f : Rq → Rq) => chg_set HOk.out f k hk)
    have HSl := Lib.hid (fun x e => set_self hk x e)
    have HCq := Lib.hid (fun (R : Rq) (hm : R.md = q[k].md) => cntQ_same q k hk R hm)
    have HAw := Lib.hid (fun (z : World) (g0 : Nat) (v : Value) (h : RqOwn z g0 v q) => RqOwn.at h hk)
    rcases HAt.out with ⟨a', c', e3, ⟨e4, _⟩ | ⟨b, o, e4, hc⟩⟩
    · subst e4; simp at hk
    simp only [Value.slice.injEq, true_and] at e3
    obtain ⟨rfl, rfl⟩ := e3
    subst e4
    have hki : (k : Int) < (q.length : Int) := by omega
    have hce := (hc.nw HN.out).cell k hk
    have HCe := Lib.hid (fun (z : World) (g : Nw w z) => (hc.nw g).cell k hk)
    have HWa := Lib.hid (fun z => dWaits q[k] z)
    have HHo := Lib.hid (fun z => dHolds q[k] z)
    have HRow := Lib.hid (fun (z : World) (g0 g cap : Nat) (j : Nat) (hj : j < 5) (u : Value) (new : Rq) (e : (rqrow q[k]).set j u = rqrow new) (h : RqOwn z g0 (.slice (some ⟨g, 0, none⟩) q.length cap) q) => own_upd h rfl k hk j hj u new e)
    have HRow2 := Lib.hid (fun (z : World) (g0 g cap : Nat) (X : Rq) (j : Nat) (hj : j < 5) (u : Value) (new : Rq) (e : (rqrow X).set j u = rqrow new) (h : RqOwn z g0 (.slice (some ⟨g, 0, none⟩) q.length cap) (q.set k X)) => own_upd h (by rw [List.length_set]) k (by rw [List.length_set]; exact hk) j hj u new (by rw [List.getElem_set_self]; exact e))
    simp only [List.set_set] at HRow2
    have HCo := Lib.hid (fun (z : World) (g0 g cap : Nat) (h : RqOwn z g0 (.slice (some ⟨g, 0, none⟩) q.length cap) q) => own_cell h rfl k hk)
    clear hpx hX e1 hf s0 s1 s2 s3 HB1 HFi HWi q1 hc
    generalize q[k] = R at *
    obtain ⟨b0, b1, b2, b3, b4⟩ := R
    unfold rqV at HWa HHo
    have m0 := hce 0 _ rfl
    have m1 := hce 1 _ rfl
    have m2 := hce 2 _ rfl
    have m3 := hce 3 _ rfl
    have m4 := hce 4 _ rfl
    simp only [Nat.add_zero] at m0
    clear hce HHo
    have HX1 := Lib.hid hX1
    have HX2 := Lib.hid hX2
    clear hX1 hX2
    go_wp2_with fail
    go_at_call 57
    refine (HWa.out _).mono ?_
    rintro e w2 ⟨rfl, g2⟩
    have hp2 := g2.at' hp1
    have hq2 := g2.at' hq1
    have HN2 := Lib.hid (HN.out.trans g2)
    clear c0 c1 c2 c3 hpl
    have c0 := hcell (j := 0) hp2
    have c1 := hcell (j := 1) hp2
    have c2 := hcell (j := 2) hp2
    have c3 := hcell (j := 3) hp2
    have hpl := hlt hp2
    clear m0 m1 m2 m3 m4 g2 HWa hp1 hq1
    by_cases hs : 0 < b4
    · have ds : decide (0 < b4) = true := by simpa using hs
      have hR := HX1.out hs
      subst hR
      have d0 := hcell (j := 0) hq2
      have d1 := hcell (j := 1) hq2
      have d2 := hcell (j := 2) hq2
      have d3 := hcell (j := 3) hq2
      have fz := fun k => hfz (j := k) hq2
      have hsl2 := hlt hq2
      clear hs HX1 HX2 HCe HRow HRow2 HCo HAt HN hp2 hq2 HLi HOk HUp HCh HSl HCq HAw HRt
      go_wp2
      exact bodyPost_ret (v := .tuple #[.agg #[.int .i64 0, .int .i64 0, .slice none 0 0, .int .i64 0], .bool false, .int .i64 7]) (by simp only [results, Tryz.results42]; simp [go_sem, *]) rfl ⟨_, rfl, fill_nw HN2.out (Nat.le_succ _) _ _ _ _, Rd.nil _, Nat.le_refl _, Fresh.nil _ _⟩
    have ds : decide (0 < b4) = false := by simpa using hs
    have hb4 : b4 = 0 := by have := HRt.out.s0; simp only at this; omega
    have hR := HX2.out (by first | exact hs | exact Int.not_lt.1 hs)
    have hwt := (HRt.out.h hb4).2
    have hmk := HRt.out.md
    simp only at hwt hmk
    subst hb4
    have hup := HUp.out rfl
    obtain ⟨wn, hwn⟩ : ∃ wn, supT b2 m = wn := ⟨_, rfl⟩
    have hsk := sup_kn b2 m hmk HGd.out.2
    have HSp := Lib.hid (fun w => dSup b2 m w hmk HGd.out.2)
    rw [hwn] at HSp hsk
    replace hup := hup wn hsk
    unfold upQ at hR
    simp only [hwn] at hR
    have HRr := Lib.hid hR
    have HUq := Lib.hid hup
    have HWk := Lib.hid (And.intro hwt (And.intro hsk hmk))
    have HLi2 := Lib.hid (HLi.out _ HN2.out)
    have HQ2 := Lib.hid (And.intro hp2 hq2)
    clear hs HX1 HX2 hR hwt hmk hup hwn hsk HUp hp2 hq2 HLi HAt HRt HN HGd HCe
    go_wp2_with fail
    go_at_call 51
    refine HLi2.out.mono ?_
    rintro e w3 ⟨p, v1, b', n, rfl, g3, hL3, hnq⟩
    obtain ⟨g, cap, rfl, hg0, hgl, hce⟩ := HAw.out _ _ _ hL3.own
    have HL3 := Lib.hid (And.intro hL3 (And.intro g3 (And.intro hg0 hnq)))
    have p2 := hcell (j := 2) hL3.obj
    have hpl3 := hlt hL3.obj
    have m2 := hce 2 _ rfl
    clear c0 c1 c2 c3 hpl hce hL3 g3 hg0 hnq HLi2
    go_wp2_with fail
    go_at_call 59
    refine (HSp.out _).mono ?_
    rintro e w4 ⟨rfl, g4⟩
    have hL4 := HL3.out.1.nw g4
    have hup4 := HRow.out _ _ _ _ 3 (by decide) (.int .i64 wn) ⟨b0, b1, b2, wn, 0⟩ rfl hL4.own
    have hL5 := (hL4.row (a := ⟨g, k * 5 + 3, none⟩) rfl (.int .i64 wn) hup4).eq (HCq.out ⟨b0, b1, b2, wn, 0⟩ rfl).symm
    have hg5 : Nw w2 (w4.setCell ⟨g, k * 5 + 3, none⟩ (.int .i64 wn)) := (HL3.out.2.1.trans g4).st HL3.out.2.2.1 _
    have mf := own_frz hL4.own rfl (k * 5 + 3)
    have hgl4 := olt hL4.own rfl
    have hc4 := HCo.out _ _ _ _ hL4.own
    have m3' := hc4 3 _ rfl
    obtain ⟨w5, hw5⟩ : ∃ w5, w4.setCell ⟨g, k * 5 + 3, none⟩ (.int .i64 wn) = w5 := ⟨_, rfl⟩
    rw [hw5] at hL5 hg5
    have HW5 := Lib.hid hw5
    obtain ⟨q', hq'⟩ : ∃ q', q.set k ⟨b0, b1, b2, wn, 0⟩ = q' := ⟨_, rfl⟩
    have hk' : k < q'.length := by rw [← hq', List.length_set]; exact hk
    have hqk : q'[k] = ⟨b0, b1, b2, wn, 0⟩ := by subst hq'; simp
    have hcl : q.length = q'.length := by rw [← hq', List.length_set]
    have hss : ∀ x : Rq, q'.set k x = q.set k x := fun x => by rw [← hq', List.set_set]
    have hkn' : ∀ R ∈ q', knI R.md = true := fun R hR => by
      rw [← hq'] at hR
      rcases List.mem_or_eq_of_mem_set hR with hR | rfl
      · exact (HOk.out.rt R hR).md
      · exact HWk.out.2.2
    have hc5 : ∀ j u, (rqrow ⟨b0, b1, b2, wn, 0⟩)[j]? = some u → w5.cell? ⟨g, k * 5 + j, none⟩ = some u := fun j u hu => own_cell (q := q') (by rw [← hq']; exact hL5.own) hcl k hk' j u (by rw [hqk]; exact hu)
    rw [hq'] at hL5
    have HQk := Lib.hid (And.intro hq' (And.intro hqk (And.intro hcl (And.intro hss hkn'))))
    have HL5 := Lib.hid (And.intro hL5 hg5)
    have hN5 := (Nw.refl w5).drewQ
    clear m2 p2 hpl3 hL4 hup4 hL5 hg5 hw5 g4 hqk hcl hss hkn' HRow HRow2 HCo hq' hgl
    go_wp2
    rw [HW5.out]
    clear HW5 m3' mf hgl4 hc4
    by_cases he : wn = b2
    · have de : (wn == b2) = true := by simpa using he
      have s2 : ∀ x, Nw w5 x → x.cell? ⟨g, k * 5 + 2, none⟩ = some (.int .i64 b2) := fun x hx => hx.kp (hc5 2 _ rfl)
      have s3 : ∀ x, Nw w5 x → x.cell? ⟨g, k * 5 + 3, none⟩ = some (.int .i64 wn) := fun x hx => hx.kp (hc5 3 _ rfl)
      obtain ⟨wc, hwc⟩ : ∃ wc, w5.drew = wc := ⟨_, rfl⟩
      have q1 := hN5
      refine region_told [some true, some true, some true, some true, some true, some true, some true, some true, some true, some true, some true, some true, some false, none, some true, some true] (Nw w5) (by kernel_rfl) (by kernel_rfl) (by kernel_rfl) q1 ?_
      rw [hwc] at q1 ⊢
      clear hwc hN5
      repeat (first
        | (refine HW.off ?_)
        | (refine HW.take' ?_; (first | (refine ⟨undef, Or.inr ⟨by rfl, rfl⟩, ?_⟩) | (apply Exists.intro; refine ⟨Or.inl ⟨by rfl, ?_⟩, ?_⟩; (intro x hx; go_simp; first | done | with_reducible rfl))); (try simp only [Act.put, List.setIfInBounds_toArray, List.set_cons_zero, List.set_cons_succ]))
        | (refine HW.go (fun K hK => ?_); go_simp; (refine hK.out _ _ q1 ?_; intro _; clear hK K)))
      refine HW.end_ ?_
      refine NoPanic.normal ?_
      have hR := HRr.out
      rw [if_pos he] at hR
      simp only at hR
      subst hR
      have hL6 := HL5.out.1.nw q1
      have g6 := HL5.out.2.trans q1
      rw [← HQk.out.1, HSl.out ⟨b0, b1, b2, wn, 0⟩ (by rw [HWk.out.1, he])] at hL6
      have HL7 := Lib.hid hL6
      have hpl := hlt hL6.obj
      have e0 := hcell (j := 0) hL6.obj
      have e1 := hcell (j := 1) hL6.obj
      have e2 := hcell (j := 2) hL6.obj
      have e3 := hcell (j := 3) hL6.obj
      have hq7 := g6.at' HQ2.out.2
      have HN7 := Lib.hid (HN2.out.trans g6)
      have HS := Lib.hid (hlt HQ2.out.2)
      have d0 := hcell (j := 0) hq7
      have d1 := hcell (j := 1) hq7
      have d2 := hcell (j := 2) hq7
      have d3 := hcell (j := 3) hq7
      have fz := fun k => hfz (j := k) hq7
      have hsl2 := hlt hq7
      clear s2 s3 hL6 g6 hc5 hq7 q1 HL5 HL3 HQk HRr HUq HSl HCh HCq HAw
      go_wp2
      exact bodyPost_ret (v := .tuple #[.agg #[.int .i64 t, .int .i64 r, .slice (some ⟨g, 0, none⟩) q.length cap, .int .i64 W], .bool true, .int .i64 0]) (by simp only [results, Tryz.results42]; simp [go_sem, *]) rfl ⟨_, rfl, fill_nw HN7.out (Nat.le_succ _) _ _ _ _, (HL7.out.done HS.out _ _ _ _).1, HL7.out.own.cap, HL7.out.own.fresh HN2.out.sz⟩
    · have de : (wn == b2) = false := by simpa using he
      have hE0 := HL5.out.1.nw hN5
      have m2 := hc5 2 _ rfl
      have m3 := hc5 3 _ rfl
      have hgl5 := World.block_lt_of_cell? _ _ m2
      obtain ⟨B, hB⟩ : ∃ B, upF q ⟨b0, b1, b2, b3, 0⟩ wn = B := ⟨_, rfl⟩
      have hEn := dEnterB hE0 k hk' ⟨HOk.out.w0, HOk.out.wB⟩ HQk.out.2.2.2.2 (by have := HL3.out.2.2.2; omega) (by have := HQk.out.2.2.1; omega) ⟨b0, b1, b2, wn, 0⟩ HQk.out.2.1 HWk.out.2.1 B (by
        simp only [enR]
        rw [HQk.out.2.2.2.1, ← HQk.out.1, ← hB, ← HUq.out])
      simp only [enR, HQk.out.2.2.2.1] at hEn
      have HEn := Lib.hid hEn
      have HN5 := Lib.hid hN5
      clear hE0 hEn hN5 hc5
      refine wp_region_still_tail 12 (by kernel_rfl) (by kernel_rfl) ?_
      simp only [List.take_succ_cons, List.take_zero, List.drop_succ_cons, List.drop_zero]
      repeat still_step
      try refine wpStill_nil ?_
      change wpList _ _ _ _ _ w5.drew
      go_wp2_with fail
      go_at_call 52
      refine HEn.out.mono ?_
      rintro e w6 ⟨rfl, g6', n6, _, hL6⟩
      have g6 : Nw w2 w6 := Below.trans (HL5.out.2.trans HN5.out) g6'
      have hR := HRr.out
      rw [if_neg he, hB] at hR
      clear m2 m3 hgl5 HEn HN5 g6' HUq hB
      cases B
      · simp only [Bool.false_eq_true, if_true, if_false] at hL6 hR
        have hch := HCh.out (fun x => ⟨x.id, x.txn, x.md, wn, W + 1⟩)
        simp only at hch
        rw [hch] at hR
        subst hR
        have HL7 := Lib.hid hL6
        have hpl := hlt hL6.obj
        have e0 := hcell (j := 0) hL6.obj
        have e1 := hcell (j := 1) hL6.obj
        have e2 := hcell (j := 2) hL6.obj
        have e3 := hcell (j := 3) hL6.obj
        have hq7 := g6.at' HQ2.out.2
        have HN7 := Lib.hid (HN2.out.trans g6)
        have HS := Lib.hid (hlt HQ2.out.2)
        have d0 := hcell (j := 0) hq7
        have d1 := hcell (j := 1) hq7
        have d2 := hcell (j := 2) hq7
        have d3 := hcell (j := 3) hq7
        have fz := fun k => hfz (j := k) hq7
        have hsl2 := hlt hq7
        clear hL6 g6 hq7 HL5 HL3 HQk HRr HSl HCh HCq HAw hch
        go_wp2
        exact bodyPost_ret (v := .tuple #[.agg #[.int .i64 t, .int .i64 r, .slice (some ⟨g, 0, none⟩) q.length cap, .int .i64 (W + 1)], .bool false, .int .i64 0]) (by simp only [results, Tryz.results42]; simp [go_sem, *]) rfl ⟨_, rfl, fill_nw HN7.out (Nat.le_succ _) _ _ _ _, (HL7.out.done HS.out _ _ _ _).1, HL7.out.own.cap, HL7.out.own.fresh HN2.out.sz⟩
      · simp only [Bool.false_eq_true, if_true, if_false] at hL6 hR
        have hch := HCh.out (fun x => ⟨x.id, x.txn, wn, wn, 0⟩)
        simp only at hch
        rw [hch] at hR
        subst hR
        have HL7 := Lib.hid hL6
        have hpl := hlt hL6.obj
        have e0 := hcell (j := 0) hL6.obj
        have e1 := hcell (j := 1) hL6.obj
        have e2 := hcell (j := 2) hL6.obj
        have e3 := hcell (j := 3) hL6.obj
        have hq7 := g6.at' HQ2.out.2
        have HN7 := Lib.hid (HN2.out.trans g6)
        have HS := Lib.hid (hlt HQ2.out.2)
        have d0 := hcell (j := 0) hq7
        have d1 := hcell (j := 1) hq7
        have d2 := hcell (j := 2) hq7
        have d3 := hcell (j := 3) hq7
        have fz := fun k => hfz (j := k) hq7
        have hsl2 := hlt hq7
        clear hL6 g6 hq7 HL5 HL3 HQk HRr HSl HCh HCq HAw hch
        go_wp2
        exact bodyPost_ret (v := .tuple #[.agg #[.int .i64 t, .int .i64 r, .slice (some ⟨g, 0, none⟩) q.length cap, .int .i64 W], .bool true, .int .i64 0]) (by simp only [results, Tryz.results42]; simp [go_sem, *]) rfl ⟨_, rfl, fill_nw HN7.out (Nat.le_succ _) _ _ _ _, (HL7.out.done HS.out _ _ _ _).1, HL7.out.own.cap, HL7.out.own.fresh HN2.out.sz⟩
end Go.Proofs.YtfemopcichmlmaaGreatRRR
end
