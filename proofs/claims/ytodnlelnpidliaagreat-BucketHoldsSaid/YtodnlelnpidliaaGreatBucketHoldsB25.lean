/- Texts merged: QvW, QvX, BdS, BdT -/
import Derived.Test.YtodnlelnpidliaaGreatBucketHoldsB24
import Derived.StillTailTactics

/- The developers' package queue: Upgrade. -/
section
namespace Go.Proofs.YtodnlelnpidliaaGreat
open Go.RowKit
set_option linter.unusedVariables false      -- a contract need not use every name

theorem dSup (a b : Int) (w : World) (ha : knI a = true) (hb : knI b = true) : Calls Tryz.prog 103 #[.int .i64 a, .int .i64 b] w fun e w' => e = .returned (.int .i64 (supT a b)) ∧ Nw w w' := by
  have h1 : 0 ≤ a ∧ a < 7 := by simpa [knI] using ha
  have h2 : 0 ≤ b ∧ b < 7 := by simpa [knI] using hb
  exact sup_in a b w h1.1 h1.2 h2.1 h2.2
set_option maxRecDepth 100000 in
set_option maxHeartbeats 8000000 in
theorem dUpgrade (t r W id m : Int) (v : Value) (q : List Rq) (w : World) (hl : q.length ≤ 900) (hok : Ok W q) (h : RqAt w v q) :
    Calls Tryz.prog 73 #[hdV t r v W, .int .i64 id, .int .i64 m] w (HD2 (upR ⟨t, r, W, q⟩ id m) w) := by
  obtain ⟨X, hX⟩ : ∃ X, upR ⟨t, r, W, q⟩ id m = X := ⟨_, rfl⟩
  rw [hX]
  have HLo := Lib.hid (fun w => dLockable m w)
  have HOk := Lib.hid hok
  have HAt := Lib.hid h
  have hFi := fun (w1 : World) (g : Nw w w1) (f : Value) (hf : Tells w1 f (fun R => R.id == id)) => dFind t r W v f _ q w1 (by omega) (h.nw g) hf
  have HLi := Lib.hid (fun (w1 : World) (g : Nw w w1) => dLineOf t r W v q w1 (by omega) (fun R hR => (hok.rt R hR).md) (h.nw g))
  obtain ⟨a, c, rfl, _⟩ := h
  unfold HD2 hdV at *
  have HX := Lib.hid (two_boxes w (.cells #[.int .i64 t, .int .i64 r, .slice a q.length c, .int .i64 W] 56) (.cells #[.int .i64 0, .int .i64 0, .slice none 0 0, .int .i64 0] 56))
  obtain ⟨y, hy⟩ : ∃ y, ((m != 0) && knI m) = y := ⟨_, rfl⟩
  rw [hy] at HLo
  obtain ⟨px, hpx⟩ : ∃ px, plc (fun R => R.id == id) q = px := ⟨_, rfl⟩
  rw [hpx] at hFi
  have HFi := Lib.hid hFi
  have HWi := Lib.hid (dWithID id)
  clear hFi hok
  cases y
  · have hR := hX.symm.trans (up_bad (h := ⟨t, r, W, q⟩) (by cases e : knI m with | false => exact .inr rfl | true => rw [e, Bool.and_true] at hy; exact .inl (by simpa using hy)))
    subst hR
    clear hy hpx HFi HWi HLi HOk HAt hX
    go_enter Tryz.func73, Tryz.ntmps73
    go_wp2_with fail
    go_at_call 93
    refine (HLo.out _).mono ?_
    rintro e w1 ⟨rfl, g1⟩
    have hq1 := g1.at' HX.out.2.1
    have HQ := Lib.hid (HX.out.2.2.1.trans g1)
    have d0 := hcell (j := 0) hq1
    have d1 := hcell (j := 1) hq1
    have d2 := hcell (j := 2) hq1
    have d3 := hcell (j := 3) hq1
    have fz := fun k => hfz (j := k) hq1
    have hsl2 := hlt hq1
    clear g1 hq1 HX HLo
    go_wp2
    exact bodyPost_ret (v := .tuple #[.agg #[.int .i64 0, .int .i64 0, .slice none 0 0, .int .i64 0], .bool false, .int .i64 2]) (by simp only [results, Tryz.results73]; simp [go_sem, *]) rfl ⟨_, rfl, fill_nw HQ.out (Nat.le_succ _) _ _ _ _, Rd.nil _, Nat.le_refl _, Fresh.nil _ _⟩
  have hgood : ¬ (m = 0 ∨ knI m = false) := by
    rw [Bool.and_eq_true, bne_iff_ne] at hy
    rintro (e | e)
    · exact hy.1 e
    · rw [hy.2] at e; cases e
  have hkm : knI m = true := by
    rw [Bool.and_eq_true] at hy
    exact hy.2
  have HGd := Lib.hid (And.intro hgood hkm)
  clear hy hgood hkm
  go_enter Tryz.func73, Tryz.ntmps73
  go_wp2_with fail
  go_at_call 93
  refine (HLo.out _).mono ?_
  rintro e w1 ⟨rfl, g1⟩
  have hx1 := g1.at' HX.out.1
  have HB1 := Lib.hid (And.intro (And.intro (g1.at' HX.out.1) (g1.at' HX.out.2.1)) (HX.out.2.2.1.trans g1))
  have s0 : ∀ z, Nw w1 z → z.cell? ⟨w.heap.size, 0, none⟩ = some (.int .i64 t) := fun z hz => hz.kp (hcell (j := 0) hx1)
  have s1 : ∀ z, Nw w1 z → z.cell? ⟨w.heap.size, 1, none⟩ = some (.int .i64 r) := fun z hz => hz.kp (hcell (j := 1) hx1)
  have s2 : ∀ z, Nw w1 z → z.cell? ⟨w.heap.size, 2, none⟩ = some (.slice a q.length c) := fun z hz => hz.kp (hcell (j := 2) hx1)
  have s3 : ∀ z, Nw w1 z → z.cell? ⟨w.heap.size, 3, none⟩ = some (.int .i64 W) := fun z hz => hz.kp (hcell (j := 3) hx1)
  clear hx1 g1 HX HLo
  go_wp2
  have q1 := (Nw.refl w1).drewQ
  obtain ⟨wc, hwc⟩ : ∃ wc, w1.drew = wc := ⟨_, rfl⟩
  refine region_told [some true, some true, some false, none, some false, none, some true] (Nw w1) (by kernel_rfl) (by kernel_rfl) (by kernel_rfl) q1 ?_
  rw [hwc] at q1 ⊢
  clear hwc
  repeat (first
    | (refine HW.off ?_)
    | (refine HW.take' ?_; (first | (refine ⟨undef, Or.inr ⟨by rfl, rfl⟩, ?_⟩) | (apply Exists.intro; refine ⟨Or.inl ⟨by rfl, ?_⟩, ?_⟩; (intro x hx; go_simp; first | done | with_reducible rfl))); (try simp only [Act.put, List.setIfInBounds_toArray, List.set_cons_zero, List.set_cons_succ]))
    | (refine HW.go (fun K hK => ?_); go_simp; (first
      | (go_at_call 88; (with_reducible refine (HWi.out _).mono ?_); rintro e wy ⟨pa, rfl, g2, hbx⟩; refine hK.out _ _ (q1.trans g2) ?_; intro _; replace q1 := q1.trans g2; clear hK K g2; replace hbx := Tells.withID hbx)
      | (go_at_call 87; (with_reducible refine (HFi.out _ (HB1.out.2.trans q1) _ hbx).mono ?_); rintro e wy ⟨rfl, g2⟩; refine hK.out _ _ (q1.trans g2) ?_; intro _; replace q1 := q1.trans g2; clear hK K g2 hbx)
      | (refine hK.out _ _ q1 ?_; intro _; clear hK K))))
  refine HW.end_ ?_
  refine NoPanic.normal ?_
  have HN := Lib.hid (HB1.out.2.trans q1)
  have hp1 := q1.at' HB1.out.1.1
  have hq1 := q1.at' HB1.out.1.2
  have c0 := hcell (j := 0) hp1
  have c1 := hcell (j := 1) hp1
  have c2 := hcell (j := 2) hp1
  have c3 := hcell (j := 3) hp1
  have hpl := hlt hp1
  rcases at_plc q id with ⟨e1, hf⟩ | ⟨k, e1, hk, hf⟩
  · obtain rfl := hpx.symm.trans e1
    have hR := hX.symm.trans (up_none (h := ⟨t, r, W, q⟩) HGd.out.1 hf)
    subst hR
    have d0 := hcell (j := 0) hq1
    have d1 := hcell (j := 1) hq1
    have d2 := hcell (j := 2) hq1
    have d3 := hcell (j := 3) hq1
    have fz := fun k => hfz (j := k) hq1
    have hsl2 := hlt hq1
    clear hpx hX e1 hf s0 s1 s2 s3 HB1 HFi HWi HAt q1 hp1 hq1 HLi HOk
    go_wp2
    exact bodyPost_ret (v := .tuple #[.agg #[.int .i64 0, .int .i64 0, .slice none 0 0, .int .i64 0], .bool false, .int .i64 5]) (by simp only [results, Tryz.results73]; simp [go_sem, *]) rfl ⟨_, rfl, fill_nw HN.out (Nat.le_succ _) _ _ _ _, Rd.nil _, Nat.le_refl _, Fresh.nil _ _⟩
  · obtain rfl := hpx.symm.trans e1
    have dk : ((k : Int) == -1) = false := by simp
    have hX1 : 0 < q[k].sn → X = (noH, false, 7) := fun s => hX.symm.trans (up_wait (h := ⟨t, r, W, q⟩) HGd.out.1 hf s)
    have hX2 : ¬ 0 < q[k].sn → X = (⟨t, r, (upQ W q q[k] m).1, (upQ W q q[k] m).2.1⟩, (upQ W q q[k] m).2.2, 0) := fun s => hX.symm.trans (up_go (h := ⟨t, r, W, q⟩) HGd.out.1 hf s)
    have HRt := Lib.hid (HOk.out.rt _ (List.getElem_mem hk))
    have HUp := Lib.hid (fun (hs : q[k].sn = 0) (want : Int) (hw : knI want = true) => up_en HOk.out k hk hs want hw)
    have HCh := Lib.hid (fun (f : Rq → Rq) => chg_set HOk.out f k hk)
    have HSl := Lib.hid (fun x e => set_self hk x e)
    have HCq := Lib.hid (fun (R : Rq) (hm : R.md = q[k].md) => cntQ_same q k hk R hm)
    have HAw := Lib.hid (fun (z : World) (g0 : Nat) (v : Value) (h : RqOwn z g0 v q) => RqOwn.at h hk)
    rcases HAt.out with ⟨a', c', e3, ⟨e4, _⟩ | ⟨b, o, e4, hc⟩⟩
    · subst e4; simp at hk
    simp only [Value.slice.injEq, true_and] at e3
    obtain ⟨rfl, rfl⟩ := e3
    subst e4
    have hki : (k : Int) < (q.length : Int) := by omega
    have hce := (hc.nw HN.out).cell k hk
    have HCe := Lib.hid (fun (z : World) (g : Nw w z) => (hc.nw g).cell k hk)
    have HWa := Lib.hid (fun z => dWaits q[k] z)
    have HHo := Lib.hid (fun z => dHolds q[k] z)
    have HRow := Lib.hid (fun (z : World) (g0 g cap : Nat) (j : Nat) (hj : j < 5) (u : Value) (new : Rq) (e : (rqrow q[k]).set j u = rqrow new) (h : RqOwn z g0 (.slice (some ⟨g, 0, none⟩) q.length cap) q) => own_upd h rfl k hk j hj u new e)
    have HRow2 := Lib.hid (fun (z : World) (g0 g cap : Nat) (X : Rq) (j : Nat) (hj : j < 5) (u : Value) (new : Rq) (e : (rqrow X).set j u = rqrow new) (h : RqOwn z g0 (.slice (some ⟨g, 0, none⟩) q.length cap) (q.set k X)) => own_upd h (by rw [List.length_set]) k (by rw [List.length_set]; exact hk) j hj u new (by rw [List.getElem_set_self]; exact e))
    simp only [List.set_set] at HRow2
    have HCo := Lib.hid (fun (z : World) (g0 g cap : Nat) (h : RqOwn z g0 (.slice (some ⟨g, 0, none⟩) q.length cap) q) => own_cell h rfl k hk)
    clear hpx hX e1 hf s0 s1 s2 s3 HB1 HFi HWi q1 hc
    generalize q[k] = R at *
    obtain ⟨b0, b1, b2, b3, b4⟩ := R
    unfold rqV at HWa HHo
    have m0 := hce 0 _ rfl
    have m1 := hce 1 _ rfl
    have m2 := hce 2 _ rfl
    have m3 := hce 3 _ rfl
    have m4 := hce 4 _ rfl
    simp only [Nat.add_zero] at m0
    clear hce HHo
    have HX1 := Lib.hid hX1
    have HX2 := Lib.hid hX2
    clear hX1 hX2
    go_wp2_with fail
    go_at_call 101
    refine (HWa.out _).mono ?_
    rintro e w2 ⟨rfl, g2⟩
    have hp2 := g2.at' hp1
    have hq2 := g2.at' hq1
    have HN2 := Lib.hid (HN.out.trans g2)
    clear c0 c1 c2 c3 hpl
    have c0 := hcell (j := 0) hp2
    have c1 := hcell (j := 1) hp2
    have c2 := hcell (j := 2) hp2
    have c3 := hcell (j := 3) hp2
    have hpl := hlt hp2
    clear m0 m1 m2 m3 m4 g2 HWa hp1 hq1
    by_cases hs : 0 < b4
    · have ds : decide (0 < b4) = true := by simpa using hs
      have hR := HX1.out hs
      subst hR
      have d0 := hcell (j := 0) hq2
      have d1 := hcell (j := 1) hq2
      have d2 := hcell (j := 2) hq2
      have d3 := hcell (j := 3) hq2
      have fz := fun k => hfz (j := k) hq2
      have hsl2 := hlt hq2
      clear hs HX1 HX2 HCe HRow HRow2 HCo HAt HN hp2 hq2 HLi HOk HUp HCh HSl HCq HAw HRt
      go_wp2
      exact bodyPost_ret (v := .tuple #[.agg #[.int .i64 0, .int .i64 0, .slice none 0 0, .int .i64 0], .bool false, .int .i64 7]) (by simp only [results, Tryz.results73]; simp [go_sem, *]) rfl ⟨_, rfl, fill_nw HN2.out (Nat.le_succ _) _ _ _ _, Rd.nil _, Nat.le_refl _, Fresh.nil _ _⟩
    have ds : decide (0 < b4) = false := by simpa using hs
    have hb4 : b4 = 0 := by have := HRt.out.s0; simp only at this; omega
    have hR := HX2.out (by first | exact hs | exact Int.not_lt.1 hs)
    have hwt := (HRt.out.h hb4).2
    have hmk := HRt.out.md
    simp only at hwt hmk
    subst hb4
    have hup := HUp.out rfl
    obtain ⟨wn, hwn⟩ : ∃ wn, supT b2 m = wn := ⟨_, rfl⟩
    have hsk := sup_kn b2 m hmk HGd.out.2
    have HSp := Lib.hid (fun w => dSup b2 m w hmk HGd.out.2)
    rw [hwn] at HSp hsk
    replace hup := hup wn hsk
    unfold upQ at hR
    simp only [hwn] at hR
    have HRr := Lib.hid hR
    have HUq := Lib.hid hup
    have HWk := Lib.hid (And.intro hwt (And.intro hsk hmk))
    have HLi2 := Lib.hid (HLi.out _ HN2.out)
    have HQ2 := Lib.hid (And.intro hp2 hq2)
    clear hs HX1 HX2 hR hwt hmk hup hwn hsk HUp hp2 hq2 HLi HAt HRt HN HGd HCe
    go_wp2_with fail
    go_at_call 95
    refine HLi2.out.mono ?_
    rintro e w3 ⟨p, v1, b', n, rfl, g3, hL3, hnq⟩
    obtain ⟨g, cap, rfl, hg0, hgl, hce⟩ := HAw.out _ _ _ hL3.own
    have HL3 := Lib.hid (And.intro hL3 (And.intro g3 (And.intro hg0 hnq)))
    have p2 := hcell (j := 2) hL3.obj
    have hpl3 := hlt hL3.obj
    have m2 := hce 2 _ rfl
    clear c0 c1 c2 c3 hpl hce hL3 g3 hg0 hnq HLi2
    go_wp2_with fail
    go_at_call 103
    refine (HSp.out _).mono ?_
    rintro e w4 ⟨rfl, g4⟩
    have hL4 := HL3.out.1.nw g4
    have hup4 := HRow.out _ _ _ _ 3 (by decide) (.int .i64 wn) ⟨b0, b1, b2, wn, 0⟩ rfl hL4.own
    have hL5 := (hL4.row (a := ⟨g, k * 5 + 3, none⟩) rfl (.int .i64 wn) hup4).eq (HCq.out ⟨b0, b1, b2, wn, 0⟩ rfl).symm
    have hg5 : Nw w2 (w4.setCell ⟨g, k * 5 + 3, none⟩ (.int .i64 wn)) := (HL3.out.2.1.trans g4).st HL3.out.2.2.1 _
    have mf := own_frz hL4.own rfl (k * 5 + 3)
    have hgl4 := olt hL4.own rfl
    have hc4 := HCo.out _ _ _ _ hL4.own
    have m3' := hc4 3 _ rfl
    obtain ⟨w5, hw5⟩ : ∃ w5, w4.setCell ⟨g, k * 5 + 3, none⟩ (.int .i64 wn) = w5 := ⟨_, rfl⟩
    rw [hw5] at hL5 hg5
    have HW5 := Lib.hid hw5
    obtain ⟨q', hq'⟩ : ∃ q', q.set k ⟨b0, b1, b2, wn, 0⟩ = q' := ⟨_, rfl⟩
    have hk' : k < q'.length := by rw [← hq', List.length_set]; exact hk
    have hqk : q'[k] = ⟨b0, b1, b2, wn, 0⟩ := by subst hq'; simp
    have hcl : q.length = q'.length := by rw [← hq', List.length_set]
    have hss : ∀ x : Rq, q'.set k x = q.set k x := fun x => by rw [← hq', List.set_set]
    have hkn' : ∀ R ∈ q', knI R.md = true := fun R hR => by
      rw [← hq'] at hR
      rcases List.mem_or_eq_of_mem_set hR with hR | rfl
      · exact (HOk.out.rt R hR).md
      · exact HWk.out.2.2
    have hc5 : ∀ j u, (rqrow ⟨b0, b1, b2, wn, 0⟩)[j]? = some u → w5.cell? ⟨g, k * 5 + j, none⟩ = some u := fun j u hu => own_cell (q := q') (by rw [← hq']; exact hL5.own) hcl k hk' j u (by rw [hqk]; exact hu)
    rw [hq'] at hL5
    have HQk := Lib.hid (And.intro hq' (And.intro hqk (And.intro hcl (And.intro hss hkn'))))
    have HL5 := Lib.hid (And.intro hL5 hg5)
    have hN5 := (Nw.refl w5).drewQ
    clear m2 p2 hpl3 hL4 hup4 hL5 hg5 hw5 g4 hqk hcl hss hkn' HRow HRow2 HCo hq' hgl
    go_wp2
    rw [HW5.out]
    clear HW5 m3' mf hgl4 hc4
    by_cases he : wn = b2
    · have de : (wn == b2) = true := by simpa using he
      have s2 : ∀ x, Nw w5 x → x.cell? ⟨g, k * 5 + 2, none⟩ = some (.int .i64 b2) := fun x hx => hx.kp (hc5 2 _ rfl)
      have s3 : ∀ x, Nw w5 x → x.cell? ⟨g, k * 5 + 3, none⟩ = some (.int .i64 wn) := fun x hx => hx.kp (hc5 3 _ rfl)
      obtain ⟨wc, hwc⟩ : ∃ wc, w5.drew = wc := ⟨_, rfl⟩
      have q1 := hN5
      refine region_told [some true, some true, some true, some true, some true, some true, some true, some true, some true, some true, some true, some true, some false, none, some true, some true] (Nw w5) (by kernel_rfl) (by kernel_rfl) (by kernel_rfl) q1 ?_
      rw [hwc] at q1 ⊢
      clear hwc hN5
      repeat (first
        | (refine HW.off ?_)
        | (refine HW.take' ?_; (first | (refine ⟨undef, Or.inr ⟨by rfl, rfl⟩, ?_⟩) | (apply Exists.intro; refine ⟨Or.inl ⟨by rfl, ?_⟩, ?_⟩; (intro x hx; go_simp; first | done | with_reducible rfl))); (try simp only [Act.put, List.setIfInBounds_toArray, List.set_cons_zero, List.set_cons_succ]))
        | (refine HW.go (fun K hK => ?_); go_simp; (refine hK.out _ _ q1 ?_; intro _; clear hK K)))
      refine HW.end_ ?_
      refine NoPanic.normal ?_
      have hR := HRr.out
      rw [if_pos he] at hR
      simp only at hR
      subst hR
      have hL6 := HL5.out.1.nw q1
      have g6 := HL5.out.2.trans q1
      rw [← HQk.out.1, HSl.out ⟨b0, b1, b2, wn, 0⟩ (by rw [HWk.out.1, he])] at hL6
      have HL7 := Lib.hid hL6
      have hpl := hlt hL6.obj
      have e0 := hcell (j := 0) hL6.obj
      have e1 := hcell (j := 1) hL6.obj
      have e2 := hcell (j := 2) hL6.obj
      have e3 := hcell (j := 3) hL6.obj
      have hq7 := g6.at' HQ2.out.2
      have HN7 := Lib.hid (HN2.out.trans g6)
      have HS := Lib.hid (hlt HQ2.out.2)
      have d0 := hcell (j := 0) hq7
      have d1 := hcell (j := 1) hq7
      have d2 := hcell (j := 2) hq7
      have d3 := hcell (j := 3) hq7
      have fz := fun k => hfz (j := k) hq7
      have hsl2 := hlt hq7
      clear s2 s3 hL6 g6 hc5 hq7 q1 HL5 HL3 HQk HRr HUq HSl HCh HCq HAw
      go_wp2
      exact bodyPost_ret (v := .tuple #[.agg #[.int .i64 t, .int .i64 r, .slice (some ⟨g, 0, none⟩) q.length cap, .int .i64 W], .bool true, .int .i64 0]) (by simp only [results, Tryz.results73]; simp [go_sem, *]) rfl ⟨_, rfl, fill_nw HN7.out (Nat.le_succ _) _ _ _ _, (HL7.out.done HS.out _ _ _ _).1, HL7.out.own.cap, HL7.out.own.fresh HN2.out.sz⟩
    · have de : (wn == b2) = false := by simpa using he
      have hE0 := HL5.out.1.nw hN5
      have m2 := hc5 2 _ rfl
      have m3 := hc5 3 _ rfl
      have hgl5 := World.block_lt_of_cell? _ _ m2
      obtain ⟨B, hB⟩ : ∃ B, upF q ⟨b0, b1, b2, b3, 0⟩ wn = B := ⟨_, rfl⟩
      have hEn := dEnterB hE0 k hk' ⟨HOk.out.w0, HOk.out.wB⟩ HQk.out.2.2.2.2 (by have := HL3.out.2.2.2; omega) (by have := HQk.out.2.2.1; omega) ⟨b0, b1, b2, wn, 0⟩ HQk.out.2.1 HWk.out.2.1 B (by
        simp only [enR]
        rw [HQk.out.2.2.2.1, ← HQk.out.1, ← hB, ← HUq.out])
      simp only [enR, HQk.out.2.2.2.1] at hEn
      have HEn := Lib.hid hEn
      have HN5 := Lib.hid hN5
      clear hE0 hEn hN5 hc5
      refine wp_region_still_tail 12 (by kernel_rfl) (by kernel_rfl) ?_
      simp only [List.take_succ_cons, List.take_zero, List.drop_succ_cons, List.drop_zero]
      repeat still_step
      try refine wpStill_nil ?_
      change wpList _ _ _ _ _ w5.drew
      go_wp2_with fail
      go_at_call 96
      refine HEn.out.mono ?_
      rintro e w6 ⟨rfl, g6', n6, _, hL6⟩
      have g6 : Nw w2 w6 := Below.trans (HL5.out.2.trans HN5.out) g6'
      have hR := HRr.out
      rw [if_neg he, hB] at hR
      clear m2 m3 hgl5 HEn HN5 g6' HUq hB
      cases B
      · simp only [Bool.false_eq_true, if_false] at hL6 hR
        have hch := HCh.out (fun x => ⟨x.id, x.txn, x.md, wn, W + 1⟩)
        simp only at hch
        rw [hch] at hR
        subst hR
        have HL7 := Lib.hid hL6
        have hpl := hlt hL6.obj
        have e0 := hcell (j := 0) hL6.obj
        have e1 := hcell (j := 1) hL6.obj
        have e2 := hcell (j := 2) hL6.obj
        have e3 := hcell (j := 3) hL6.obj
        have hq7 := g6.at' HQ2.out.2
        have HN7 := Lib.hid (HN2.out.trans g6)
        have HS := Lib.hid (hlt HQ2.out.2)
        have d0 := hcell (j := 0) hq7
        have d1 := hcell (j := 1) hq7
        have d2 := hcell (j := 2) hq7
        have d3 := hcell (j := 3) hq7
        have fz := fun k => hfz (j := k) hq7
        have hsl2 := hlt hq7
        clear hL6 g6 hq7 HL5 HL3 HQk HRr HSl HCh HCq HAw hch
        go_wp2
        exact bodyPost_ret (v := .tuple #[.agg #[.int .i64 t, .int .i64 r, .slice (some ⟨g, 0, none⟩) q.length cap, .int .i64 (W + 1)], .bool false, .int .i64 0]) (by simp only [results, Tryz.results73]; simp [go_sem, *]) rfl ⟨_, rfl, fill_nw HN7.out (Nat.le_succ _) _ _ _ _, (HL7.out.done HS.out _ _ _ _).1, HL7.out.own.cap, HL7.out.own.fresh HN2.out.sz⟩
      · simp only [if_true] at hL6 hR
        have hch := HCh.out (fun x => ⟨x.id, x.txn, wn, wn, 0⟩)
        simp only at hch
        rw [hch] at hR
        subst hR
        have HL7 := Lib.hid hL6
        have hpl := hlt hL6.obj
        have e0 := hcell (j := 0) hL6.obj
        have e1 := hcell (j := 1) hL6.obj
        have e2 := hcell (j := 2) hL6.obj
        have e3 := hcell (j := 3) hL6.obj
        have hq7 := g6.at' HQ2.out.2
        have HN7 := Lib.hid (HN2.out.trans g6)
        have HS := Lib.hid (hlt HQ2.out.2)
        have d0 := hcell (j := 0) hq7
        have d1 := hcell (j := 1) hq7
        have d2 := hcell (j := 2) hq7
        have d3 := hcell (j := 3) hq7
        have fz := fun k => hfz (j := k) hq7
        have hsl2 := hlt hq7
        clear hL6 g6 hq7 HL5 HL3 HQk HRr HSl HCh HCq HAw hch
        go_wp2
        exact bodyPost_ret (v := .tuple #[.agg #[.int .i64 t, .int .i64 r, .slice (some ⟨g, 0, none⟩) q.length cap, .int .i64 W], .bool true, .int .i64 0]) (by simp only [results, Tryz.results73]; simp [go_sem, *]) rfl ⟨_, rfl, fill_nw HN7.out (Nat.le_succ _) _ _ _ _, (HL7.out.done HS.out _ _ _ _).1, HL7.out.own.cap, HL7.out.own.fresh HN2.out.sz⟩
end Go.Proofs.YtodnlelnpidliaaGreat
end

/- The developers' package queue: Hand. -/
section
namespace Go.Proofs.YtodnlelnpidliaaGreat
open Go.RowKit
set_option linter.unusedVariables false      -- a contract need not use every name

theorem hn_plc {W : Int} {q : List Rq} {id x : Int} {k : Nat} (h : Ok W q) (hk : k < q.length) (hf : fnd q id = some q[k]) :
    (q.any fun o => !(o.id == id) && o.txn == x) = ((plc (fun R => R.txn == x) q != -1) && (plc (fun R => R.txn == x) q != (k : Int))) := by
  rcases plc_form (fun R => R.txn == x) q with ⟨h1, h2⟩ | ⟨m, h1, hm, h3, h4⟩
  · rw [h1]
    rw [hn_none hk hf (fun m hm _ e => by have := h2 _ (List.getElem_mem hm); simp [e] at this)]
    rfl
  · rw [h1]
    have e1 : ((m : Int) != -1) = true := by rw [bne_iff_ne]; omega
    rw [e1, Bool.true_and]
    have h3' : q[m].txn = x := by simpa using h3
    by_cases e : m = k
    · subst e
      have : ((m : Int) != (m : Int)) = false := by simp
      rw [this]
      refine hn_none hk hf (fun j hj ne ej => ?_)
      have e5 : q[j] = q[m] := h.injT _ (List.getElem_mem hj) _ (List.getElem_mem hk) (by rw [ej, h3'])
      have e6 := id_ne h hj hk ne
      exact e6 (by rw [e5])
    · have : ((m : Int) != (k : Int)) = true := by rw [bne_iff_ne]; omega
      rw [this]
      exact hn_hit h hk hf hm e h3'
set_option maxRecDepth 100000 in
set_option maxHeartbeats 4000000 in
theorem dHand (t r W id x : Int) (v : Value) (q : List Rq) (w : World) (hl : q.length ≤ 1000) (hok : Ok W q) (h : RqAt w v q) :
    Calls Tryz.prog 71 #[hdV t r v W, .int .i64 id, .int .i64 x] w (HD1 (hnR ⟨t, r, W, q⟩ id x) w) := by
  have HOk := Lib.hid hok
  clear hok
  obtain ⟨X, hX⟩ : ∃ X, hnR ⟨t, r, W, q⟩ id x = X := ⟨_, rfl⟩
  rw [hX]
  unfold HD1
  have HCl := Lib.hid (fun (w1 : World) (g : Nw w w1) => dClone v q w1 hl (h.nw g))
  obtain ⟨px, hpx⟩ : ∃ px, plc (fun R => R.id == id) q = px := ⟨_, rfl⟩
  have hFi := fun (w1 : World) (g : Nw w w1) (f : Value) (hf : Tells w1 f (fun R => R.id == id)) => dFind t r W v f _ q w1 hl (h.nw g) hf
  rw [hpx] at hFi
  obtain ⟨py, hpy⟩ : ∃ py, plc (fun R => R.txn == x) q = py := ⟨_, rfl⟩
  have hFt := fun (w1 : World) (g : Nw w w1) (f : Value) (hf : Tells w1 f (fun R => R.txn == x)) => dFind t r W v f _ q w1 hl (h.nw g) hf
  rw [hpy] at hFt
  have HAt := Lib.hid h
  obtain ⟨a, c, rfl, _⟩ := h
  unfold hdV at hFi hFt ⊢
  have HFi := Lib.hid hFi
  have HFt := Lib.hid hFt
  clear hFi hFt
  have HWi := Lib.hid (dWithID id)
  have HTx := Lib.hid (dOfTxn x)
  obtain ⟨hx1, hx2, hx3, hx4⟩ := two_boxes w (.cells #[.int .i64 t, .int .i64 r, .slice a q.length c, .int .i64 W] 56) (.cells #[.int .i64 0, .int .i64 0, .slice none 0 0, .int .i64 0] 56)
  obtain ⟨w1, hw1⟩ : ∃ w1, (w.alloc (.cells #[.int .i64 t, .int .i64 r, .slice a q.length c, .int .i64 W] 56)).alloc (.cells #[.int .i64 0, .int .i64 0, .slice none 0 0, .int .i64 0] 56) = w1 := ⟨_, rfl⟩
  rw [hw1] at hx1 hx2 hx3
  have HB1 := Lib.hid (And.intro (And.intro hx1 hx2) hx3)
  have s0 : ∀ z, Nw w1 z → z.cell? ⟨w.heap.size, 0, none⟩ = some (.int .i64 t) := fun z hz => hz.kp (hcell (j := 0) hx1)
  have s1 : ∀ z, Nw w1 z → z.cell? ⟨w.heap.size, 1, none⟩ = some (.int .i64 r) := fun z hz => hz.kp (hcell (j := 1) hx1)
  have s2 : ∀ z, Nw w1 z → z.cell? ⟨w.heap.size, 2, none⟩ = some (.slice a q.length c) := fun z hz => hz.kp (hcell (j := 2) hx1)
  have s3 : ∀ z, Nw w1 z → z.cell? ⟨w.heap.size, 3, none⟩ = some (.int .i64 W) := fun z hz => hz.kp (hcell (j := 3) hx1)
  clear hx1 hx2 hx3 hx4
  have HW1 := Lib.hid hw1
  clear hw1
  have q1 := (Nw.refl w1).drewQ
  obtain ⟨wc, hwc⟩ : ∃ wc, w1.drew = wc := ⟨_, rfl⟩
  go_enter Tryz.func71, Tryz.ntmps71
  go_wp2
  rw [HW1.out]
  have hB : Nw w1 w1 := Nw.refl w1
  have HT : ∀ (z : World), Nw w1 z → Nw w z := fun z hz => HB1.out.2.trans hz
  clear q1 hwc
  go_region_held3 (fun y => Nw w1 y) (first | assumption | exact Nw.drewQ (by assumption) | exact Nw.trans (by assumption) (by assumption)) (first | (go_at_call 88; (with_reducible refine (HWi.out _).mono ?_); rintro e wy ⟨pa, rfl, hg, hbx⟩; replace hbx := Tells.withID hbx) | (go_at_call 94; (with_reducible refine (HTx.out _).mono ?_); rintro e wy ⟨pa, rfl, hg, hbx⟩; replace hbx := Tells.ofTxn hbx) | (go_at_call 87; (with_reducible refine (HFi.out _ (HT _ (by assumption)) _ hbx).mono ?_); rintro e wy ⟨rfl, hg⟩; clear hbx) | (go_at_call 87; (with_reducible refine (HFt.out _ (HT _ (by assumption)) _ hbx).mono ?_); rintro e wy ⟨rfl, hg⟩; clear hbx))

  rename_i q1
  have HN := Lib.hid (HB1.out.2.trans q1)
  have hp1 := q1.at' HB1.out.1.1
  have hq1 := q1.at' HB1.out.1.2
  have c0 := hcell (j := 0) hp1
  have c1 := hcell (j := 1) hp1
  have c2 := hcell (j := 2) hp1
  have c3 := hcell (j := 3) hp1
  have hpl := hlt hp1
  rcases at_plc q id with ⟨e1, hf⟩ | ⟨k, e1, hk, hf⟩
  · obtain rfl := hpx.symm.trans e1
    have hR := hX.symm.trans (show hnR ⟨t, r, W, q⟩ id x = (noH, 5) by unfold hnR; rw [hf])
    subst hR
    have d0 := hcell (j := 0) hq1
    have d1 := hcell (j := 1) hq1
    have d2 := hcell (j := 2) hq1
    have d3 := hcell (j := 3) hq1
    have fz := fun k => hfz (j := k) hq1
    have hsl2 := hlt hq1
    clear hpx hpy hX e1 hf s0 s1 s2 s3 HB1 HFi HFt HWi HTx HAt HW1 q1 hp1 hq1 HCl
    go_wp2
    exact bodyPost_ret (v := .tuple #[.agg #[.int .i64 0, .int .i64 0, .slice none 0 0, .int .i64 0], .int .i64 5]) (by simp only [results, Tryz.results71]; simp [go_sem, *]) rfl ⟨_, rfl, fill_nw HN.out (Nat.le_succ _) _ _ _ _, Rd.nil _, Nat.le_refl _, Fresh.nil _ _⟩
  · obtain rfl := hpx.symm.trans e1
    have dk : ((k : Int) == -1) = false := by simp
    have hpl2 := hn_plc (x := x) HOk.out hk hf
    rw [hpy] at hpl2
    have hX1 : (q.any fun o => !(o.id == id) && o.txn == x) = true → X = (noH, 4) := fun s => hX.symm.trans (by unfold hnR; rw [hf]; exact if_pos s)
    have hX2 : ¬ (q.any fun o => !(o.id == id) && o.txn == x) = true → 0 < q[k].sn → X = (noH, 7) := fun s m => hX.symm.trans (by unfold hnR; rw [hf]; simp only [if_neg s]; exact if_pos m)
    have hX3 : ¬ (q.any fun o => !(o.id == id) && o.txn == x) = true → ¬ 0 < q[k].sn → X = (⟨t, r, W, q.set k ⟨q[k].id, x, q[k].md, q[k].wt, q[k].sn⟩⟩, 0) := fun s m => hX.symm.trans (by unfold hnR; rw [hf]; simp only [if_neg s]; rw [if_neg m, hn_at HOk.out hk hf])
    rw [hpl2] at hX1 hX2 hX3
    obtain ⟨bx, hbx⟩ : ∃ bx, (py != -1) = bx := ⟨_, rfl⟩
    obtain ⟨by2, hby2⟩ : ∃ by2, (py != (k : Int)) = by2 := ⟨_, rfl⟩
    rw [hbx, hby2] at hX1 hX2 hX3
    by_cases hy : (bx && by2) = true
    · have hR := hX1 hy
      subst hR
      rw [Bool.and_eq_true] at hy
      obtain ⟨rfl, rfl⟩ := hy
      have d0 := hcell (j := 0) hq1
      have d1 := hcell (j := 1) hq1
      have d2 := hcell (j := 2) hq1
      have d3 := hcell (j := 3) hq1
      have fz := fun k => hfz (j := k) hq1
      have hsl2 := hlt hq1
      clear hpx hpy hX e1 hf s0 s1 s2 s3 HB1 HFi HFt HWi HTx HAt HW1 q1 hp1 hq1 HCl hX1 hX2 hX3 hpl2
      go_wp2
      exact bodyPost_ret (v := .tuple #[.agg #[.int .i64 0, .int .i64 0, .slice none 0 0, .int .i64 0], .int .i64 4]) (by simp only [results, Tryz.results71]; simp [go_sem, *]) rfl ⟨_, rfl, fill_nw HN.out (Nat.le_succ _) _ _ _ _, Rd.nil _, Nat.le_refl _, Fresh.nil _ _⟩
    rcases HAt.out with ⟨a', c', e3, ⟨e4, _⟩ | ⟨b, o, e4, hc⟩⟩
    · subst e4; simp at hk
    simp only [Value.slice.injEq, true_and] at e3
    obtain ⟨rfl, rfl⟩ := e3
    subst e4
    have hki : (k : Int) < (q.length : Int) := by omega
    have hce := (hc.nw HN.out).cell k hk
    have HCe := Lib.hid (fun (z : World) (g : Nw w z) => (hc.nw g).cell k hk)
    have HWa := Lib.hid (fun z => dWaits q[k] z)
    have HHo := Lib.hid (fun z => dHolds q[k] z)
    have HRow := Lib.hid (fun (z : World) (g0 g cap : Nat) (j : Nat) (hj : j < 5) (u : Value) (new : Rq) (e : (rqrow q[k]).set j u = rqrow new) (h : RqOwn z g0 (.slice (some ⟨g, 0, none⟩) q.length cap) q) => own_upd h rfl k hk j hj u new e)
    have HRow2 := Lib.hid (fun (z : World) (g0 g cap : Nat) (X : Rq) (j : Nat) (hj : j < 5) (u : Value) (new : Rq) (e : (rqrow X).set j u = rqrow new) (h : RqOwn z g0 (.slice (some ⟨g, 0, none⟩) q.length cap) (q.set k X)) => own_upd h (by rw [List.length_set]) k (by rw [List.length_set]; exact hk) j hj u new (by rw [List.getElem_set_self]; exact e))
    simp only [List.set_set] at HRow2
    have HCo := Lib.hid (fun (z : World) (g0 g cap : Nat) (h : RqOwn z g0 (.slice (some ⟨g, 0, none⟩) q.length cap) q) => own_cell h rfl k hk)
    generalize q[k] = R at *
    obtain ⟨b0, b1, b2, b3, b4⟩ := R
    unfold rqV at HWa HHo
    have m0 := hce 0 _ rfl
    have m1 := hce 1 _ rfl
    have m2 := hce 2 _ rfl
    have m3 := hce 3 _ rfl
    have m4 := hce 4 _ rfl
    simp only [Nat.add_zero] at m0
    clear hce
    have HX2 := Lib.hid (hX2 hy)
    have HX3 := Lib.hid (hX3 hy)
    have HY := Lib.hid hy
    have HP := Lib.hid (And.intro hp1 hq1)
    clear hX1 hX2 hX3 hpl2 hpx hpy hX e1 hf s0 s1 s2 s3 HB1 HFi HFt HWi HTx HW1 q1 hc HOk HHo hy
    cases bx <;> cases by2 <;> first
     | (exfalso; exact absurd rfl HY.out)
     | skip
    all_goals
      clear HY
      go_wp2_with fail
      go_at_call 101
      refine (HWa.out _).mono ?_
      rintro e w2 ⟨rfl, g2⟩
      have hp2 := g2.at' HP.out.1
      have hq2 := g2.at' HP.out.2
      have HN2 := Lib.hid (HN.out.trans g2)
      clear c0 c1 c2 c3 hpl hp1 hq1
      have c0 := hcell (j := 0) hp2
      have c1 := hcell (j := 1) hp2
      have c2 := hcell (j := 2) hp2
      have c3 := hcell (j := 3) hp2
      have hpl := hlt hp2
      clear m0 m1 m2 m3 m4 g2 HWa HP
      by_cases hs : 0 < b4
      · have ds : decide (0 < b4) = true := by simpa using hs
        have hR := HX2.out hs
        subst hR
        have d0 := hcell (j := 0) hq2
        have d1 := hcell (j := 1) hq2
        have d2 := hcell (j := 2) hq2
        have d3 := hcell (j := 3) hq2
        have fz := fun k => hfz (j := k) hq2
        have hsl2 := hlt hq2
        clear hs HX2 HX3 HCe HRow HRow2 HCo HCl HAt HN hp2 hq2
        go_wp2
        exact bodyPost_ret (v := .tuple #[.agg #[.int .i64 0, .int .i64 0, .slice none 0 0, .int .i64 0], .int .i64 7]) (by simp only [results, Tryz.results71]; simp [go_sem, *]) rfl ⟨_, rfl, fill_nw HN2.out (Nat.le_succ _) _ _ _ _, Rd.nil _, Nat.le_refl _, Fresh.nil _ _⟩
      have ds : decide (0 < b4) = false := by simpa using hs
      have hR := HX3.out (by first | exact hs | exact Int.not_lt.1 hs)
      subst hR
      have HQ := Lib.hid (And.intro hp2 hq2)
      have HCl2 := Lib.hid (HCl.out _ HN2.out)
      clear hs HX2 HX3 HCe HCl HAt hp2 hq2
      go_wp2_with fail
      go_at_call 47
      refine HCl2.out.mono ?_
      rintro e w4 ⟨v4, rfl, g4, hO⟩
      obtain ⟨g, cap, rfl, hg0, hgl, _⟩ := RqOwn.at hO hk
      have hne : ¬ g = w.heap.size := by have := hlt HQ.out.1; omega
      have hne' : ¬ w.heap.size = g := fun e => hne e.symm
      have hn2 : ¬ g = w.heap.size + 1 := by have := hlt HQ.out.2; omega
      have hn2' : ¬ w.heap.size + 1 = g := fun e => hn2 e.symm
      have hp4 := g4.at' HQ.out.1
      have hq4 := g4.at' HQ.out.2
      have HB := Lib.hid (And.intro (hlt HQ.out.1) (hlt HQ.out.2))
      have hO1 := own_st hO (p := ⟨w.heap.size, 2, none⟩) (by exact HB.out.1) (.slice (some ⟨g, 0, none⟩) q.length cap)
      have hO2 := HRow.out _ _ _ _ 1 (by decide) (.int .i64 x) ⟨b0, x, b2, b3, b4⟩ rfl hO1
      have hO4 := fill_own hO2 (rb := w.heap.size + 1) HB.out.2 (.int .i64 t) (.int .i64 r) (.slice (some ⟨g, 0, none⟩) q.length cap) (.int .i64 W)
      have HO4 := Lib.hid hO4
      have HN4 := Lib.hid (HN2.out.trans g4)
      have HG := Lib.hid (And.intro hg0 HN2.out.sz)
      have hoc := HCo.out _ _ _ _ hO
      have c0 := hcell (j := 0) hp4
      have c1 := hcell (j := 1) hp4
      have c2 := hcell (j := 2) hp4
      have c3 := hcell (j := 3) hp4
      have hpl := hlt hp4
      have fp := fun k => hfz (j := k) hp4
      have fg := fun k => own_frz hO rfl k
      have m1 := hoc 1 _ rfl
      have d0 := hcell (j := 0) hq4
      have d1 := hcell (j := 1) hq4
      have d2 := hcell (j := 2) hq4
      have d3 := hcell (j := 3) hq4
      have fz := fun k => hfz (j := k) hq4
      have hsl2 := hlt hq4
      clear hq4 hp4 hO hO1 hO2 hO4 hoc g4 HCl2 HN HRow HRow2 HCo hg0
      go_wp2
      exact bodyPost_ret (v := .tuple #[.agg #[.int .i64 t, .int .i64 r, .slice (some ⟨g, 0, none⟩) q.length cap, .int .i64 W], .int .i64 0]) (by simp only [results, Tryz.results71]; simp [go_sem, *]) rfl ⟨_, rfl, fill_nw ((HN4.out.st (Nat.le_refl _) _).st (by show w.heap.size ≤ g; have := HG.out; omega) _) (Nat.le_succ _) _ _ _ _, RqOwn.rd HO4.out, HO4.out.cap, HO4.out.fresh HG.out.2⟩
end Go.Proofs.YtodnlelnpidliaaGreat
end

/- Upgrade and Hand. -/
section
namespace Go.Proofs.YtodnlelnpidliaaGreat
open Go.RowKit Go.Shelf
set_option linter.unusedVariables false      -- a contract need not use every name

theorem scan_end {hs : List Hq} {X : Hq} (hd : Done X.q) (hn : X.q ≠ []) : endS hs X = putH hs X := by
  unfold endS
  have : scH X = X := by unfold scH; rw [scan_done hd]
  rw [this, if_neg hn]
theorem upQ_ne {W : Int} {q : List Rq} {r : Rq} {m : Int} (hq : q ≠ []) : (upQ W q r m).2.1 ≠ [] := by
  have h1 : ∀ f id, chg f id q ≠ [] := fun f id e => by
    have := congrArg List.length e
    unfold chg at this
    rw [List.length_map] at this
    exact hq (List.length_eq_zero_iff.1 this)
  unfold upQ
  split
  · exact hq
  · split
    · exact h1 _ _
    · exact h1 _ _
/-- What Upgrade comes to. -/
def UpD (w : World) (o mb po n : Nat) (F : Nat → Prop) (l : List Hp) (L : List Bool) (id a : Int) (e : Ending) (w' : World) : Prop :=
  e = .returned (.tuple #[.bool (upBG (hsP l) id a), .int .i64 (upBE (hsP l) id a)]) ∧ ∃ l', hsP l' = upBS (hsP l) id a ∧ DbTo w o mb po n F l w' l' L
set_option maxRecDepth 20000 in
set_option maxHeartbeats 4000000 in
theorem upgrade_d {w : World} {o mb po n k : Nat} {l : List Hp} {L : List Bool} {F : Nat → Prop} (h : Db w o mb po n l L F) (b : BInv n k (hsP l) L) (hk : k ≤ 800) (hn : n ≤ 64) (id a : Int) :
    Calls Tryz.prog 36 #[.pointer (some ⟨o, 0, none⟩), .int .i64 id, .int .i64 a] w (UpD w o mb po n F l L id a) := by
  have H := Lib.hid h
  have hol := h.ol
  have HMd := Lib.hid (bmade_yes o w h.c0)
  have HWi := Lib.hid (with_any h id)
  obtain ⟨hi, hW, hql⟩ := wth_ok b id
  have hbl := (binv_up b (by omega) id a).len
  obtain ⟨X, hX⟩ : ∃ X, upR (wthP l id).h id a = X := ⟨_, rfl⟩
  have hC := fun w1 (g : Nw w w1) => dUpgrade (wthP l id).h.t (wthP l id).h.r (wthP l id).h.W id a (hpV (wthP l id)) (wthP l id).h.q w1 (by omega) hi.ok ((wth_rd h id).nw g)
  rw [show (⟨(wthP l id).h.t, (wthP l id).h.r, (wthP l id).h.W, (wthP l id).h.q⟩ : Hq) = (wthP l id).h from rfl, hX] at hC
  have key : (X.2.2 ≠ 0 ∧ upBE (hsP l) id a = X.2.2 ∧ upBG (hsP l) id a = false ∧ upBS (hsP l) id a = hsP l) ∨ (X.2.2 = 0 ∧ (upBE (hsP l) id a = 0 ∧ upBG (hsP l) id a = X.2.1) ∧ upBS (hsP l) id a = putH (hsP l) X.1 ∧ endS (hsP l) X.1 = putH (hsP l) X.1 ∧ wfN (X.1.t, X.1.r) ∧ X.1.q.length ≤ 1000 ∧ Ok X.1.W X.1.q ∧ (endS (hsP l) X.1).length ≤ 64) := by
    cases e : whP l id with
    | none =>
      have e1 : ofId (hsP l) id = none := by rw [wth_of, e]; rfl
      have e0 : X = (noH, false, if badM a then 2 else 5) := by
        rw [← hX, wth_none e]
        by_cases hb : a = 0 ∨ knI a = false
        · rw [if_pos (show badM a from hb)]; unfold upR; rw [if_pos hb]
        · rw [if_neg (show ¬ badM a from hb)]; unfold upR; rw [if_neg hb]; rfl
      have e2 : upBE (hsP l) id a = if badM a then 2 else 5 := by unfold upBE; rw [e1]
      subst e0
      refine .inl ⟨?_, ?_, ?_, ?_⟩
      · simp only; split <;> decide
      · exact e2
      · unfold upBG; rw [if_neg (by rw [e2]; split <;> decide)]
      · unfold upBS; rw [if_neg (by rw [e2]; split <;> decide)]
    | some x =>
      obtain ⟨ex, hx, r, hr⟩ := wth_some e
      have e1 : ofId (hsP l) id = some x.h := by rw [wth_of, e]; rfl
      rw [ex] at hi hW hql hX
      have e2 : upBE (hsP l) id a = X.2.2 := by
        unfold upBE
        rw [e1, ← hX]
        by_cases hb : a = 0 ∨ knI a = false
        · rw [if_pos (show badM a from hb)]; unfold upR; rw [if_pos hb]
        · rw [if_neg (show ¬ badM a from hb)]
      by_cases h0 : X.2.2 = 0
      · have hup := h0
        rw [← hX] at hup
        obtain ⟨r', u1, u2, u3, u4, u5, u6, u7⟩ := up_is hi.ok hup
        have hS : upBS (hsP l) id a = putH (hsP l) X.1 := by unfold upBS; rw [if_pos (e2.trans h0), e1]; simp only; rw [hX]
        have hG : upBG (hsP l) id a = X.2.1 := by unfold upBG; rw [if_pos (e2.trans h0), e1]; simp only; rw [hX]
        have hx1 : X.1 = ⟨x.h.t, x.h.r, (upQ x.h.W x.h.q r' a).1, (upQ x.h.W x.h.q r' a).2.1⟩ := by rw [← hX, u7]
        have hne : x.h.q ≠ [] := List.ne_nil_of_mem u1
        have hdn : Done X.1.q := by rw [hx1]; exact done_upg hi.ok hi.done r' u1 a u4 u5
        have hok : Ok X.1.W X.1.q := by rw [hx1]; exact ok_up hi.ok r' u1 a u4 u5 (by omega)
        have hen := scan_end (hs := hsP l) hdn (by rw [hx1]; exact upQ_ne hne)
        rw [hS] at hbl
        refine .inr ⟨h0, ⟨e2.trans h0, hG⟩, hS, hen, by rw [hx1]; exact h.map.wf x hx, ?_, hok, by rw [hen]; omega⟩
        rw [hx1]
        have := (upQ_W x.h.W x.h.q r' a).2.2
        simp only
        omega
      · refine .inl ⟨h0, e2, ?_, ?_⟩
        · unfold upBG; rw [if_neg (by rw [e2]; exact h0)]
        · unfold upBS; rw [if_neg (by rw [e2]; exact h0)]
  have HK := Lib.hid key
  have HC := Lib.hid hC
  clear h b hC key hi hW hql hbl hX
  obtain ⟨V, hV⟩ : ∃ V, hpH (wthP l id) = V := ⟨_, rfl⟩
  change Hid (∀ w1, Nw w w1 → Calls Tryz.prog _ #[hpH (wthP l id), _, _] w1 _) at HC
  rw [hV] at HWi HC
  have hVa : ∃ c, V = .agg c := ⟨_, hV.symm⟩
  clear hV
  obtain ⟨cs, rfl⟩ := hVa
  go_enter Tryz.func36, Tryz.ntmps36
  go_wp2_with fail
  refine HMd.out.mono ?_
  rintro e w' ⟨rfl, rfl⟩
  go_wp2_with fail
  refine HWi.out.mono ?_
  rintro e w1 ⟨rfl, g1⟩
  go_wp2_with fail
  refine (HC.out _ g1).mono ?_
  rintro e w2 ⟨v2, rfl, g2, rd2, cap2, fr2⟩
  obtain ⟨a2, c2, hv2⟩ := rd2.form
  obtain ⟨q2l, hq2⟩ : ∃ q2l, X.1.q.length = q2l := ⟨_, rfl⟩
  rw [hq2] at hv2
  subst hv2
  have HG := Lib.hid (g1.trans g2)
  have hrd := rd2
  obtain ⟨⟨Xt, Xr, XW, Xq⟩, XG, E⟩ := X
  simp only [hdV] at hrd ⊢
  clear g1 g2 rd2 cap2 fr2 hq2
  obtain ⟨y1, hy1⟩ : ∃ y1, w2.alloc (.cells #[.int .i64 Xt, .int .i64 Xr, .slice a2 q2l c2, .int .i64 XW] 56) = y1 := ⟨_, rfl⟩
  have g3 : Nw w2 y1 := by rw [← hy1]; exact (Nw.refl w2).alloc _
  have HG1 := Lib.hid (HG.out.trans g3)
  have hrd1 := hrd.nw g3
  have HY := Lib.hid hy1
  clear hy1 g3 hrd
  rcases HK.out with ⟨k1, k2⟩ | ⟨k1, k2, k3, k4, k5, k6, k7, k8⟩
  · simp only at k1 k2
    have hne : (E != 0) = true := by simpa using k1
    have hne2 : (E == 0) = false := by simpa using k1
    have HR := Lib.hid (show UpD w o mb po n F l L id a (.returned (.tuple #[.bool false, .int .i64 E])) y1 from by
      unfold UpD
      obtain ⟨q1, q2, q3⟩ := k2
      rw [q1, q2, q3]
      exact ⟨rfl, l, rfl, H.out.to HG1.out⟩)
    clear k1 k2 hrd1
    go_wp2
    rw [HY.out]
    exact bodyPost_ret (v := .tuple #[.bool false, .int .i64 E]) (by simp [results, Tryz.results36, go_sem, *]) rfl HR.out
  · simp only at k1 k2 k3 k4 k5 k6 k7 k8
    subst k1
    have HS := Lib.hid (settle_any (H.out.nw HG1.out) Xt Xr XW (.slice a2 q2l c2) Xq k5 k6 k7 hrd1 k8)
    have HR := Lib.hid (fun (y2 : World) (l' : List Hp) (hl' : hsP l' = endS (hsP l) ⟨Xt, Xr, XW, Xq⟩) (hto : DbTo y1 o mb po n F l y2 l' L) => (show UpD w o mb po n F l L id a (.returned (.tuple #[.bool XG, .int .i64 0])) y2 from by
      unfold UpD
      obtain ⟨q1, q2⟩ := k2
      rw [q1, q2, k3]
      exact ⟨rfl, l', by rw [hl', k4], hto.pre HG1.out⟩))
    clear k2 k3 k4 k5 k6 k7 k8 hrd1
    go_wp2_with fail
    rw [HY.out]
    refine HS.out.mono ?_
    rintro e y2 ⟨vi, l', rfl, _, hl', hto, _⟩
    have HF := Lib.hid (HR.out y2 l' hl' hto)
    clear hl' hto
    go_wp2
    exact bodyPost_ret (v := .tuple #[.bool XG, .int .i64 0]) (by simp [results, Tryz.results36, go_sem, *]) rfl HF.out
end Go.Proofs.YtodnlelnpidliaaGreat
end

/- Hand. -/
section
namespace Go.Proofs.YtodnlelnpidliaaGreat
open Go.RowKit Go.Shelf
set_option linter.unusedVariables false      -- a contract need not use every name

/-- What Hand comes to. -/
def HnD (w : World) (o mb po n : Nat) (F : Nat → Prop) (l : List Hp) (L : List Bool) (id a : Int) (e : Ending) (w' : World) : Prop :=
  e = .returned (.int .i64 (hnBE (hsP l) id a)) ∧ ∃ l', hsP l' = hnBS (hsP l) id a ∧ DbTo w o mb po n F l w' l' L
set_option maxRecDepth 20000 in
set_option maxHeartbeats 4000000 in
theorem hand_d {w : World} {o mb po n k : Nat} {l : List Hp} {L : List Bool} {F : Nat → Prop} (h : Db w o mb po n l L F) (b : BInv n k (hsP l) L) (hk : k ≤ 800) (hn : n ≤ 64) (id a : Int) :
    Calls Tryz.prog 32 #[.pointer (some ⟨o, 0, none⟩), .int .i64 id, .int .i64 a] w (HnD w o mb po n F l L id a) := by
  have H := Lib.hid h
  have hol := h.ol
  have HMd := Lib.hid (bmade_yes o w h.c0)
  have HWi := Lib.hid (with_any h id)
  obtain ⟨hi, hW, hql⟩ := wth_ok b id
  have hbl := (binv_hn b id a).len
  obtain ⟨X, hX⟩ : ∃ X, hnR (wthP l id).h id a = X := ⟨_, rfl⟩
  have hC := fun w1 (g : Nw w w1) => dHand (wthP l id).h.t (wthP l id).h.r (wthP l id).h.W id a (hpV (wthP l id)) (wthP l id).h.q w1 (by omega) hi.ok ((wth_rd h id).nw g)
  rw [show (⟨(wthP l id).h.t, (wthP l id).h.r, (wthP l id).h.W, (wthP l id).h.q⟩ : Hq) = (wthP l id).h from rfl, hX] at hC
  have key : (X.2 ≠ 0 ∧ hnBE (hsP l) id a = X.2 ∧ hnBS (hsP l) id a = hsP l) ∨ (X.2 = 0 ∧ hnBE (hsP l) id a = 0 ∧ hnBS (hsP l) id a = putH (hsP l) X.1 ∧ endS (hsP l) X.1 = putH (hsP l) X.1 ∧ wfN (X.1.t, X.1.r) ∧ X.1.q.length ≤ 1000 ∧ Ok X.1.W X.1.q ∧ (endS (hsP l) X.1).length ≤ 64) := by
    cases e : whP l id with
    | none =>
      have e1 : ofId (hsP l) id = none := by rw [wth_of, e]; rfl
      have e0 : X = (noH, 5) := by rw [← hX, wth_none e]; rfl
      have e2 : hnBE (hsP l) id a = 5 := by unfold hnBE; rw [e1]
      subst e0
      exact .inl ⟨by decide, e2, by unfold hnBS; rw [if_neg (by rw [e2]; decide)]⟩
    | some x =>
      obtain ⟨ex, hx, r, hr⟩ := wth_some e
      have e1 : ofId (hsP l) id = some x.h := by rw [wth_of, e]; rfl
      rw [ex] at hi hW hql hX
      have e2 : hnBE (hsP l) id a = X.2 := by unfold hnBE; rw [e1, ← hX]
      by_cases h0 : X.2 = 0
      · have hup := h0
        rw [← hX] at hup
        obtain ⟨r', u1, u2, u3, u4, u5, u7⟩ := hn_is hi.ok hup
        have hS : hnBS (hsP l) id a = putH (hsP l) X.1 := by unfold hnBS; rw [if_pos (e2.trans h0), e1]; simp only; rw [hX]
        have hx1 : X.1 = ⟨x.h.t, x.h.r, x.h.W, chg (hnF a) r'.id x.h.q⟩ := by rw [← hX, u7]
        have hcl : (chg (hnF a) r'.id x.h.q).length = x.h.q.length := by unfold chg; rw [List.length_map]
        have hne : chg (hnF a) r'.id x.h.q ≠ [] := fun e => by
          rw [e] at hcl
          have := List.length_pos_of_mem u1
          simp at hcl
          omega
        have hdn : Done X.1.q := by rw [hx1]; exact done_hn hi.done r'.id a
        have hok : Ok X.1.W X.1.q := by rw [hx1]; exact ok_hn hi.ok r' u1 a u5
        have hen := scan_end (hs := hsP l) hdn (by rw [hx1]; exact hne)
        rw [hS] at hbl
        exact .inr ⟨h0, e2.trans h0, hS, hen, by rw [hx1]; exact h.map.wf x hx, by rw [hx1]; simp only; omega, hok, by rw [hen]; omega⟩
      · exact .inl ⟨h0, e2, by unfold hnBS; rw [if_neg (by rw [e2]; exact h0)]⟩
  have HK := Lib.hid key
  have HC := Lib.hid hC
  clear h b hC key hi hW hql hbl hX
  obtain ⟨V, hV⟩ : ∃ V, hpH (wthP l id) = V := ⟨_, rfl⟩
  change Hid (∀ w1, Nw w w1 → Calls Tryz.prog _ #[hpH (wthP l id), _, _] w1 _) at HC
  rw [hV] at HWi HC
  have hVa : ∃ c, V = .agg c := ⟨_, hV.symm⟩
  clear hV
  obtain ⟨cs, rfl⟩ := hVa
  go_enter Tryz.func32, Tryz.ntmps32
  go_wp2_with fail
  refine HMd.out.mono ?_
  rintro e w' ⟨rfl, rfl⟩
  go_wp2_with fail
  refine HWi.out.mono ?_
  rintro e w1 ⟨rfl, g1⟩
  go_wp2_with fail
  refine (HC.out _ g1).mono ?_
  rintro e w2 ⟨v2, rfl, g2, rd2, cap2, fr2⟩
  obtain ⟨a2, c2, hv2⟩ := rd2.form
  obtain ⟨q2l, hq2⟩ : ∃ q2l, X.1.q.length = q2l := ⟨_, rfl⟩
  rw [hq2] at hv2
  subst hv2
  have HG := Lib.hid (g1.trans g2)
  have hrd := rd2
  obtain ⟨⟨Xt, Xr, XW, Xq⟩, E⟩ := X
  simp only [hdV] at hrd ⊢
  clear g1 g2 rd2 cap2 fr2 hq2
  obtain ⟨y1, hy1⟩ : ∃ y1, w2.alloc (.cells #[.int .i64 Xt, .int .i64 Xr, .slice a2 q2l c2, .int .i64 XW] 56) = y1 := ⟨_, rfl⟩
  have g3 : Nw w2 y1 := by rw [← hy1]; exact (Nw.refl w2).alloc _
  have HG1 := Lib.hid (HG.out.trans g3)
  have hrd1 := hrd.nw g3
  have HY := Lib.hid hy1
  clear hy1 g3 hrd
  rcases HK.out with ⟨k1, k2⟩ | ⟨k1, k2, k3, k4, k5, k6, k7, k8⟩
  · simp only at k1 k2
    have hne : (E != 0) = true := by simpa using k1
    have hne2 : (E == 0) = false := by simpa using k1
    have HR := Lib.hid (show HnD w o mb po n F l L id a (.returned (.int .i64 E)) y1 from by
      unfold HnD
      obtain ⟨q1, q3⟩ := k2
      rw [q1, q3]
      exact ⟨rfl, l, rfl, H.out.to HG1.out⟩)
    clear k1 k2 hrd1
    go_wp2
    rw [HY.out]
    exact bodyPost_ret (v := .int .i64 E) (by simp [results, Tryz.results32, go_sem, *]) rfl HR.out
  · simp only at k1 k2 k3 k4 k5 k6 k7 k8
    subst k1
    have HS := Lib.hid (settle_any (H.out.nw HG1.out) Xt Xr XW (.slice a2 q2l c2) Xq k5 k6 k7 hrd1 k8)
    have HR := Lib.hid (fun (y2 : World) (l' : List Hp) (hl' : hsP l' = endS (hsP l) ⟨Xt, Xr, XW, Xq⟩) (hto : DbTo y1 o mb po n F l y2 l' L) => (show HnD w o mb po n F l L id a (.returned (.int .i64 0)) y2 from by
      unfold HnD
      rw [k2, k3]
      exact ⟨rfl, l', by rw [hl', k4], hto.pre HG1.out⟩))
    clear k2 k3 k4 k5 k6 k7 k8 hrd1
    go_wp2_with fail
    rw [HY.out]
    refine HS.out.mono ?_
    rintro e y2 ⟨vi, l', rfl, _, hl', hto, _⟩
    have HF := Lib.hid (HR.out y2 l' hl' hto)
    clear hl' hto
    go_wp2
    exact bodyPost_ret (v := .int .i64 0) (by simp [results, Tryz.results32, go_sem, *]) rfl HF.out
end Go.Proofs.YtodnlelnpidliaaGreat
end
