/- Texts merged: QtW -/
import Derived.Test.YtmciiobncfchlaaQueueTurnsB14

/- QueueTurns: the walk. -/
section
namespace Go.Proofs.Ytmciiobncfchlaa.turns
open Go.RowKit
set_option linter.unusedVariables false

set_option maxRecDepth 100000 in
set_option maxHeartbeats 32000000 in
theorem law_any (lv : Int) (a : Option Addr) (len cap : Nat) (f : Nat → Nat → Int) (w : World) (hA : IsActs w a len cap f) :
    Calls Try.prog 6 #[.slice a len cap, .int .i64 lv] w fun e w' => e = .returned (.bool true) ∧ Nw w w' := by
  have HLv := Lib.hid lives_ok
  have HEm := Lib.hid lEmpty
  unfold hdV at HEm
  have HAc := Lib.hid hA
  clear hA
  by_cases hl : 40 < len
  · have d1 : decide ((40 : Int) < (len : Int)) = true := by rw [decide_eq_true_iff]; omega
    have d1' : decide (40 < len) = true := by rw [decide_eq_true_iff]; omega
    clear hl
    go_enter Try.func6, Try.ntmps6
    go_wp2_with fail
    go_at_call 7
    refine (HLv.out _).mono ?_
    rintro e w0 ⟨rfl, g0⟩
    go_wp2
    go_ret
    exact ⟨rfl, g0⟩
  have d1 : decide ((40 : Int) < (len : Int)) = false := by rw [decide_eq_false_iff_not]; omega
  have d1' : decide (40 < len) = false := by rw [decide_eq_false_iff_not]; omega
  have hl40 : len ≤ 40 := by omega
  clear hl
  go_enter Try.func6, Try.ntmps6
  go_wp2_with fail
  go_at_call 7
  refine (HLv.out _).mono ?_
  rintro e w0 ⟨rfl, g0⟩
  go_wp2_with fail
  go_at_call 9
  refine (HEm.out _).mono ?_
  rintro e w1 ⟨rfl, g1⟩
  have hb := HB.made w1 0 (-1) (.slice none 0 0) 0
  have hN : Nw w (w1.alloc (.cells #[.int .i64 0, .int .i64 (-1), .slice none 0 0, .int .i64 0] 27)) := (g0.trans g1).alloc _
  obtain ⟨B, hB⟩ : ∃ B, w1.heap.size = B := ⟨_, rfl⟩
  have hBw : w.heap.size ≤ B := by rw [← hB]; exact (g0.trans g1).sz
  rw [hB] at hb
  obtain ⟨u1, hu1⟩ : ∃ u, w1.alloc (.cells #[.int .i64 0, .int .i64 (-1), .slice none 0 0, .int .i64 0] 27) = u := ⟨_, rfl⟩
  rw [hu1] at hb hN
  have HU := Lib.hid (And.intro hu1 hB)
  have HS0 := Lib.hid (show HSt w u1 B 0 ⟨0, -1, 0, []⟩ (.slice none 0 0) from ⟨hb, Rd.nil _, fun b o n c e => by simp at e, HAct.nil, hN⟩)
  have HBw := Lib.hid hBw
  clear hB hu1 hb hN hBw g0 g1 HLv HEm
  go_wp2_with fail
  rw [HU.out.1, HU.out.2]
  clear HU
  go_loopw [6] (fun i wr => ∃ (k : Nat) (h : Hq) (v : Value), i = .int .i64 k ∧ k ≤ len ∧ HSt w wr B k h v) (fun i _ => len - (intOf i).toNat)
  case atStart => exact ⟨0, _, _, rfl, Nat.zero_le _, HS0.out⟩
  case round =>
    obtain ⟨k, h, v, rfl, hk, hS⟩ := hrel
    clear HS0
    by_cases hklt : k < len
    · have dlt : decide ((k : Int) < (len : Int)) = true := by rw [decide_eq_true_iff]; omega
      obtain ⟨ab, ao, rfl, hmx, hab, hce⟩ := HAc.out.at (Nat.lt_of_le_of_lt (Nat.zero_le k) hklt)
      obtain ⟨e0, e1, e2, e3, fi1, fi2⟩ := hce k hklt
      replace e0 := hS.nw.kp e0
      replace e1 := hS.nw.kp e1
      replace e2 := hS.nw.kp e2
      replace e3 := hS.nw.kp e3
      have hDo := lDo h k hS.act (by omega) (f k 0) (f k 1) (f k 2) (f k 3) v wr.drew (hS.at'.nw (Nw.refl _).dr)
      have hAct := hS.act.step (by omega) (f k 0 % 4) (f k 1) (f k 2) (f k 3) fi1 fi2
      obtain ⟨h', hh'⟩ : ∃ h', doQ h (f k 0 % 4) (f k 1) (f k 2) (f k 3) = h' := ⟨_, rfl⟩
      rw [hh'] at hDo hAct
      have ht' := hAct.t
      have hr' := hAct.r
      rw [hS.act.t, hS.act.r, ht', hr'] at hDo
      unfold hdV at hDo
      have hbx : Go.Proofs.Ytmciiobncfchlaa.HB wr B 0 (-1) v h.W := by have := hS.box; rwa [hS.act.t, hS.act.r] at this
      have HDo := Lib.hid hDo
      have HAct' := Lib.hid hAct
      have c0 := hcell (j := 0) hbx
      have c1 := hcell (j := 1) hbx
      have c2 := hcell (j := 2) hbx
      have c3 := hcell (j := 3) hbx
      have cl := hlt hbx
      have HSk := Lib.hid (And.intro hS hbx)
      have hki : (k : Int) < (len : Int) := by omega
      generalize f k 0 = f0 at *
      generalize f k 1 = f1 at *
      generalize f k 2 = f2 at *
      generalize f k 3 = f3 at *
      obtain ⟨W0, hW0⟩ : ∃ x, h.W = x := ⟨_, rfl⟩
      obtain ⟨W1, hW1⟩ : ∃ x, h'.W = x := ⟨_, rfl⟩
      rw [hW0] at c3 HDo
      rw [hW1] at HDo
      have HW1 := Lib.hid hW1
      clear hDo hAct ht' hr' hbx hS hce hh' fi1 fi2 hW0 hW1
      go_wp2
      refine wp_region_still_tail 5 (by kernel_rfl) (by kernel_rfl) ?_
      simp only [List.take_succ_cons, List.take_zero, List.drop_succ_cons, List.drop_zero]
      repeat still_step
      try refine wpStill_nil ?_
      change wpList _ _ _ _ _ wr.drew
      go_wp2_with fail
      go_at_call 30
      refine HDo.out.mono ?_
      rintro e w2 ⟨v', rfl, g2, hR, hf⟩
      obtain ⟨a', k', hv⟩ := hR.form
      obtain ⟨n', hn'⟩ : ∃ n, h'.q.length = n := ⟨_, rfl⟩
      rw [hn'] at hv
      subst hv
      clear c0 c1 c2 c3 cl e0 e1 e2 e3 HDo
      have hb2 := HSk.out.2.nw ((Nw.refl wr).dr.trans g2)
      have d0 := hcell (j := 0) hb2
      have d1 := hcell (j := 1) hb2
      have d2 := hcell (j := 2) hb2
      have d3 := hcell (j := 3) hb2
      have dl := hlt hb2
      have dz := fun k => hfz (j := k) hb2
      have hat := do_at (hlt (HSk.out.2.nw (Nw.refl wr).dr)) hR hf HSk.out.1.off (.int .i64 0) (.int .i64 (-1)) (.slice a' n' k') (.int .i64 W1)
      have hN3 : Nw w (filld w2 B (.int .i64 0) (.int .i64 (-1)) (.slice a' n' k') (.int .i64 W1)) := fill_nw (HSk.out.1.nw.trans ((Nw.refl wr).dr.trans g2)) HBw.out _ _ _ _
      have hb3 := hb2.fill 0 (-1) W1 (.slice a' n' k')
      obtain ⟨u3, hu3⟩ : ∃ x, filld w2 B (.int .i64 0) (.int .i64 (-1)) (.slice a' n' k') (.int .i64 W1) = x := ⟨_, rfl⟩
      change Go.Proofs.Ytmciiobncfchlaa.HB (filld w2 B (.int .i64 0) (.int .i64 (-1)) (.slice a' n' k') (.int .i64 W1)) B 0 (-1) (.slice a' n' k') W1 at hb3
      rw [hu3] at hat hN3 hb3
      have HS3 := Lib.hid (show HSt w u3 B (k + 1) h' (.slice a' n' k') from ⟨by rw [HAct'.out.t, HAct'.out.r, HW1.out]; exact hb3, hat.1, hat.2, HAct'.out, hN3⟩)
      have HE := Lib.hid hu3
      have Hb3 := Lib.hid hb3
      have HL := Lib.hid hn'
      clear hb2 hat hN3 hb3 hu3 hR hf g2 HSk hn'
      go_wp2_with fail
      have hE := HE.out
      unfold filld at hE
      rw [hE]
      clear hE d0 d1 d2 d3 dz dl HE

      go_wp2
      go_roundw
      case rel => exact ⟨k + 1, h', _, by go_num, by omega, HS3.out⟩
      case measure => simp [intOf]; omega
    have dlt : decide ((k : Int) < (len : Int)) = false := by rw [decide_eq_false_iff_not]; omega
    have hq40 : h.q.length ≤ 40 := by have := hS.act.len; omega
    have okh := hS.act.inv.ok
    obtain ⟨n, hn⟩ : ∃ n, h.q.length = n := ⟨_, rfl⟩
    obtain ⟨W0, hW0⟩ : ∃ x, h.W = x := ⟨_, rfl⟩
    obtain ⟨q, hqe⟩ : ∃ x, h.q = x := ⟨_, rfl⟩
    have hbx : Go.Proofs.Ytmciiobncfchlaa.HB wr B 0 (-1) v W0 := by have := hS.box; rwa [hS.act.t, hS.act.r, hW0] at this
    have hat := hS.at'
    have hms : meas h.q ≤ 40 := by have := hS.act.ms; omega
    have hN := hS.nw
    rw [hqe] at hn hat okh hms hq40
    rw [hW0] at okh
    obtain ⟨a0, k0, hv⟩ := hat.form
    rw [hn] at hv
    subst hv
    have dlt' : decide (k < len) = false := by rw [decide_eq_false_iff_not]; omega
    clear hS hqe hW0 hk hklt
    have c0 := hcell (j := 0) hbx
    have c1 := hcell (j := 1) hbx
    have c2 := hcell (j := 2) hbx
    have c3 := hcell (j := 3) hbx
    have cl := hlt hbx
    have HH := Lib.hid (And.intro hat (And.intro okh (And.intro hms (And.intro hN (And.intro hbx hn)))))
    clear hat okh hms hN hbx
    by_cases hn0 : n = 0
    · have dn : decide ((n : Int) = 0) = true := by rw [decide_eq_true_iff]; omega
      have dn' : ((n : Int) == 0) = true := by simp [hn0]
      clear hn hn0 hq40
      go_wp2
      go_ret
      exact ⟨rfl, HH.out.2.2.2.1⟩
    have dn' : ((n : Int) == 0) = false := by simp [hn0]
    have hnp : 0 < n := by omega
    have HPk := Lib.hid (fun w => pick_any lv n w (by omega) (by omega))
    obtain ⟨m, hm⟩ : ∃ m : Nat, lv % (n : Int) = m := Int.eq_ofNat_of_zero_le (Int.emod_nonneg _ (by omega))
    have hmn : m < n := by have := Int.emod_lt_of_pos lv (show (0 : Int) < n by omega); omega
    rw [hm] at HPk
    have hmi : (m : Int) < (n : Int) := by omega
    have hmq : m < q.length := by rw [HH.out.2.2.2.2.2]; exact hmn
    obtain ⟨ax, cx, ex, hx⟩ := HH.out.1
    simp only [Value.slice.injEq] at ex
    obtain ⟨rfl, -, rfl⟩ := ex
    obtain ⟨hq0, _⟩ | ⟨rb, ro, rfl, hrc⟩ := hx
    · rw [hq0] at hmq; simp at hmq
    have m0 := hrc.cell m hmq 0 _ rfl
    simp only [Nat.add_zero] at m0
    obtain ⟨id, hid⟩ : ∃ id, q[m].id = id := ⟨_, rfl⟩
    rw [hid] at m0
    have HId := Lib.hid (show ∃ h : m < q.length, q[m].id = id from ⟨hmq, hid⟩)
    clear hrc hid hmq hn hn0 hm c0 c1 c3 hq40
    have S2 : ∀ y, Nw wr y → y.cell? ⟨B, 2, none⟩ = some (.slice (some ⟨rb, ro, none⟩) n k0) := fun y hy => hy.kp c2
    have M0 : ∀ y, Nw wr y → y.cell? ⟨rb, ro + m * 5, none⟩ = some (.int .i64 id) := fun y hy => hy.kp m0
    have q1 := (Nw.refl wr).drew1
    obtain ⟨wc, hwc⟩ : ∃ wc, wr.drew = wc := ⟨_, rfl⟩
    go_wp2
    refine region_told [some true, some true, some true, some true, some true, some true, some false, none, some true, some true, some true, some true] (Nw wr) (by kernel_rfl) (by kernel_rfl) (by kernel_rfl) q1 ?_
    rw [hwc] at q1 ⊢
    clear hwc
    repeat (first
      | (refine HW.off ?_)
      | (refine HW.take' ?_; (first | (refine ⟨undef, Or.inr ⟨by rfl, rfl⟩, ?_⟩) | (apply Exists.intro; refine ⟨Or.inl ⟨by rfl, ?_⟩, ?_⟩; (intro x hx; go_simp; first | done | with_reducible rfl))); (try simp only [Act.put, List.setIfInBounds_toArray, List.set_cons_zero, List.set_cons_succ]))
      | (refine HW.go (fun K hK => ?_); go_simp; (first
        | (go_at_call 34; (with_reducible refine (HPk.out _).mono ?_); rintro e wy ⟨rfl, rfl⟩; refine hK.out _ _ q1 ?_; intro _; clear hK K)
        | (refine hK.out _ _ q1 ?_; intro _; clear hK K))))
    refine HW.end_ ?_
    refine NoPanic.normal ?_
    have HQ := Lib.hid q1
    clear q1 S2 M0 HPk c2 cl m0
    have HLv := Lib.hid (dLeave 0 (-1) W0 id (.slice (some ⟨rb, ro, none⟩) n k0) q wc (by have := HH.out.2.2.1; unfold meas at this; omega) (HH.out.1.nw HQ.out))
    rw [show lvR ⟨0, -1, W0, q⟩ id = (⟨0, -1, W0, lvQ id q⟩, 0) by
      obtain ⟨h1, h2⟩ := HId.out
      unfold lvR
      rw [show fnd q id = some q[m] by rw [← h2]; exact fnd_some HH.out.2.1 (List.getElem_mem h1)]] at HLv
    unfold HD1 hdV at HLv
    simp only at HLv
    have hb4 := HH.out.2.2.2.2.1.nw HQ.out
    have c0 := hcell (j := 0) hb4
    have c1 := hcell (j := 1) hb4
    have c2 := hcell (j := 2) hb4
    have c3 := hcell (j := 3) hb4
    have cl := hlt hb4
    clear hb4
    go_wp2_with fail
    go_at_call 11
    refine HLv.out.mono ?_
    rintro e w5 ⟨v5, rfl, g5, hR5, _, _⟩
    clear c0 c1 c2 c3 cl HLv
    obtain ⟨l, hl⟩ : ∃ l, lvQ id q = l := ⟨_, rfl⟩
    rw [hl] at hR5
    have okl : Ok W0 l := by rw [← hl]; exact ok_lv HH.out.2.1 id
    have hml : meas l ≤ 40 := by
      have h1 := HH.out.2.2.1
      have h2 := lvQ_len id q
      have h3 := ups_lv id q
      unfold meas at h1 ⊢
      rw [← hl]; omega
    have hll : l.length ≤ 40 := by unfold meas at hml; omega
    have hNw : Nw w w5 := HH.out.2.2.2.1.trans (HQ.out.trans g5)
    obtain ⟨n5, hn5⟩ : ∃ n, l.length = n := ⟨_, rfl⟩
    obtain ⟨a5, k5, hv⟩ := hR5.form
    rw [hn5] at hv
    subst hv
    have hb6 := HB.made w5 0 (-1) (.slice a5 n5 k5) W0
    obtain ⟨BO, hBO⟩ : ∃ B, w5.heap.size = B := ⟨_, rfl⟩
    rw [hBO] at hb6
    obtain ⟨u6, hu6⟩ : ∃ x, w5.alloc (.cells #[.int .i64 0, .int .i64 (-1), .slice a5 n5 k5, .int .i64 W0] 27) = x := ⟨_, rfl⟩
    have g6 : Nw w5 u6 := by rw [← hu6]; exact (Nw.refl _).alloc _
    rw [hu6] at hb6
    have HE := Lib.hid (And.intro hu6 hBO)
    have HL := Lib.hid (show Nw w u6 ∧ RqAt u6 (.slice a5 n5 k5) l ∧ Go.Proofs.Ytmciiobncfchlaa.HB u6 BO 0 (-1) (.slice a5 n5 k5) W0 from ⟨hNw.trans g6, hR5.nw g6, hb6⟩)
    have HM := Lib.hid (And.intro okl (And.intro hml (And.intro hll hn5)))
    clear hu6 hBO g6 hb6 hNw hR5 g5 HH HQ HId hl okl hml hll hn5
    go_wp2_with fail
    rw [HE.out.1, HE.out.2]
    clear HE
    have HSc := Lib.hid (dScan 0 (-1) W0 (.slice a5 n5 k5) l u6 (by have := HM.out.2.2.1; omega) HM.out.1 HL.out.2.1 (stOk_ms HM.out.1 HM.out.2.1))
    unfold hdV at HSc
    have c0 := hcell (j := 0) HL.out.2.2
    have c1 := hcell (j := 1) HL.out.2.2
    have c2 := hcell (j := 2) HL.out.2.2
    have c3 := hcell (j := 3) HL.out.2.2
    have cl := hlt HL.out.2.2
    go_wp2_with fail
    go_at_call 12
    refine HSc.out.mono ?_
    rintro e w7 ⟨v7, vi, rfl, g7, hR7, _, hI7, _, _⟩
    clear c0 c1 c2 c3 cl HSc
    obtain ⟨ids, hids⟩ : ∃ x, (scanQ l).1 = x := ⟨_, rfl⟩
    obtain ⟨s, hs⟩ : ∃ x, (scanQ l).2 = x := ⟨_, rfl⟩
    have hsl : s.length = n5 := by rw [← hs, scan_len HM.out.1, HM.out.2.2.2]
    rw [hs] at hR7
    rw [hids] at hI7
    obtain ⟨a7, k7, hv⟩ := hR7.form
    rw [hsl] at hv
    subst hv
    obtain ⟨ai, ci, hvi, hic⟩ := hI7.box
    obtain ⟨ni, hni⟩ : ∃ n, ids.length = n := ⟨_, rfl⟩
    rw [hni] at hvi
    subst hvi
    have hb8 := HB.made w7 0 (-1) (.slice a7 n5 k7) W0
    obtain ⟨BN, hBN⟩ : ∃ B, w7.heap.size = B := ⟨_, rfl⟩
    rw [hBN] at hb8
    obtain ⟨u8, hu8⟩ : ∃ x, w7.alloc (.cells #[.int .i64 0, .int .i64 (-1), .slice a7 n5 k7, .int .i64 W0] 27) = x := ⟨_, rfl⟩
    have g8 : Nw w7 u8 := by rw [← hu8]; exact (Nw.refl _).alloc _
    rw [hu8] at hb8
    have HE := Lib.hid (And.intro hu8 hBN)
    have HG := Lib.hid (g7.trans g8)
    have HS := Lib.hid (show RqAt u8 (.slice a7 n5 k7) s ∧ Go.Proofs.Ytmciiobncfchlaa.HB u8 BN 0 (-1) (.slice a7 n5 k7) W0 from ⟨hR7.nw g8, hb8⟩)
    have HI := Lib.hid (And.intro hI7 g8)
    have HP := Lib.hid (And.intro hids (And.intro hs (And.intro hsl hni)))
    have HGt := Lib.hid HG.out
    clear hids hs hsl hni hb8 hu8 hBN g8 hR7 hI7 hic g7 HG
    go_wp2_with fail
    rw [HE.out.1, HE.out.2]
    have H8 := Lib.hid (show Nw w u8 ∧ Go.Proofs.Ytmciiobncfchlaa.HB u8 BO 0 (-1) (.slice a5 n5 k5) W0 ∧ RqAt u8 (.slice a5 n5 k5) l ∧ Go.Proofs.Ytmciiobncfchlaa.HB u8 BN 0 (-1) (.slice a7 n5 k7) W0 ∧ RqAt u8 (.slice a7 n5 k7) s from ⟨HL.out.1.trans HGt.out, HL.out.2.2.nw HGt.out, HL.out.2.1.nw HGt.out, HS.out.2, HS.out.1⟩)
    have HFn := Lib.hid (fun (y : World) (hy : Nw u8 y) (id : Int) => dFindQ 0 (-1) W0 id (.slice a7 n5 k7) s y (by have := HM.out.2.2.1; have := HM.out.2.2.2; have := HP.out.2.2.1; omega) (H8.out.2.2.2.2.nw hy))
    have HFo := Lib.hid (fun (y : World) (hy : Nw u8 y) (id : Int) => dFindQ 0 (-1) W0 id (.slice a5 n5 k5) l y (by have := HM.out.2.2.1; omega) (H8.out.2.2.1.nw hy))
    unfold hdV at HFn HFo
    have HIs := Lib.hid (show IS u8 (.slice ai ni ci) ids from HI.out.1.nw HI.out.2)
    have hi2 : n5 ≤ 40 := by rw [← HM.out.2.2.2]; exact HM.out.2.2.1
    clear HE HL HS HGt HI
    go_wp2
    go_loopw [12, 13] (fun u i wr => ∃ (j : Nat) (x : Int), i = .int .i64 j ∧ u = .int .i64 x ∧ j ≤ n5 ∧ (x = -1 ∨ 0 ≤ x ∧ ∃ r ∈ l, r.md ≠ 0 ∧ 0 < r.sn ∧ r.id ∉ ids) ∧ Nw u8 wr) (fun _ i _ => n5 - (intOf i).toNat)
    case atStart => exact ⟨0, -1, rfl, rfl, Nat.zero_le _, .inl rfl, Nw.refl _⟩
    case round =>
      obtain ⟨j, up, rfl, rfl, hj, hx, hG⟩ := hrel
      have HUp := Lib.hid hx
      clear hx
      have hb := H8.out.2.1.nw hG
      have c2 := hcell (j := 2) hb
      have cl := hlt hb
      clear hb
      by_cases hjn : j < n5
      rotate_left
      · as_aux_lemma =>
          have dj : decide ((j : Int) < (n5 : Int)) = false := by rw [decide_eq_false_iff_not]; omega
          have dj' : decide (j < n5) = false := by rw [decide_eq_false_iff_not]; omega
          have HG := Lib.hid hG
          clear hG hj hjn
          go_wp2
          clear c2 cl
          go_loopw [22] (fun i wr => ∃ m : Nat, i = .int .i64 m ∧ m ≤ ni ∧ Nw u8 wr) (fun i _ => ni - (intOf i).toNat)
          case atStart => exact ⟨0, rfl, Nat.zero_le _, HG.out⟩
          case round =>
            obtain ⟨m, rfl, hm, hG⟩ := hrel
            by_cases hmn : m < ni
            rotate_left
            · have dm : decide ((m : Int) < (ni : Int)) = false := by rw [decide_eq_false_iff_not]; omega
              have dm' : decide (m < ni) = false := by rw [decide_eq_false_iff_not]; omega
              have hbn := H8.out.2.2.2.1.nw hG
              have hbo := H8.out.2.1.nw hG
              have c2 := hcell (j := 2) hbn
              have d2 := hcell (j := 2) hbo
              have cl := hlt hbn
              have dl := hlt hbo
              have HN := Lib.hid (H8.out.1.trans hG)
              clear hbn hbo hG
              go_wp2
              go_ret
              exact ⟨by simp, HN.out⟩
            have dm : decide ((m : Int) < (ni : Int)) = true := by rw [decide_eq_true_iff]; omega
            have hmi : (m : Int) < (ni : Int) := by omega
            have hml : m < ids.length := by rw [HP.out.2.2.2]; exact hmn
            obtain ⟨R, hR, hs, hu⟩ := turn_id HM.out.1 m (by rw [HP.out.1]; exact hml)
            simp only [HP.out.1] at hR hu
            have HI := Lib.hid (HIs.out.nw hG)
            rcases HIs.out.form with ⟨_, e⟩ | ⟨ib, icap, e⟩
            · rw [e] at hml; simp at hml
            rw [HP.out.2.2.2] at e
            simp only [Value.slice.injEq] at e
            obtain ⟨rfl, -, rfl⟩ := e
            have m0 := HI.out.cell m hml
            rw [show ids.getD m 0 = ids[m] by simp [List.getD, hml]] at m0
            have ml := HI.out.glt
            obtain ⟨id2, hid⟩ : ∃ x, ids[m] = x := ⟨_, rfl⟩
            rw [hid] at m0 hR
            have hFx : fndV l id2 = .tuple #[rqV R, .bool true] := by unfold fndV; rw [hR]
            obtain ⟨r0, r1, r2, r3, r4⟩ := R
            have HFx := Lib.hid (fun (y : World) (hy : Nw u8 y) => HFo.out y hy id2)
            rw [show fndV l id2 = _ from hFx] at HFx
            unfold rqV at HFx
            have hbo := H8.out.2.1.nw hG
            have c0 := hcell (j := 0) hbo
            have c1 := hcell (j := 1) hbo
            have c2 := hcell (j := 2) hbo
            have c3 := hcell (j := 3) hbo
            have cl := hlt hbo
            have hup : up = -1 ∨ 0 ≤ up ∧ r2 ≠ 0 := by
              rcases HUp.out with h | ⟨h, u, h1, h2, h3, h4⟩
              · exact .inl h
              · exact .inr ⟨h, hu u h1 h2 h3 h4⟩
            have HU := Lib.hid (And.intro hup hs)
            have HG2 := Lib.hid hG
            have HMn := Lib.hid hmn
            have hni : ni ≤ 9223372036854775807 := by have h := HIs.out.len; rw [HP.out.2.2.2] at h; unfold maxLen at h; omega
            have HNi := Lib.hid hni
            clear hni
            clear hup hs hu hR hFx hid hml hbo hG HI hm hmn
            go_wp2
            go_region_law (go_simp; go_at_call 15; refine (HFx.out _ ?_).mono ?_; (first | exact HG2.out.dr | exact (HG2.out.alloc _).dr | exact HG2.out.alloc _ | exact HG2.out); rintro e w9 ⟨rfl, g9⟩; (try (have q9 := g9.at' (show (wr.alloc (.cells #[.int .i64 0, .int .i64 0, .int .i64 0, .int .i64 0, .int .i64 0] 41)).drew.heap[wr.heap.size]? = some (.cells #[.int .i64 0, .int .i64 0, .int .i64 0, .int .i64 0, .int .i64 0] 41) from allocAt wr _); have q0 := hcell (j := 0) q9; have q1 := hcell (j := 1) q9; have q2 := hcell (j := 2) q9; have q3 := hcell (j := 3) q9; have q4 := hcell (j := 4) q9; have qz := fun k => hfz (j := k) q9; have ql := hlt q9)))
            all_goals (obtain ⟨hup, hs⟩ := HU.out; have k0 : (r4 == 0) = false := by (have hs' : 0 < r4 := hs; simp only [beq_eq_false_iff_ne]; omega))
            all_goals (have HG9 := Lib.hid g9; clear g9 hs c0 c1 c2 c3 cl m0 ml)
            all_goals (have HN9 : Hid (Nw u8 w9) := Lib.hid (by first | exact HG2.out.trans HG9.out | exact HG2.out.dr.trans HG9.out | exact (HG2.out.alloc _).trans HG9.out | exact (HG2.out.alloc _).dr.trans HG9.out); clear HG9)
            all_goals (rcases hup with rfl | ⟨hu0, hu1⟩)
            all_goals (try have k1 : decide (0 ≤ up) = true := by simp [hu0])
            all_goals (try have k2 : (r2 == 0) = false := by simp [hu1])
            all_goals (try clear hu0 hu1)
            all_goals (
              have hni := HNi.out
              have hmn := HMn.out
              go_wp2
              have hz := HG2.out.sz
              go_roundw
              case' rel => refine ⟨m + 1, by go_num, hmn, ?_⟩
              case' measure => (simp [intOf]; omega))
            all_goals first | with_reducible exact HN9.out.alloc _ | with_reducible exact (((((HN9.out.st hz _).st hz _).st hz _).st hz _).st hz _)
      have dj : decide ((j : Int) < (n5 : Int)) = true := by rw [decide_eq_true_iff]; omega
      have hji : (j : Int) < (n5 : Int) := by omega
      have hjl : j < l.length := by rw [HM.out.2.2.2]; exact hjn
      obtain ⟨ax, cx, ex, hx⟩ := H8.out.2.2.1
      simp only [Value.slice.injEq] at ex
      obtain ⟨rfl, -, rfl⟩ := ex
      obtain ⟨hq0, _⟩ | ⟨rb, ro, rfl, hrc⟩ := hx
      · rw [hq0] at hjl; simp at hjl
      obtain ⟨X, hX, hX1, hX2, hX3, hX4, hX5⟩ := turn_x HM.out.1 j hjl
      have hr4 := (HM.out.1.rt _ (List.getElem_mem hjl)).s0
      have HY := Lib.hid (show ∀ (k : Nat) (hkl : k < l.length), k < j → ∃ y : Rq, fnd (scanQ l).2 l[k].id = some y ∧ (l[k].md ≠ 0 ∨ l[k].md = 0 ∧ l[j].md = 0 ∧ l[k].sn < l[j].sn ∧ (y.sn = 0 ∨ 0 < y.sn ∧ X.sn ≠ 0)) from fun k _ hk => turn_y HM.out.1 k j hk hjl hX)
      rw [HP.out.2.1] at hX HY
      rw [HP.out.1] at hX3 hX4
      have hce := (hrc.nw hG).cell j hjl
      have HUn := Lib.hid (show l[j].md ≠ 0 → 0 < l[j].sn → 0 < X.sn → ∃ r ∈ l, r.md ≠ 0 ∧ 0 < r.sn ∧ r.id ∉ ids from fun h1 h2 h3 => ⟨_, List.getElem_mem hjl, h1, h2, hX3 h3⟩)
      obtain ⟨R, hR⟩ : ∃ R, l[j] = R := ⟨_, rfl⟩
      simp only [hR] at hX hX1 hX2 hX4 HY HUn hce hr4
      have hFx : fndV s R.id = .tuple #[rqV X, .bool true] := by unfold fndV; rw [hX]
      have m0 := hce 0 _ rfl
      have m1 := hce 1 _ rfl
      have m2 := hce 2 _ rfl
      have m3 := hce 3 _ rfl
      have m4 := hce 4 _ rfl
      simp only [Nat.add_zero] at m0
      have hrl := (hrc.nw hG).lt
      obtain ⟨r0, r1, r2, r3, r4⟩ := R
      obtain ⟨x0, x1, x2, x3, x4⟩ := X
      simp only at hX1
      subst hX1
      have HFx := Lib.hid (fun (y : World) (hy : Nw u8 y) => HFn.out y hy r0)
      rw [show fndV s r0 = _ from hFx] at HFx
      unfold rqV at HFx
      have hb9 := allocAt wr (.cells #[.int .i64 r0, .int .i64 x1, .int .i64 r2, .int .i64 r3, .int .i64 r4] 41)
      obtain ⟨u9, hu9⟩ : ∃ x, wr.alloc (.cells #[.int .i64 r0, .int .i64 x1, .int .i64 r2, .int .i64 r3, .int .i64 r4] 41) = x := ⟨_, rfl⟩
      have g9 : Nw wr u9 := by rw [← hu9]; exact (Nw.refl _).alloc _
      rw [hu9] at hb9
      obtain ⟨B9, hB9⟩ : ∃ B, wr.heap.size = B := ⟨_, rfl⟩
      rw [hB9] at hb9
      have HE := Lib.hid (And.intro hu9 hB9)
      have hbn := H8.out.2.2.2.1.nw hG
      have d0 := hcell (j := 0) hbn
      have d1 := hcell (j := 1) hbn
      have d2 := hcell (j := 2) hbn
      have d3 := hcell (j := 3) hbn
      have dl := hlt hbn
      clear hbn
      have HN9 := Lib.hid (hG.trans g9)
      have Hb9 := Lib.hid hb9
      have HRc := Lib.hid hrc
      have HXx := Lib.hid (And.intro hX2 hX5)
      have Hr4 := Lib.hid hr4
      clear hX hX2 hX3 hX4 hX5 hFx hce hu9 hB9 hb9 g9 hrc hR hG hjl hr4
      go_wp2_with fail
      rw [HE.out.1, HE.out.2]
      clear HE c2 cl m0 m1 m2 m3 m4 hrl d0 d1 d2 d3 dl
      go_at_call 15
      refine (HFx.out _ HN9.out).mono ?_
      rintro e w10 ⟨rfl, g10⟩
      clear HFx
      have hb11 := allocAt w10 (.cells #[.int .i64 x0, .int .i64 x1, .int .i64 x2, .int .i64 x3, .int .i64 x4] 41)
      obtain ⟨u11, hu11⟩ : ∃ x, w10.alloc (.cells #[.int .i64 x0, .int .i64 x1, .int .i64 x2, .int .i64 x3, .int .i64 x4] 41) = x := ⟨_, rfl⟩
      have g11 : Nw w10 u11 := by rw [← hu11]; exact (Nw.refl _).alloc _
      rw [hu11] at hb11
      obtain ⟨B11, hB11⟩ : ∃ B, w10.heap.size = B := ⟨_, rfl⟩
      rw [hB11] at hb11
      have HE := Lib.hid (And.intro hu11 hB11)
      have HN11 := Lib.hid (HN9.out.trans (g10.trans g11))
      have Hb9' := Lib.hid (show u11.heap[B9]? = some (.cells #[.int .i64 r0, .int .i64 x1, .int .i64 r2, .int .i64 r3, .int .i64 r4] 41) from (g10.trans g11).at' Hb9.out)
      have Hb11 := Lib.hid hb11
      have hb10 := g10.at' Hb9.out
      have b0 := hcell (j := 0) hb10
      have b1 := hcell (j := 1) hb10
      have b2 := hcell (j := 2) hb10
      have b3 := hcell (j := 3) hb10
      have b4 := hcell (j := 4) hb10
      have bl := hlt hb10
      clear hu11 hB11 hb11 g10 g11 Hb9 HN9 hb10
      obtain ⟨hw1, hw2⟩ := HXx.out
      have hw3 := Hr4.out
      simp only [Rq.mk.injEq] at hw1 hw2 hw3
      rcases (show (r2 = 0) ∨ (r2 ≠ 0 ∧ r4 = 0) ∨ (r2 ≠ 0 ∧ 0 < r4 ∧ x4 = 0) ∨ (r2 ≠ 0 ∧ 0 < r4 ∧ 0 < x4) by omega) with y | ⟨y1, y4⟩ | ⟨y1, y2, rfl⟩ | ⟨y1, y2, y3⟩
      · as_aux_lemma =>
          have t1 : (r2 != 0) = false := by simp [y]
          clear hw1 hw2 hw3 y
          go_wp2
          rw [HE.out.1, HE.out.2]
          clear HE b0 b1 b2 b3 b4 bl
          go_loopw [17] (fun i wr => ∃ m : Nat, i = .int .i64 m ∧ m ≤ j ∧ Nw u11 wr) (fun i _ => j - (intOf i).toNat)
          case atStart => exact ⟨0, rfl, Nat.zero_le _, Nw.refl _⟩
          case round =>
            obtain ⟨m, rfl, hm, hG⟩ := hrel
            by_cases hmj : m < j
            rotate_left
            · have dm : decide ((m : Int) < (j : Int)) = false := by rw [decide_eq_false_iff_not]; omega
              have HG := Lib.hid hG
              clear hG
              go_wp2
              go_roundw
              case rel => exact ⟨j + 1, _, by go_num, rfl, by omega, HUp.out, HN11.out.trans HG.out⟩
              case measure => simp [intOf]; omega
            have dm : decide ((m : Int) < (j : Int)) = true := by rw [decide_eq_true_iff]; omega
            have hmi : (m : Int) < (n5 : Int) := by omega
            have hml : m < l.length := by rw [HM.out.2.2.2]; omega
            obtain ⟨y, hY, hyc⟩ := HY.out m hml hmj
            have hce := (HRc.out.nw (HN11.out.trans hG)).cell m hml
            have hrl := (HRc.out.nw (HN11.out.trans hG)).lt
            obtain ⟨S, hS⟩ : ∃ S, l[m] = S := ⟨_, rfl⟩
            rw [hS] at hY hyc hce
            have hFx : fndV s S.id = .tuple #[rqV y, .bool true] := by unfold fndV; rw [hY]
            have m0 := hce 0 _ rfl
            have m1 := hce 1 _ rfl
            have m2 := hce 2 _ rfl
            have m3 := hce 3 _ rfl
            have m4 := hce 4 _ rfl
            simp only [Nat.add_zero] at m0
            obtain ⟨s0, s1, s2, s3, s4⟩ := S
            obtain ⟨y0, y1, y2, y3, y4⟩ := y
            simp only at hyc
            have hbo := H8.out.2.1.nw (HN11.out.trans hG)
            have c2 := hcell (j := 2) hbo
            have cl := hlt hbo
            have hb9 := Hb9'.out
            have hb9 := hG.at' hb9
            have b0 := hcell (j := 0) hb9
            have b1 := hcell (j := 1) hb9
            have b2 := hcell (j := 2) hb9
            have b3 := hcell (j := 3) hb9
            have b4 := hcell (j := 4) hb9
            have bl := hlt hb9
            have HFx := Lib.hid (fun (y : World) (hy : Nw u8 y) => HFn.out y hy s0)
            rw [show fndV s s0 = _ from hFx] at HFx
            unfold rqV at HFx
            have HG := Lib.hid hG
            have HYc := Lib.hid hyc
            clear hY hce hFx hS hml hbo hb9 hyc
            have HT := Lib.hid (two_boxes wr (.cells #[.int .i64 s0, .int .i64 s1, .int .i64 s2, .int .i64 s3, .int .i64 s4] 41) (.cells #[.int .i64 r0, .int .i64 x1, .int .i64 r2, .int .i64 r3, .int .i64 r4] 41))
            have HT' := Lib.hid (two_boxes wr (.cells #[.int .i64 r0, .int .i64 x1, .int .i64 r2, .int .i64 r3, .int .i64 r4] 41) (.cells #[.int .i64 s0, .int .i64 s1, .int .i64 s2, .int .i64 s3, .int .i64 s4] 41))
            have HB11 := Lib.hid (hG.at' Hb11.out)
            have HBN := Lib.hid (H8.out.2.2.2.1.nw (HN11.out.trans hG))
            have HN8 := Lib.hid (HN11.out.trans hG)
            clear hG
            go_wp2
            go_region
            · obtain ⟨u12, hu⟩ : ∃ u, ((wr.alloc (.cells #[.int .i64 s0, .int .i64 s1, .int .i64 s2, .int .i64 s3, .int .i64 s4] 41)).alloc (.cells #[.int .i64 r0, .int .i64 x1, .int .i64 r2, .int .i64 r3, .int .i64 r4] 41)).drew = u := ⟨_, rfl⟩
              have HD := Lib.hid (show u12.heap[wr.heap.size]? = some (.cells #[.int .i64 s0, .int .i64 s1, .int .i64 s2, .int .i64 s3, .int .i64 s4] 41) ∧ u12.heap[wr.heap.size + 1]? = some (.cells #[.int .i64 r0, .int .i64 x1, .int .i64 r2, .int .i64 r3, .int .i64 r4] 41) ∧ Nw wr u12 from by rw [← hu]; exact ⟨HT.out.1, HT.out.2.1, HT.out.2.2.1.dr⟩)
              rw [hu]
              clear hu
              obtain ⟨PB, hPB⟩ : ∃ x, wr.heap.size + 1 = x := ⟨_, rfl⟩
              rw [hPB] at HD ⊢
              obtain ⟨PA, hPA⟩ : ∃ x, wr.heap.size = x := ⟨_, rfl⟩
              rw [hPA] at HD ⊢
              clear HT HT' hPA hPB c2 cl b0 b1 b2 b3 b4 bl m0 m1 m2 m3 m4 hrl
              have hbn := HBN.out.nw HD.out.2.2
              have d0 := hcell (j := 0) hbn
              have d1 := hcell (j := 1) hbn
              have d2 := hcell (j := 2) hbn
              have d3 := hcell (j := 3) hbn
              have dl := hlt hbn
              have e0 := hcell (j := 0) HD.out.1
              have el := hlt HD.out.1
              clear hbn
              go_wp2_with fail
              go_at_call 15
              refine (HFx.out _ (HN8.out.trans HD.out.2.2)).mono ?_
              rintro e w13 ⟨rfl, g13⟩
              clear d0 d1 d2 d3 dl e0 el HFx
              have hba := g13.at' HD.out.1
              have hbb := g13.at' HD.out.2.1
              have hbx := (HD.out.2.2.trans g13).at' HB11.out
              have a2 := hcell (j := 2) hba
              have a4 := hcell (j := 4) hba
              have al := hlt hba
              have o2 := hcell (j := 2) hbb
              have o4 := hcell (j := 4) hbb
              have ol := hlt hbb
              have z4 := hcell (j := 4) hbx
              have zl := hlt hbx
              have HZ := Lib.hid (HG.out.trans (HD.out.2.2.trans g13))
              have hyc := HYc.out
              clear hba hbb hbx HD g13 HB11 HBN HN8 HG HYc
              rcases hyc with y | ⟨y, y', y'', hy⟩
              · have k1 : (s2 == 0) = false := by simp [y]
                clear y
                go_wp2
                go_roundw
                case rel => exact ⟨m + 1, by go_num, by omega, HZ.out.alloc _⟩
                case measure => simp [intOf]; omega
              · skip
                subst y y'
                have k2 : decide (s4 < r4) = true := by simp [y'']
                clear y''
                rcases hy with rfl | ⟨y, y'⟩
                · go_wp2
                  go_roundw
                  case rel => exact ⟨m + 1, by go_num, by omega, HZ.out.alloc _⟩
                  case measure => simp [intOf]; omega
                · have k3 : decide (0 < y4) = true := by simp [y]
                  have k4 : (x4 == 0) = false := by simp [y']
                  clear y y'
                  go_wp2
                  go_roundw
                  case rel => exact ⟨m + 1, by go_num, by omega, HZ.out.alloc _⟩
                  case measure => simp [intOf]; omega
            · obtain ⟨u12, hu⟩ : ∃ u, ((wr.alloc (.cells #[.int .i64 r0, .int .i64 x1, .int .i64 r2, .int .i64 r3, .int .i64 r4] 41)).alloc (.cells #[.int .i64 s0, .int .i64 s1, .int .i64 s2, .int .i64 s3, .int .i64 s4] 41)).drew = u := ⟨_, rfl⟩
              have HD := Lib.hid (show u12.heap[wr.heap.size + 1]? = some (.cells #[.int .i64 s0, .int .i64 s1, .int .i64 s2, .int .i64 s3, .int .i64 s4] 41) ∧ u12.heap[wr.heap.size]? = some (.cells #[.int .i64 r0, .int .i64 x1, .int .i64 r2, .int .i64 r3, .int .i64 r4] 41) ∧ Nw wr u12 from by rw [← hu]; exact ⟨HT'.out.2.1, HT'.out.1, HT'.out.2.2.1.dr⟩)
              rw [hu]
              clear hu
              obtain ⟨PB, hPB⟩ : ∃ x, wr.heap.size + 1 = x := ⟨_, rfl⟩
              rw [hPB] at HD ⊢
              obtain ⟨PA, hPA⟩ : ∃ x, wr.heap.size = x := ⟨_, rfl⟩
              rw [hPA] at HD ⊢
              clear HT HT' hPA hPB c2 cl b0 b1 b2 b3 b4 bl m0 m1 m2 m3 m4 hrl
              have hbn := HBN.out.nw HD.out.2.2
              have d0 := hcell (j := 0) hbn
              have d1 := hcell (j := 1) hbn
              have d2 := hcell (j := 2) hbn
              have d3 := hcell (j := 3) hbn
              have dl := hlt hbn
              have e0 := hcell (j := 0) HD.out.1
              have el := hlt HD.out.1
              clear hbn
              go_wp2_with fail
              go_at_call 15
              refine (HFx.out _ (HN8.out.trans HD.out.2.2)).mono ?_
              rintro e w13 ⟨rfl, g13⟩
              clear d0 d1 d2 d3 dl e0 el HFx
              have hba := g13.at' HD.out.1
              have hbb := g13.at' HD.out.2.1
              have hbx := (HD.out.2.2.trans g13).at' HB11.out
              have a2 := hcell (j := 2) hba
              have a4 := hcell (j := 4) hba
              have al := hlt hba
              have o2 := hcell (j := 2) hbb
              have o4 := hcell (j := 4) hbb
              have ol := hlt hbb
              have z4 := hcell (j := 4) hbx
              have zl := hlt hbx
              have HZ := Lib.hid (HG.out.trans (HD.out.2.2.trans g13))
              have hyc := HYc.out
              clear hba hbb hbx HD g13 HB11 HBN HN8 HG HYc
              rcases hyc with y | ⟨y, y', y'', hy⟩
              · have k1 : (s2 == 0) = false := by simp [y]
                clear y
                go_wp2
                go_roundw
                case rel => exact ⟨m + 1, by go_num, by omega, HZ.out.alloc _⟩
                case measure => simp [intOf]; omega
              · skip
                subst y y'
                have k2 : decide (s4 < r4) = true := by simp [y'']
                clear y''
                rcases hy with rfl | ⟨y, y'⟩
                · go_wp2
                  go_roundw
                  case rel => exact ⟨m + 1, by go_num, by omega, HZ.out.alloc _⟩
                  case measure => simp [intOf]; omega
                · have k3 : decide (0 < y4) = true := by simp [y]
                  have k4 : (x4 == 0) = false := by simp [y']
                  clear y y'
                  go_wp2
                  go_roundw
                  case rel => exact ⟨m + 1, by go_num, by omega, HZ.out.alloc _⟩
                  case measure => simp [intOf]; omega
      · as_aux_lemma =>
          have t1 : (r2 != 0) = true := by simp [y1]
          obtain ⟨e0, -, e2, e3, e4⟩ := hw1 y4
          subst x0 x2 x3 x4
          have t2 : decide (0 < r4) = false := by rw [y4]; rfl
          have t3 : (r4 == 0) = true := by rw [y4]; rfl
          clear hw1 hw2 hw3 y1 y4
          go_wp2
          rw [HE.out.1, HE.out.2]
          clear HE b0 b1 b2 b3 b4 bl
          go_loopw [17] (fun i wr => ∃ m : Nat, i = .int .i64 m ∧ m ≤ j ∧ Nw u11 wr) (fun i _ => j - (intOf i).toNat)
          case atStart => exact ⟨0, rfl, Nat.zero_le _, Nw.refl _⟩
          case round =>
            obtain ⟨m, rfl, hm, hG⟩ := hrel
            by_cases hmj : m < j
            rotate_left
            · have dm : decide ((m : Int) < (j : Int)) = false := by rw [decide_eq_false_iff_not]; omega
              have HG := Lib.hid hG
              clear hG
              go_wp2
              go_roundw
              case rel => exact ⟨j + 1, _, by go_num, rfl, by omega, HUp.out, HN11.out.trans HG.out⟩
              case measure => simp [intOf]; omega
            have dm : decide ((m : Int) < (j : Int)) = true := by rw [decide_eq_true_iff]; omega
            have hmi : (m : Int) < (n5 : Int) := by omega
            have hml : m < l.length := by rw [HM.out.2.2.2]; omega
            obtain ⟨y, hY, hyc⟩ := HY.out m hml hmj
            have hce := (HRc.out.nw (HN11.out.trans hG)).cell m hml
            have hrl := (HRc.out.nw (HN11.out.trans hG)).lt
            obtain ⟨S, hS⟩ : ∃ S, l[m] = S := ⟨_, rfl⟩
            rw [hS] at hY hyc hce
            have hFx : fndV s S.id = .tuple #[rqV y, .bool true] := by unfold fndV; rw [hY]
            have m0 := hce 0 _ rfl
            have m1 := hce 1 _ rfl
            have m2 := hce 2 _ rfl
            have m3 := hce 3 _ rfl
            have m4 := hce 4 _ rfl
            simp only [Nat.add_zero] at m0
            obtain ⟨s0, s1, s2, s3, s4⟩ := S
            obtain ⟨y0, y1, y2, y3, y4⟩ := y
            simp only at hyc
            have hbo := H8.out.2.1.nw (HN11.out.trans hG)
            have c2 := hcell (j := 2) hbo
            have cl := hlt hbo
            have hb9 := Hb9'.out
            have hb9 := hG.at' hb9
            have b0 := hcell (j := 0) hb9
            have b1 := hcell (j := 1) hb9
            have b2 := hcell (j := 2) hb9
            have b3 := hcell (j := 3) hb9
            have b4 := hcell (j := 4) hb9
            have bl := hlt hb9
            have HFx := Lib.hid (fun (y : World) (hy : Nw u8 y) => HFn.out y hy s0)
            rw [show fndV s s0 = _ from hFx] at HFx
            unfold rqV at HFx
            have HG := Lib.hid hG
            have HYc := Lib.hid hyc
            clear hY hce hFx hS hml hbo hb9 hyc
            have HT := Lib.hid (two_boxes wr (.cells #[.int .i64 s0, .int .i64 s1, .int .i64 s2, .int .i64 s3, .int .i64 s4] 41) (.cells #[.int .i64 r0, .int .i64 x1, .int .i64 r2, .int .i64 r3, .int .i64 r4] 41))
            have HT' := Lib.hid (two_boxes wr (.cells #[.int .i64 r0, .int .i64 x1, .int .i64 r2, .int .i64 r3, .int .i64 r4] 41) (.cells #[.int .i64 s0, .int .i64 s1, .int .i64 s2, .int .i64 s3, .int .i64 s4] 41))
            have HB11 := Lib.hid (hG.at' Hb11.out)
            have HBN := Lib.hid (H8.out.2.2.2.1.nw (HN11.out.trans hG))
            have HN8 := Lib.hid (HN11.out.trans hG)
            clear hG
            go_wp2
            go_region
            · obtain ⟨u12, hu⟩ : ∃ u, ((wr.alloc (.cells #[.int .i64 s0, .int .i64 s1, .int .i64 s2, .int .i64 s3, .int .i64 s4] 41)).alloc (.cells #[.int .i64 r0, .int .i64 x1, .int .i64 r2, .int .i64 r3, .int .i64 r4] 41)).drew = u := ⟨_, rfl⟩
              have HD := Lib.hid (show u12.heap[wr.heap.size]? = some (.cells #[.int .i64 s0, .int .i64 s1, .int .i64 s2, .int .i64 s3, .int .i64 s4] 41) ∧ u12.heap[wr.heap.size + 1]? = some (.cells #[.int .i64 r0, .int .i64 x1, .int .i64 r2, .int .i64 r3, .int .i64 r4] 41) ∧ Nw wr u12 from by rw [← hu]; exact ⟨HT.out.1, HT.out.2.1, HT.out.2.2.1.dr⟩)
              rw [hu]
              clear hu
              obtain ⟨PB, hPB⟩ : ∃ x, wr.heap.size + 1 = x := ⟨_, rfl⟩
              rw [hPB] at HD ⊢
              obtain ⟨PA, hPA⟩ : ∃ x, wr.heap.size = x := ⟨_, rfl⟩
              rw [hPA] at HD ⊢
              clear HT HT' hPA hPB c2 cl b0 b1 b2 b3 b4 bl m0 m1 m2 m3 m4 hrl
              have hbn := HBN.out.nw HD.out.2.2
              have d0 := hcell (j := 0) hbn
              have d1 := hcell (j := 1) hbn
              have d2 := hcell (j := 2) hbn
              have d3 := hcell (j := 3) hbn
              have dl := hlt hbn
              have e0 := hcell (j := 0) HD.out.1
              have el := hlt HD.out.1
              clear hbn
              go_wp2_with fail
              go_at_call 15
              refine (HFx.out _ (HN8.out.trans HD.out.2.2)).mono ?_
              rintro e w13 ⟨rfl, g13⟩
              clear d0 d1 d2 d3 dl e0 el HFx
              have hba := g13.at' HD.out.1
              have hbb := g13.at' HD.out.2.1
              have hbx := (HD.out.2.2.trans g13).at' HB11.out
              have a2 := hcell (j := 2) hba
              have a4 := hcell (j := 4) hba
              have al := hlt hba
              have o2 := hcell (j := 2) hbb
              have o4 := hcell (j := 4) hbb
              have ol := hlt hbb
              have z4 := hcell (j := 4) hbx
              have zl := hlt hbx
              have HZ := Lib.hid (HG.out.trans (HD.out.2.2.trans g13))
              have hyc := HYc.out
              clear hba hbb hbx HD g13 HB11 HBN HN8 HG HYc
              rcases hyc with y | ⟨y, y', y'', hy⟩
              · have k1 : (s2 == 0) = false := by simp [y]
                clear y
                go_wp2
                go_roundw
                case rel => exact ⟨m + 1, by go_num, by omega, HZ.out.alloc _⟩
                case measure => simp [intOf]; omega
              · exact absurd t1 (by rw [y']; simp)
            · obtain ⟨u12, hu⟩ : ∃ u, ((wr.alloc (.cells #[.int .i64 r0, .int .i64 x1, .int .i64 r2, .int .i64 r3, .int .i64 r4] 41)).alloc (.cells #[.int .i64 s0, .int .i64 s1, .int .i64 s2, .int .i64 s3, .int .i64 s4] 41)).drew = u := ⟨_, rfl⟩
              have HD := Lib.hid (show u12.heap[wr.heap.size + 1]? = some (.cells #[.int .i64 s0, .int .i64 s1, .int .i64 s2, .int .i64 s3, .int .i64 s4] 41) ∧ u12.heap[wr.heap.size]? = some (.cells #[.int .i64 r0, .int .i64 x1, .int .i64 r2, .int .i64 r3, .int .i64 r4] 41) ∧ Nw wr u12 from by rw [← hu]; exact ⟨HT'.out.2.1, HT'.out.1, HT'.out.2.2.1.dr⟩)
              rw [hu]
              clear hu
              obtain ⟨PB, hPB⟩ : ∃ x, wr.heap.size + 1 = x := ⟨_, rfl⟩
              rw [hPB] at HD ⊢
              obtain ⟨PA, hPA⟩ : ∃ x, wr.heap.size = x := ⟨_, rfl⟩
              rw [hPA] at HD ⊢
              clear HT HT' hPA hPB c2 cl b0 b1 b2 b3 b4 bl m0 m1 m2 m3 m4 hrl
              have hbn := HBN.out.nw HD.out.2.2
              have d0 := hcell (j := 0) hbn
              have d1 := hcell (j := 1) hbn
              have d2 := hcell (j := 2) hbn
              have d3 := hcell (j := 3) hbn
              have dl := hlt hbn
              have e0 := hcell (j := 0) HD.out.1
              have el := hlt HD.out.1
              clear hbn
              go_wp2_with fail
              go_at_call 15
              refine (HFx.out _ (HN8.out.trans HD.out.2.2)).mono ?_
              rintro e w13 ⟨rfl, g13⟩
              clear d0 d1 d2 d3 dl e0 el HFx
              have hba := g13.at' HD.out.1
              have hbb := g13.at' HD.out.2.1
              have hbx := (HD.out.2.2.trans g13).at' HB11.out
              have a2 := hcell (j := 2) hba
              have a4 := hcell (j := 4) hba
              have al := hlt hba
              have o2 := hcell (j := 2) hbb
              have o4 := hcell (j := 4) hbb
              have ol := hlt hbb
              have z4 := hcell (j := 4) hbx
              have zl := hlt hbx
              have HZ := Lib.hid (HG.out.trans (HD.out.2.2.trans g13))
              have hyc := HYc.out
              clear hba hbb hbx HD g13 HB11 HBN HN8 HG HYc
              rcases hyc with y | ⟨y, y', y'', hy⟩
              · have k1 : (s2 == 0) = false := by simp [y]
                clear y
                go_wp2
                go_roundw
                case rel => exact ⟨m + 1, by go_num, by omega, HZ.out.alloc _⟩
                case measure => simp [intOf]; omega
              · exact absurd t1 (by rw [y']; simp)
      · as_aux_lemma =>
          have t1 : (r2 != 0) = true := by simp [y1]
          have t2 : decide (0 < r4) = true := by simp [y2]
          have t3 : (r4 == 0) = false := by simp; omega
          clear hw1 hw2 hw3 y1 y2
          go_wp2
          rw [HE.out.1, HE.out.2]
          clear HE b0 b1 b2 b3 b4 bl
          go_loopw [17] (fun i wr => ∃ m : Nat, i = .int .i64 m ∧ m ≤ j ∧ Nw u11 wr) (fun i _ => j - (intOf i).toNat)
          case atStart => exact ⟨0, rfl, Nat.zero_le _, Nw.refl _⟩
          case round =>
            obtain ⟨m, rfl, hm, hG⟩ := hrel
            by_cases hmj : m < j
            rotate_left
            · have dm : decide ((m : Int) < (j : Int)) = false := by rw [decide_eq_false_iff_not]; omega
              have HG := Lib.hid hG
              clear hG
              go_wp2
              go_roundw
              case rel => exact ⟨j + 1, _, by go_num, rfl, by omega, HUp.out, HN11.out.trans HG.out⟩
              case measure => simp [intOf]; omega
            have dm : decide ((m : Int) < (j : Int)) = true := by rw [decide_eq_true_iff]; omega
            have hmi : (m : Int) < (n5 : Int) := by omega
            have hml : m < l.length := by rw [HM.out.2.2.2]; omega
            obtain ⟨y, hY, hyc⟩ := HY.out m hml hmj
            have hce := (HRc.out.nw (HN11.out.trans hG)).cell m hml
            have hrl := (HRc.out.nw (HN11.out.trans hG)).lt
            obtain ⟨S, hS⟩ : ∃ S, l[m] = S := ⟨_, rfl⟩
            rw [hS] at hY hyc hce
            have hFx : fndV s S.id = .tuple #[rqV y, .bool true] := by unfold fndV; rw [hY]
            have m0 := hce 0 _ rfl
            have m1 := hce 1 _ rfl
            have m2 := hce 2 _ rfl
            have m3 := hce 3 _ rfl
            have m4 := hce 4 _ rfl
            simp only [Nat.add_zero] at m0
            obtain ⟨s0, s1, s2, s3, s4⟩ := S
            obtain ⟨y0, y1, y2, y3, y4⟩ := y
            simp only at hyc
            have hbo := H8.out.2.1.nw (HN11.out.trans hG)
            have c2 := hcell (j := 2) hbo
            have cl := hlt hbo
            have hb9 := Hb9'.out
            have hb9 := hG.at' hb9
            have b0 := hcell (j := 0) hb9
            have b1 := hcell (j := 1) hb9
            have b2 := hcell (j := 2) hb9
            have b3 := hcell (j := 3) hb9
            have b4 := hcell (j := 4) hb9
            have bl := hlt hb9
            have HFx := Lib.hid (fun (y : World) (hy : Nw u8 y) => HFn.out y hy s0)
            rw [show fndV s s0 = _ from hFx] at HFx
            unfold rqV at HFx
            have HG := Lib.hid hG
            have HYc := Lib.hid hyc
            clear hY hce hFx hS hml hbo hb9 hyc
            have HT := Lib.hid (two_boxes wr (.cells #[.int .i64 s0, .int .i64 s1, .int .i64 s2, .int .i64 s3, .int .i64 s4] 41) (.cells #[.int .i64 r0, .int .i64 x1, .int .i64 r2, .int .i64 r3, .int .i64 r4] 41))
            have HT' := Lib.hid (two_boxes wr (.cells #[.int .i64 r0, .int .i64 x1, .int .i64 r2, .int .i64 r3, .int .i64 r4] 41) (.cells #[.int .i64 s0, .int .i64 s1, .int .i64 s2, .int .i64 s3, .int .i64 s4] 41))
            have HB11 := Lib.hid (hG.at' Hb11.out)
            have HBN := Lib.hid (H8.out.2.2.2.1.nw (HN11.out.trans hG))
            have HN8 := Lib.hid (HN11.out.trans hG)
            clear hG
            go_wp2
            go_region
            · obtain ⟨u12, hu⟩ : ∃ u, ((wr.alloc (.cells #[.int .i64 s0, .int .i64 s1, .int .i64 s2, .int .i64 s3, .int .i64 s4] 41)).alloc (.cells #[.int .i64 r0, .int .i64 x1, .int .i64 r2, .int .i64 r3, .int .i64 r4] 41)).drew = u := ⟨_, rfl⟩
              have HD := Lib.hid (show u12.heap[wr.heap.size]? = some (.cells #[.int .i64 s0, .int .i64 s1, .int .i64 s2, .int .i64 s3, .int .i64 s4] 41) ∧ u12.heap[wr.heap.size + 1]? = some (.cells #[.int .i64 r0, .int .i64 x1, .int .i64 r2, .int .i64 r3, .int .i64 r4] 41) ∧ Nw wr u12 from by rw [← hu]; exact ⟨HT.out.1, HT.out.2.1, HT.out.2.2.1.dr⟩)
              rw [hu]
              clear hu
              obtain ⟨PB, hPB⟩ : ∃ x, wr.heap.size + 1 = x := ⟨_, rfl⟩
              rw [hPB] at HD ⊢
              obtain ⟨PA, hPA⟩ : ∃ x, wr.heap.size = x := ⟨_, rfl⟩
              rw [hPA] at HD ⊢
              clear HT HT' hPA hPB c2 cl b0 b1 b2 b3 b4 bl m0 m1 m2 m3 m4 hrl
              have hbn := HBN.out.nw HD.out.2.2
              have d0 := hcell (j := 0) hbn
              have d1 := hcell (j := 1) hbn
              have d2 := hcell (j := 2) hbn
              have d3 := hcell (j := 3) hbn
              have dl := hlt hbn
              have e0 := hcell (j := 0) HD.out.1
              have el := hlt HD.out.1
              clear hbn
              go_wp2_with fail
              go_at_call 15
              refine (HFx.out _ (HN8.out.trans HD.out.2.2)).mono ?_
              rintro e w13 ⟨rfl, g13⟩
              clear d0 d1 d2 d3 dl e0 el HFx
              have hba := g13.at' HD.out.1
              have hbb := g13.at' HD.out.2.1
              have hbx := (HD.out.2.2.trans g13).at' HB11.out
              have a2 := hcell (j := 2) hba
              have a4 := hcell (j := 4) hba
              have al := hlt hba
              have o2 := hcell (j := 2) hbb
              have o4 := hcell (j := 4) hbb
              have ol := hlt hbb
              have z4 := hcell (j := 4) hbx
              have zl := hlt hbx
              have HZ := Lib.hid (HG.out.trans (HD.out.2.2.trans g13))
              have hyc := HYc.out
              clear hba hbb hbx HD g13 HB11 HBN HN8 HG HYc
              rcases hyc with y | ⟨y, y', y'', hy⟩
              · have k1 : (s2 == 0) = false := by simp [y]
                clear y
                go_wp2
                go_roundw
                case rel => exact ⟨m + 1, by go_num, by omega, HZ.out.alloc _⟩
                case measure => simp [intOf]; omega
              · exact absurd t1 (by rw [y']; simp)
            · obtain ⟨u12, hu⟩ : ∃ u, ((wr.alloc (.cells #[.int .i64 r0, .int .i64 x1, .int .i64 r2, .int .i64 r3, .int .i64 r4] 41)).alloc (.cells #[.int .i64 s0, .int .i64 s1, .int .i64 s2, .int .i64 s3, .int .i64 s4] 41)).drew = u := ⟨_, rfl⟩
              have HD := Lib.hid (show u12.heap[wr.heap.size + 1]? = some (.cells #[.int .i64 s0, .int .i64 s1, .int .i64 s2, .int .i64 s3, .int .i64 s4] 41) ∧ u12.heap[wr.heap.size]? = some (.cells #[.int .i64 r0, .int .i64 x1, .int .i64 r2, .int .i64 r3, .int .i64 r4] 41) ∧ Nw wr u12 from by rw [← hu]; exact ⟨HT'.out.2.1, HT'.out.1, HT'.out.2.2.1.dr⟩)
              rw [hu]
              clear hu
              obtain ⟨PB, hPB⟩ : ∃ x, wr.heap.size + 1 = x := ⟨_, rfl⟩
              rw [hPB] at HD ⊢
              obtain ⟨PA, hPA⟩ : ∃ x, wr.heap.size = x := ⟨_, rfl⟩
              rw [hPA] at HD ⊢
              clear HT HT' hPA hPB c2 cl b0 b1 b2 b3 b4 bl m0 m1 m2 m3 m4 hrl
              have hbn := HBN.out.nw HD.out.2.2
              have d0 := hcell (j := 0) hbn
              have d1 := hcell (j := 1) hbn
              have d2 := hcell (j := 2) hbn
              have d3 := hcell (j := 3) hbn
              have dl := hlt hbn
              have e0 := hcell (j := 0) HD.out.1
              have el := hlt HD.out.1
              clear hbn
              go_wp2_with fail
              go_at_call 15
              refine (HFx.out _ (HN8.out.trans HD.out.2.2)).mono ?_
              rintro e w13 ⟨rfl, g13⟩
              clear d0 d1 d2 d3 dl e0 el HFx
              have hba := g13.at' HD.out.1
              have hbb := g13.at' HD.out.2.1
              have hbx := (HD.out.2.2.trans g13).at' HB11.out
              have a2 := hcell (j := 2) hba
              have a4 := hcell (j := 4) hba
              have al := hlt hba
              have o2 := hcell (j := 2) hbb
              have o4 := hcell (j := 4) hbb
              have ol := hlt hbb
              have z4 := hcell (j := 4) hbx
              have zl := hlt hbx
              have HZ := Lib.hid (HG.out.trans (HD.out.2.2.trans g13))
              have hyc := HYc.out
              clear hba hbb hbx HD g13 HB11 HBN HN8 HG HYc
              rcases hyc with y | ⟨y, y', y'', hy⟩
              · have k1 : (s2 == 0) = false := by simp [y]
                clear y
                go_wp2
                go_roundw
                case rel => exact ⟨m + 1, by go_num, by omega, HZ.out.alloc _⟩
                case measure => simp [intOf]; omega
              · exact absurd t1 (by rw [y']; simp)
      · as_aux_lemma =>
          have t1 : (r2 != 0) = true := by simp [y1]
          have t2 : decide (0 < r4) = true := by simp [y2]
          have t3 : (r4 == 0) = false := by simp; omega
          have t4 : decide (0 < x4) = true := by simp [y3]
          have hd := And.intro y1 (And.intro y2 y3)
          clear hw1 hw2 hw3 y1 y2 y3
          go_wp2
          rw [HE.out.1, HE.out.2]
          clear HE b0 b1 b2 b3 b4 bl
          go_loopw [17] (fun i wr => ∃ m : Nat, i = .int .i64 m ∧ m ≤ j ∧ Nw u11 wr) (fun i _ => j - (intOf i).toNat)
          case atStart => exact ⟨0, rfl, Nat.zero_le _, Nw.refl _⟩
          case round =>
            obtain ⟨m, rfl, hm, hG⟩ := hrel
            by_cases hmj : m < j
            rotate_left
            · have dm : decide ((m : Int) < (j : Int)) = false := by rw [decide_eq_false_iff_not]; omega
              have HG := Lib.hid hG
              clear hG
              go_wp2
              go_roundw
              case rel => exact ⟨j + 1, _, by go_num, rfl, by omega, .inr ⟨by omega, HUn.out hd.1 hd.2.1 hd.2.2⟩, HN11.out.trans HG.out⟩
              case measure => simp [intOf]; omega
            have dm : decide ((m : Int) < (j : Int)) = true := by rw [decide_eq_true_iff]; omega
            have hmi : (m : Int) < (n5 : Int) := by omega
            have hml : m < l.length := by rw [HM.out.2.2.2]; omega
            obtain ⟨y, hY, hyc⟩ := HY.out m hml hmj
            have hce := (HRc.out.nw (HN11.out.trans hG)).cell m hml
            have hrl := (HRc.out.nw (HN11.out.trans hG)).lt
            obtain ⟨S, hS⟩ : ∃ S, l[m] = S := ⟨_, rfl⟩
            rw [hS] at hY hyc hce
            have hFx : fndV s S.id = .tuple #[rqV y, .bool true] := by unfold fndV; rw [hY]
            have m0 := hce 0 _ rfl
            have m1 := hce 1 _ rfl
            have m2 := hce 2 _ rfl
            have m3 := hce 3 _ rfl
            have m4 := hce 4 _ rfl
            simp only [Nat.add_zero] at m0
            obtain ⟨s0, s1, s2, s3, s4⟩ := S
            obtain ⟨y0, y1, y2, y3, y4⟩ := y
            simp only at hyc
            have hbo := H8.out.2.1.nw (HN11.out.trans hG)
            have c2 := hcell (j := 2) hbo
            have cl := hlt hbo
            have hb9 := Hb9'.out
            have hb9 := hG.at' hb9
            have b0 := hcell (j := 0) hb9
            have b1 := hcell (j := 1) hb9
            have b2 := hcell (j := 2) hb9
            have b3 := hcell (j := 3) hb9
            have b4 := hcell (j := 4) hb9
            have bl := hlt hb9
            have HFx := Lib.hid (fun (y : World) (hy : Nw u8 y) => HFn.out y hy s0)
            rw [show fndV s s0 = _ from hFx] at HFx
            unfold rqV at HFx
            have HG := Lib.hid hG
            have HYc := Lib.hid hyc
            clear hY hce hFx hS hml hbo hb9 hyc
            have HT := Lib.hid (two_boxes wr (.cells #[.int .i64 s0, .int .i64 s1, .int .i64 s2, .int .i64 s3, .int .i64 s4] 41) (.cells #[.int .i64 r0, .int .i64 x1, .int .i64 r2, .int .i64 r3, .int .i64 r4] 41))
            have HT' := Lib.hid (two_boxes wr (.cells #[.int .i64 r0, .int .i64 x1, .int .i64 r2, .int .i64 r3, .int .i64 r4] 41) (.cells #[.int .i64 s0, .int .i64 s1, .int .i64 s2, .int .i64 s3, .int .i64 s4] 41))
            have HB11 := Lib.hid (hG.at' Hb11.out)
            have HBN := Lib.hid (H8.out.2.2.2.1.nw (HN11.out.trans hG))
            have HN8 := Lib.hid (HN11.out.trans hG)
            clear hG
            go_wp2
            go_region
            · obtain ⟨u12, hu⟩ : ∃ u, ((wr.alloc (.cells #[.int .i64 s0, .int .i64 s1, .int .i64 s2, .int .i64 s3, .int .i64 s4] 41)).alloc (.cells #[.int .i64 r0, .int .i64 x1, .int .i64 r2, .int .i64 r3, .int .i64 r4] 41)).drew = u := ⟨_, rfl⟩
              have HD := Lib.hid (show u12.heap[wr.heap.size]? = some (.cells #[.int .i64 s0, .int .i64 s1, .int .i64 s2, .int .i64 s3, .int .i64 s4] 41) ∧ u12.heap[wr.heap.size + 1]? = some (.cells #[.int .i64 r0, .int .i64 x1, .int .i64 r2, .int .i64 r3, .int .i64 r4] 41) ∧ Nw wr u12 from by rw [← hu]; exact ⟨HT.out.1, HT.out.2.1, HT.out.2.2.1.dr⟩)
              rw [hu]
              clear hu
              obtain ⟨PB, hPB⟩ : ∃ x, wr.heap.size + 1 = x := ⟨_, rfl⟩
              rw [hPB] at HD ⊢
              obtain ⟨PA, hPA⟩ : ∃ x, wr.heap.size = x := ⟨_, rfl⟩
              rw [hPA] at HD ⊢
              clear HT HT' hPA hPB c2 cl b0 b1 b2 b3 b4 bl m0 m1 m2 m3 m4 hrl
              have hbn := HBN.out.nw HD.out.2.2
              have d0 := hcell (j := 0) hbn
              have d1 := hcell (j := 1) hbn
              have d2 := hcell (j := 2) hbn
              have d3 := hcell (j := 3) hbn
              have dl := hlt hbn
              have e0 := hcell (j := 0) HD.out.1
              have el := hlt HD.out.1
              clear hbn
              go_wp2_with fail
              go_at_call 15
              refine (HFx.out _ (HN8.out.trans HD.out.2.2)).mono ?_
              rintro e w13 ⟨rfl, g13⟩
              clear d0 d1 d2 d3 dl e0 el HFx
              have hba := g13.at' HD.out.1
              have hbb := g13.at' HD.out.2.1
              have hbx := (HD.out.2.2.trans g13).at' HB11.out
              have a2 := hcell (j := 2) hba
              have a4 := hcell (j := 4) hba
              have al := hlt hba
              have o2 := hcell (j := 2) hbb
              have o4 := hcell (j := 4) hbb
              have ol := hlt hbb
              have z4 := hcell (j := 4) hbx
              have zl := hlt hbx
              have HZ := Lib.hid (HG.out.trans (HD.out.2.2.trans g13))
              have hyc := HYc.out
              clear hba hbb hbx HD g13 HB11 HBN HN8 HG HYc
              rcases hyc with y | ⟨y, y', y'', hy⟩
              · have k1 : (s2 == 0) = false := by simp [y]
                clear y
                go_wp2
                go_roundw
                case rel => exact ⟨m + 1, by go_num, by omega, HZ.out.alloc _⟩
                case measure => simp [intOf]; omega
              · exact absurd t1 (by rw [y']; simp)
            · obtain ⟨u12, hu⟩ : ∃ u, ((wr.alloc (.cells #[.int .i64 r0, .int .i64 x1, .int .i64 r2, .int .i64 r3, .int .i64 r4] 41)).alloc (.cells #[.int .i64 s0, .int .i64 s1, .int .i64 s2, .int .i64 s3, .int .i64 s4] 41)).drew = u := ⟨_, rfl⟩
              have HD := Lib.hid (show u12.heap[wr.heap.size + 1]? = some (.cells #[.int .i64 s0, .int .i64 s1, .int .i64 s2, .int .i64 s3, .int .i64 s4] 41) ∧ u12.heap[wr.heap.size]? = some (.cells #[.int .i64 r0, .int .i64 x1, .int .i64 r2, .int .i64 r3, .int .i64 r4] 41) ∧ Nw wr u12 from by rw [← hu]; exact ⟨HT'.out.2.1, HT'.out.1, HT'.out.2.2.1.dr⟩)
              rw [hu]
              clear hu
              obtain ⟨PB, hPB⟩ : ∃ x, wr.heap.size + 1 = x := ⟨_, rfl⟩
              rw [hPB] at HD ⊢
              obtain ⟨PA, hPA⟩ : ∃ x, wr.heap.size = x := ⟨_, rfl⟩
              rw [hPA] at HD ⊢
              clear HT HT' hPA hPB c2 cl b0 b1 b2 b3 b4 bl m0 m1 m2 m3 m4 hrl
              have hbn := HBN.out.nw HD.out.2.2
              have d0 := hcell (j := 0) hbn
              have d1 := hcell (j := 1) hbn
              have d2 := hcell (j := 2) hbn
              have d3 := hcell (j := 3) hbn
              have dl := hlt hbn
              have e0 := hcell (j := 0) HD.out.1
              have el := hlt HD.out.1
              clear hbn
              go_wp2_with fail
              go_at_call 15
              refine (HFx.out _ (HN8.out.trans HD.out.2.2)).mono ?_
              rintro e w13 ⟨rfl, g13⟩
              clear d0 d1 d2 d3 dl e0 el HFx
              have hba := g13.at' HD.out.1
              have hbb := g13.at' HD.out.2.1
              have hbx := (HD.out.2.2.trans g13).at' HB11.out
              have a2 := hcell (j := 2) hba
              have a4 := hcell (j := 4) hba
              have al := hlt hba
              have o2 := hcell (j := 2) hbb
              have o4 := hcell (j := 4) hbb
              have ol := hlt hbb
              have z4 := hcell (j := 4) hbx
              have zl := hlt hbx
              have HZ := Lib.hid (HG.out.trans (HD.out.2.2.trans g13))
              have hyc := HYc.out
              clear hba hbb hbx HD g13 HB11 HBN HN8 HG HYc
              rcases hyc with y | ⟨y, y', y'', hy⟩
              · have k1 : (s2 == 0) = false := by simp [y]
                clear y
                go_wp2
                go_roundw
                case rel => exact ⟨m + 1, by go_num, by omega, HZ.out.alloc _⟩
                case measure => simp [intOf]; omega
              · exact absurd t1 (by rw [y']; simp)
end Go.Proofs.Ytmciiobncfchlaa.turns
end
