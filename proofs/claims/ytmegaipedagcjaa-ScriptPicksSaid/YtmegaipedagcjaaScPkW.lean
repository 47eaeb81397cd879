
/- ScriptPicks: the walk. -/
import Derived.Test.YtmegaipedagcjaaScPkR
import Derived.Test.YtmegaipedagcjaaScX
import Derived.StillTailTactics
namespace Go.Proofs.Ytmegaipedagcjaa.scriptPicks
open Go.RowKit
set_option linter.unusedVariables false

set_option maxRecDepth 100000 in
set_option maxHeartbeats 2000000 in
theorem main_bad (l B : List UInt8) (k0 u0 : Int) (kk uu : Nat) (x1 x2 : UInt8) (R S : PS) (W : World) (hl : l.length ≤ 1600) (hB : l.take (l.length / 8 * 8) = B) (hkk : kk < 6) (huu : uu < 256)
    (HP1 : Hid (∀ z, Calls Try.prog 22 #[.int .i64 k0, .int .i64 6] z fun e w' => e = .returned (.int .i64 kk) ∧ z = w')) (HP2 : Hid (∀ z, Calls Try.prog 22 #[.int .i64 u0, .int .i64 256] z fun e w' => e = .returned (.int .i64 uu) ∧ z = w'))
    (hX : pickE ((kk : Int), (uu : Int)) = [3, x1, x2, 0, 0, 0, 0, 0]) (hx1 : (x1.toNat : Int) = kk) (hx2 : (x2.toNat : Int) = uu)
    (HR1 : Hid (∀ z, Calls Try.prog 16 #[stV B] z (ReadC z R))) (HR2 : Hid (∀ z, Calls Try.prog 16 #[stV (B ++ [3, x1, x2, 0, 0, 0, 0, 0])] z (ReadC z S))) (hfR : Hid (Fits R)) (hSR : S = R) (hbad : kk < 1 ∨ (1 ≤ kk ∧ 4 < kk) ∨ (1 ≤ kk ∧ kk ≤ 4 ∧ 4096 ≤ R.pk.length)) :
    Calls Try.prog 7 #[stV l, .agg #[.int .i64 k0, .int .i64 u0]] W fun e w' => e = .returned (.bool true) ∧ Nw W w' := by
  subst hSR
  have hxr := ext_rule
  have har := app_rule
  have dl : decide ((1600 : Int) < (l.length : Int)) = false := by simp; omega
  have hBl : B.length ≤ 1600 := by rw [← hB, List.length_take]; omega
  have hcc : ¬ (9223372036854775807 < B.length + 8) := by omega
  have hcv : ∀ (z : World) (b : Nat), z.heap.size = b → (convert 55 9 (.slice (some ⟨b, 0, none⟩) 8 8)).run Try.prog ((z.alloc (.cells #[.int .u8 3, .int .u8 (kk : Int), .int .u8 (uu : Int), .int .u8 0, .int .u8 0, .int .u8 0, .int .u8 0, .int .u8 0] 5)).drew) =
      .ok (stV [3, x1, x2, 0, 0, 0, 0, 0]) ((z.alloc (.cells #[.int .u8 3, .int .u8 (kk : Int), .int .u8 (uu : Int), .int .u8 0, .int .u8 0, .int .u8 0, .int .u8 0, .int .u8 0] 5)).drew) := fun z b h => by have := conv8 z.drew b h 3 x1 x2 0 0 0 0 0; rw [hx1, hx2] at this; exact this
  have k0_ : ∀ y, CV W [(W.heap.size, 0, .int .i64 k0), (W.heap.size, 1, .int .i64 u0)] y → y.cell? ⟨W.heap.size, 0, none⟩ = some (.int .i64 k0) := fun y h => h.at _ _ _ (by simp)
  have k1_ : ∀ y, CV W [(W.heap.size, 0, .int .i64 k0), (W.heap.size, 1, .int .i64 u0)] y → y.cell? ⟨W.heap.size, 1, none⟩ = some (.int .i64 u0) := fun y h => h.at _ _ _ (by simp)
  go_enter Try.func7, Try.ntmps7
  go_wp2_with fail
  refine (lives_ok _).mono ?_
  rintro e w1 ⟨rfl, g1⟩
  have hB1 : CV W [(W.heap.size, 0, .int .i64 k0), (W.heap.size, 1, .int .i64 u0)] w1 := by
    refine CV.step _ _ ?_ g1
    repeat' (first | exact CV.nil ((Nw.refl W).alloc _) | refine CV.cons ?_ ?_)
    all_goals simp [go_sem]
  clear g1
  have hB2 := CV.step' (Nw.refl w1).drew1 hB1
  have ka := k0_ w1.drew hB2
  have kb := k1_ w1.drew hB2
  have p1 := (HP1.out w1.drew).mono fun e w' h => (⟨h.1, h.2.symm⟩ : e = .returned (.int .i64 kk) ∧ w' = w1.drew)
  have p2 := (HP2.out w1.drew).mono fun e w' h => (⟨h.1, h.2.symm⟩ : e = .returned (.int .i64 uu) ∧ w' = w1.drew)
  go_wp2
  refine wp_region_still_tail 8 (by kernel_rfl) (by kernel_rfl) ?_
  simp only [List.take_succ_cons, List.take_zero, List.drop_succ_cons, List.drop_zero]
  iterate 2 still_step
  still_call p1
  iterate 3 still_step
  still_call p2
  repeat still_step
  refine wpStill_nil ?_
  change wpList _ _ _ _ _ w1.drew
  clear ka kb p1 p2 hB1
  go_wp2_with fail
  have hB3 := CV.step' ((Nw.refl w1.drew).alloc (.cells #[.int .u8 3, .int .u8 (kk : Int), .int .u8 (uu : Int), .int .u8 0, .int .u8 0, .int .u8 0, .int .u8 0, .int .u8 0] 5)) hB2
  refine (HR1.out _).mono ?_
  rintro e w2 ⟨vt, vp, rfl, hs1, g2, a1', c1', rfl, hcp1, hcm1⟩
  have hB4 := CV.step' g2 hB3
  clear hB2 hB3 hcv
  go_wp2_with fail
  refine (HR2.out _).mono ?_
  rintro e w3 ⟨vt', vp', rfl, hs2, g3, a2', c2', rfl, hcp2, hcm2⟩
  have hB5 := CV.step' g3 hB4
  have HS1 := Lib.hid (hs1.nw g3)
  have HS2 := Lib.hid hs2
  clear hB4 g2 g3 hs2
  obtain ⟨⟨d1, d2, d3, d4⟩, hd⟩ : ∃ d, S.cp = d := ⟨_, rfl⟩
  have HD := Lib.hid hd
  obtain ⟨⟨a1, t1, rfl, _⟩, _⟩ := hs1
  obtain ⟨⟨a2, t2, rfl, _⟩, _⟩ := HS2.out
  obtain ⟨n1, hn1⟩ : ∃ n, S.th.length = n := ⟨_, rfl⟩
  obtain ⟨m1, hm1⟩ : ∃ n, S.pk.length = n := ⟨_, rfl⟩
  simp only [hd, hn1, hm1] at HS1 HS2 hbad ⊢
  have ka := k0_ w3 hB5
  have kb := k1_ w3 hB5
  have hltW : W.heap.size < w3.heap.size := World.block_lt_of_cell? _ _ ka
  have hW3 := hB5.2
  have HSS : Hid (∀ z, Nw w3 z → Calls Try.prog 21 #[.agg #[.slice a1 n1 t1, .slice a1' m1 c1', .int .i64 d1, .int .i64 d2, .int .i64 d3, .int .i64 d4], .agg #[.slice a2 n1 t2, .slice a2' m1 c2', .int .i64 d1, .int .i64 d2, .int .i64 d3, .int .i64 d4]] z fun e w' => e = .returned (.bool true) ∧ Nw z w') := Lib.hid fun z g => by
    have := sameScript_any _ _ _ _ S z hfR.out (HS1.out.nw g) (HS2.out.nw g)
    rw [HD.out] at this
    exact this
  clear HS1 HS2 HD hd hn1 hm1 hB5 HR1 HR2 k0_ k1_ hxr har hcp1 hcm1 hcp2 hcm2
  rcases hbad with hb | ⟨hb1, hb2⟩ | ⟨hb1, hb2, hb3⟩
  · have e1 : decide ((kk : Int) < 1) = true := by simp; omega
    go_wp2_with (go_at_call 22; (with_reducible refine (HP1.out _).mono ?_); rintro e wq ⟨rfl, rfl⟩)
    refine (HSS.out _ (((Nw.refl w3).alloc _).alloc _)).mono ?_
    rintro e w9 ⟨rfl, g9⟩
    go_wp2
    go_ret
    exact ⟨rfl, hW3.trans ((((Nw.refl w3).alloc _).alloc _).trans g9)⟩
  · have e1 : decide ((kk : Int) < 1) = false := by simp; omega
    have e2 : decide ((4 : Int) < (kk : Int)) = true := by simp; omega
    go_wp2_with (go_at_call 22; (with_reducible refine (HP1.out _).mono ?_); rintro e wq ⟨rfl, rfl⟩)
    refine (HSS.out _ (((Nw.refl w3).alloc _).alloc _)).mono ?_
    rintro e w9 ⟨rfl, g9⟩
    go_wp2
    go_ret
    exact ⟨rfl, hW3.trans ((((Nw.refl w3).alloc _).alloc _).trans g9)⟩
  · have e1 : decide ((kk : Int) < 1) = false := by simp; omega
    have e2 : decide ((4 : Int) < (kk : Int)) = false := by simp; omega
    have e3 : decide ((4096 : Int) ≤ (m1 : Int)) = true := by simp; omega
    go_wp2_with (go_at_call 22; (with_reducible refine (HP1.out _).mono ?_); rintro e wq ⟨rfl, rfl⟩)
    refine (HSS.out _ (((Nw.refl w3).alloc _).alloc _)).mono ?_
    rintro e w9 ⟨rfl, g9⟩
    go_wp2
    go_ret
    exact ⟨rfl, hW3.trans ((((Nw.refl w3).alloc _).alloc _).trans g9)⟩

set_option maxRecDepth 100000 in
set_option maxHeartbeats 2000000 in
theorem main_good (l B : List UInt8) (k0 u0 : Int) (kk uu : Nat) (x1 x2 : UInt8) (R S : PS) (W : World) (hl : l.length ≤ 1600) (hB : l.take (l.length / 8 * 8) = B) (hkk : kk < 6) (huu : uu < 256)
    (HP1 : Hid (∀ z, Calls Try.prog 22 #[.int .i64 k0, .int .i64 6] z fun e w' => e = .returned (.int .i64 kk) ∧ z = w')) (HP2 : Hid (∀ z, Calls Try.prog 22 #[.int .i64 u0, .int .i64 256] z fun e w' => e = .returned (.int .i64 uu) ∧ z = w'))
    (hX : pickE ((kk : Int), (uu : Int)) = [3, x1, x2, 0, 0, 0, 0, 0]) (hx1 : (x1.toNat : Int) = kk) (hx2 : (x2.toNat : Int) = uu)
    (HR1 : Hid (∀ z, Calls Try.prog 16 #[stV B] z (ReadC z R))) (HR2 : Hid (∀ z, Calls Try.prog 16 #[stV (B ++ [3, x1, x2, 0, 0, 0, 0, 0])] z (ReadC z S))) (hfR : Hid (Fits R)) (hSR : S = ⟨R.th, R.pk ++ [((kk : Int), (uu : Int))], R.cp⟩) (hgood : 1 ≤ kk ∧ kk ≤ 4 ∧ R.pk.length < 4096) :
    Calls Try.prog 7 #[stV l, .agg #[.int .i64 k0, .int .i64 u0]] W fun e w' => e = .returned (.bool true) ∧ Nw W w' := by
  subst hSR
  have hxr := ext_rule
  have har := app_rule
  have dl : decide ((1600 : Int) < (l.length : Int)) = false := by simp; omega
  have hBl : B.length ≤ 1600 := by rw [← hB, List.length_take]; omega
  have hcc : ¬ (9223372036854775807 < B.length + 8) := by omega
  have hcv : ∀ (z : World) (b : Nat), z.heap.size = b → (convert 55 9 (.slice (some ⟨b, 0, none⟩) 8 8)).run Try.prog ((z.alloc (.cells #[.int .u8 3, .int .u8 (kk : Int), .int .u8 (uu : Int), .int .u8 0, .int .u8 0, .int .u8 0, .int .u8 0, .int .u8 0] 5)).drew) =
      .ok (stV [3, x1, x2, 0, 0, 0, 0, 0]) ((z.alloc (.cells #[.int .u8 3, .int .u8 (kk : Int), .int .u8 (uu : Int), .int .u8 0, .int .u8 0, .int .u8 0, .int .u8 0, .int .u8 0] 5)).drew) := fun z b h => by have := conv8 z.drew b h 3 x1 x2 0 0 0 0 0; rw [hx1, hx2] at this; exact this
  have k0_ : ∀ y, CV W [(W.heap.size, 0, .int .i64 k0), (W.heap.size, 1, .int .i64 u0)] y → y.cell? ⟨W.heap.size, 0, none⟩ = some (.int .i64 k0) := fun y h => h.at _ _ _ (by simp)
  have k1_ : ∀ y, CV W [(W.heap.size, 0, .int .i64 k0), (W.heap.size, 1, .int .i64 u0)] y → y.cell? ⟨W.heap.size, 1, none⟩ = some (.int .i64 u0) := fun y h => h.at _ _ _ (by simp)
  go_enter Try.func7, Try.ntmps7
  go_wp2_with fail
  refine (lives_ok _).mono ?_
  rintro e w1 ⟨rfl, g1⟩
  have hB1 : CV W [(W.heap.size, 0, .int .i64 k0), (W.heap.size, 1, .int .i64 u0)] w1 := by
    refine CV.step _ _ ?_ g1
    repeat' (first | exact CV.nil ((Nw.refl W).alloc _) | refine CV.cons ?_ ?_)
    all_goals simp [go_sem]
  clear g1
  have hB2 := CV.step' (Nw.refl w1).drew1 hB1
  have ka := k0_ w1.drew hB2
  have kb := k1_ w1.drew hB2
  have p1 := (HP1.out w1.drew).mono fun e w' h => (⟨h.1, h.2.symm⟩ : e = .returned (.int .i64 kk) ∧ w' = w1.drew)
  have p2 := (HP2.out w1.drew).mono fun e w' h => (⟨h.1, h.2.symm⟩ : e = .returned (.int .i64 uu) ∧ w' = w1.drew)
  go_wp2
  refine wp_region_still_tail 8 (by kernel_rfl) (by kernel_rfl) ?_
  simp only [List.take_succ_cons, List.take_zero, List.drop_succ_cons, List.drop_zero]
  iterate 2 still_step
  still_call p1
  iterate 3 still_step
  still_call p2
  repeat still_step
  refine wpStill_nil ?_
  change wpList _ _ _ _ _ w1.drew
  clear ka kb p1 p2 hB1
  go_wp2_with fail
  have hB3 := CV.step' ((Nw.refl w1.drew).alloc (.cells #[.int .u8 3, .int .u8 (kk : Int), .int .u8 (uu : Int), .int .u8 0, .int .u8 0, .int .u8 0, .int .u8 0, .int .u8 0] 5)) hB2
  refine (HR1.out _).mono ?_
  rintro e w2 ⟨vt, vp, rfl, hs1, g2, a1', c1', rfl, hcp1, hcm1⟩
  have hB4 := CV.step' g2 hB3
  clear hB2 hB3 hcv
  go_wp2_with fail
  refine (HR2.out _).mono ?_
  rintro e w3 ⟨vt', vp', rfl, hs2, g3, a2', c2', rfl, hcp2, hcm2⟩
  have hB5 := CV.step' g3 hB4
  have HS1 := Lib.hid (hs1.nw g3)
  have HS2 := Lib.hid hs2
  clear hB4 g2 g3 hs2
  obtain ⟨th, pk, d1, d2, d3, d4⟩ := R
  simp only at HS1 HS2 hcp1 hcm1 hcp2 hcm2 hgood ⊢
  obtain ⟨⟨a1, t1, rfl, _⟩, _⟩ := HS1.out
  obtain ⟨⟨a2, t2, rfl, _⟩, hpk2⟩ := HS2.out
  rw [List.length_append, List.length_singleton] at hcp2 HS2 hpk2 ⊢
  obtain ⟨hcut, xb, xo, rfl, hx0, hx1'⟩ := pks_cut hpk2 rfl
  have HS3 : Hid (ScAt w3 (.slice a2 th.length t2) (.slice (some ⟨xb, xo, none⟩) pk.length c2') ⟨th, pk, (d1, d2, d3, d4)⟩) := Lib.hid ⟨HS2.out.1, hcut⟩
  obtain ⟨n1, hn1⟩ : ∃ n, th.length = n := ⟨_, rfl⟩
  obtain ⟨m1, hm1⟩ : ∃ n, pk.length = n := ⟨_, rfl⟩
  rw [hn1, hm1] at HS1 HS3 ⊢
  rw [hm1] at hx0 hx1' hcp2 hgood
  have ka := k0_ w3 hB5
  have kb := k1_ w3 hB5
  have hltW : W.heap.size < w3.heap.size := World.block_lt_of_cell? _ _ ka
  have hW3 := hB5.2
  have HSS : Hid (∀ z, Nw w3 z → Calls Try.prog 21 #[.agg #[.slice a1 n1 t1, .slice a1' m1 c1', .int .i64 d1, .int .i64 d2, .int .i64 d3, .int .i64 d4], .agg #[.slice a2 n1 t2, .slice (some ⟨xb, xo, none⟩) m1 c2', .int .i64 d1, .int .i64 d2, .int .i64 d3, .int .i64 d4]] z fun e w' => e = .returned (.bool true) ∧ Nw z w') := Lib.hid fun z g =>
    sameScript_any _ _ _ _ ⟨th, pk, (d1, d2, d3, d4)⟩ z hfR.out (HS1.out.nw g) (HS3.out.nw g)
  have HSM : Hid (∀ z, Nw w3 z → Calls Try.prog 18 #[.agg #[.slice a1 n1 t1, .slice a1' m1 c1', .int .i64 d1, .int .i64 d2, .int .i64 d3, .int .i64 d4], .agg #[.slice a2 n1 t2, .slice (some ⟨xb, xo, none⟩) m1 c2', .int .i64 d1, .int .i64 d2, .int .i64 d3, .int .i64 d4]] z fun e w' => e = .returned (.bool true) ∧ Nw z w') := Lib.hid fun z g =>
    progSame_any _ _ _ _ ⟨th, pk, (d1, d2, d3, d4)⟩ z hfR.out (HS1.out.nw g) (HS3.out.nw g)
  have e1 : decide ((kk : Int) < 1) = false := by simp; omega
  have e2 : decide ((4 : Int) < (kk : Int)) = false := by simp; omega
  have e3 : decide ((4096 : Int) ≤ (m1 : Int)) = false := by simp; omega
  have e4 : IntKind.i64.wrap ((m1 : Int) + 1) = (m1 : Int) + 1 := by rw [IntKind.wrap_i64]; omega
  have hbx : xb < w3.heap.size := World.block_lt_of_cell? _ _ hx0
  have hcx : (m1 : Int) ≤ (c2' : Int) := by omega
  have hcx' : m1 ≤ c2' := by omega
  clear HS1 HS2 HS3 hcut hpk2 HR1 HR2 k0_ k1_ hxr har hcp1 hcm1 hcp2 hcm2 hn1 hm1
  go_wp2_with (go_at_call 22; (with_reducible refine (HP1.out _).mono ?_); rintro e wq ⟨rfl, rfl⟩)
  have hB6 : CV W [(w3.heap.size, 0, .slice a1 n1 t1), (w3.heap.size, 1, .slice a1' m1 c1'), (w3.heap.size, 2, .int .i64 d1), (w3.heap.size, 3, .int .i64 d2), (w3.heap.size, 4, .int .i64 d3), (w3.heap.size, 5, .int .i64 d4), (w3.heap.size + 1, 0, .slice a2 n1 t2), (w3.heap.size + 1, 1, .slice (some ⟨xb, xo, none⟩) (m1 + 1) c2'), (w3.heap.size + 1, 2, .int .i64 d1), (w3.heap.size + 1, 3, .int .i64 d2), (w3.heap.size + 1, 4, .int .i64 d3), (w3.heap.size + 1, 5, .int .i64 d4), (xb, xo + m1 * 2, .int .i64 kk), (xb, xo + m1 * 2 + 1, .int .i64 uu), (W.heap.size, 0, .int .i64 k0), (W.heap.size, 1, .int .i64 u0)] ((w3.alloc (.cells #[.slice a1 n1 t1, .slice a1' m1 c1', .int .i64 d1, .int .i64 d2, .int .i64 d3, .int .i64 d4] 28)).alloc (.cells #[.slice a2 n1 t2, .slice (some ⟨xb, xo, none⟩) (m1 + 1) c2', .int .i64 d1, .int .i64 d2, .int .i64 d3, .int .i64 d4] 28)) := by
    have hn := ((Nw.refl w3).alloc (.cells #[.slice a1 n1 t1, .slice a1' m1 c1', .int .i64 d1, .int .i64 d2, .int .i64 d3, .int .i64 d4] 28)).alloc (.cells #[.slice a2 n1 t2, .slice (some ⟨xb, xo, none⟩) (m1 + 1) c2', .int .i64 d1, .int .i64 d2, .int .i64 d3, .int .i64 d4] 28)
    repeat' (first | exact CV.step' hn hB5 | refine CV.cons ?_ ?_)
    all_goals first | (simp [go_sem]; done) | exact hn.keep' hx0 | exact hn.keep' hx1'
  have h36 : Nw w3 ((w3.alloc (.cells #[.slice a1 n1 t1, .slice a1' m1 c1', .int .i64 d1, .int .i64 d2, .int .i64 d3, .int .i64 d4] 28)).alloc (.cells #[.slice a2 n1 t2, .slice (some ⟨xb, xo, none⟩) (m1 + 1) c2', .int .i64 d1, .int .i64 d2, .int .i64 d3, .int .i64 d4] 28)) := ((Nw.refl w3).alloc _).alloc _
  obtain ⟨w6, hw6⟩ : ∃ x, (w3.alloc (.cells #[.slice a1 n1 t1, .slice a1' m1 c1', .int .i64 d1, .int .i64 d2, .int .i64 d3, .int .i64 d4] 28)).alloc (.cells #[.slice a2 n1 t2, .slice (some ⟨xb, xo, none⟩) (m1 + 1) c2', .int .i64 d1, .int .i64 d2, .int .i64 d3, .int .i64 d4] 28) = x := ⟨_, rfl⟩
  have hf6 : ∀ j, w6.frozen? ⟨w3.heap.size + 1, j, none⟩ = false := fun j => by rw [← hw6]; simp [go_sem]
  have hs6 : w3.heap.size + 1 < w6.heap.size := by rw [← hw6]; simp
  rw [hw6] at hB6 h36 ⊢
  clear hw6 hB5 ka kb
  have hB7 := Lib.hid hB6
  have j0 : w6.cell? ⟨w3.heap.size, 0, none⟩ = some (.slice a1 n1 t1) := hB6.at _ _ _ (by simp)
  have j1 : w6.cell? ⟨w3.heap.size, 1, none⟩ = some (.slice a1' m1 c1') := hB6.at _ _ _ (by simp)
  have j2 : w6.cell? ⟨w3.heap.size, 2, none⟩ = some (.int .i64 d1) := hB6.at _ _ _ (by simp)
  have j3 : w6.cell? ⟨w3.heap.size, 3, none⟩ = some (.int .i64 d2) := hB6.at _ _ _ (by simp)
  have j4 : w6.cell? ⟨w3.heap.size, 4, none⟩ = some (.int .i64 d3) := hB6.at _ _ _ (by simp)
  have j5 : w6.cell? ⟨w3.heap.size, 5, none⟩ = some (.int .i64 d4) := hB6.at _ _ _ (by simp)
  have j6 : w6.cell? ⟨w3.heap.size + 1, 0, none⟩ = some (.slice a2 n1 t2) := hB6.at _ _ _ (by simp)
  have j7 : w6.cell? ⟨w3.heap.size + 1, 1, none⟩ = some (.slice (some ⟨xb, xo, none⟩) (m1 + 1) c2') := hB6.at _ _ _ (by simp)
  have j8 : w6.cell? ⟨w3.heap.size + 1, 2, none⟩ = some (.int .i64 d1) := hB6.at _ _ _ (by simp)
  have j9 : w6.cell? ⟨w3.heap.size + 1, 3, none⟩ = some (.int .i64 d2) := hB6.at _ _ _ (by simp)
  have j10 : w6.cell? ⟨w3.heap.size + 1, 4, none⟩ = some (.int .i64 d3) := hB6.at _ _ _ (by simp)
  have j11 : w6.cell? ⟨w3.heap.size + 1, 5, none⟩ = some (.int .i64 d4) := hB6.at _ _ _ (by simp)
  have j12 : w6.cell? ⟨xb, xo + m1 * 2, none⟩ = some (.int .i64 kk) := hB6.at _ _ _ (by simp)
  have j13 : w6.cell? ⟨xb, xo + m1 * 2 + 1, none⟩ = some (.int .i64 uu) := hB6.at _ _ _ (by simp)
  have j14 : w6.cell? ⟨W.heap.size, 0, none⟩ = some (.int .i64 k0) := hB6.at _ _ _ (by simp)
  have j15 : w6.cell? ⟨W.heap.size, 1, none⟩ = some (.int .i64 u0) := hB6.at _ _ _ (by simp)
  clear hB6
  have HPq : ∀ j, Calls Try.prog 22 #[.int .i64 u0, .int .i64 256] (w6.drewN j) fun e w'' => e = .returned (.int .i64 uu) ∧ ∃ m', w'' = w6.drewN m' := fun j => (HP2.out (w6.drewN j)).mono fun e w' h => ⟨h.1, j, h.2.symm⟩
  have HPq' := Lib.hid HPq
  clear HPq
  go_quiet ((go_at_call 22; (with_reducible exact HPq'.out _)))
  go_wp2_with fail
  refine (HSS.out _ ?hn1).mono ?_
  case hn1 => exact (h36.trans (by first | exact (Nw.refl w6).drewN _ | exact Nw.refl w6)).set' (by simp) _
  rintro e w9 ⟨rfl, g9⟩
  have h39 : Nw w3 w9 := ((h36.trans (by first | exact (Nw.refl w6).drewN _ | exact Nw.refl w6)).set' (by simp) _).trans g9
  obtain ⟨hc9, hf9⟩ := g9.rules
  have hs66 : w3.heap.size < w6.heap.size := by omega
  go_wp2_with fail
  refine (HSM.out _ h39).mono ?_
  rintro e w10 ⟨rfl, g10⟩
  have hend := (hW3.trans h39).trans g10
  clear hc9 hf9
  go_wp2
  go_ret
  exact ⟨rfl, hend⟩

end Go.Proofs.Ytmegaipedagcjaa.scriptPicks
