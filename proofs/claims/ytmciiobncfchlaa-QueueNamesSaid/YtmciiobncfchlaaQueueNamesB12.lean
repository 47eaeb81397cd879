/- Texts merged: QnW -/
import Derived.Test.YtmciiobncfchlaaQueueNamesB11

/- QueueNames: the walk. -/
section
namespace Go.Proofs.Ytmciiobncfchlaa
open Go.RowKit
set_option linter.unusedVariables false

/-- A predicate of worlds that go_simp does not open. -/
def HdW (S : World → Prop) (x : World) : Prop := S x
theorem HB.st {w : World} {B : Nat} {t r W : Int} {v : Value} (h : HB w B t r v W) {p : Addr} (hp : p.block ≠ B) (u : Value) : HB (w.setCell p u) B t r v W := heap_st h hp u
theorem is_two (w : World) (x y : Int) : IS (w.alloc (.cells #[.int .i64 x, .int .i64 y] 3)) (.slice (some ⟨w.heap.size, 0, none⟩) 2 2) [x, y] := by
  have h := World.ownsRow_lit (base := 0) (size := 1) (e := 3) w #[.int .i64 x, .int .i64 y] 2 (Nat.zero_le _) (by unfold maxLen; omega) (by simp)
  unfold IS
  simpa using h
set_option maxRecDepth 100000 in
set_option maxHeartbeats 16000000 in
theorem names_any (w : World) : Calls Try.prog 3 #[] w fun e w' => e = .returned (.bool true) ∧ Nw w w' := by
  have HLv := Lib.hid lives_ok
  have HEm := Lib.hid lEmpty
  have HA0 := Lib.hid (fun w => dAsk 0 (-1) 0 0 1 3 (.slice none 0 0) [] w (by simp) no0 (Rd.nil w))
  unfold HD2 at HA0
  rw [na1] at HA0
  unfold hdV at HEm HA0
  go_enter Try.func3, Try.ntmps3
  go_wp2_with fail
  go_at_call 7
  refine (HLv.out _).mono ?_
  rintro e w0 ⟨rfl, g0⟩
  go_wp2_with fail
  go_at_call 9
  refine (HEm.out _).mono ?_
  rintro e w1 ⟨rfl, g1⟩
  go_wp2_with fail
  go_at_call 8
  refine (HA0.out _).mono ?_
  rintro e w2 ⟨v, rfl, g2, hR, _, hf⟩
  obtain ⟨a, k, hv⟩ := hR.form
  simp only [List.length_cons, List.length_nil, Nat.reduceAdd] at hv
  subst hv
  have hb := HB.made w2 0 (-1) (.slice a 1 k) 0
  have hN : Nw w (w2.alloc (.cells #[.int .i64 0, .int .i64 (-1), .slice a 1 k, .int .i64 0] 27)) := ((g0.trans g1).trans g2).alloc _
  replace hR := hR.nw ((Nw.refl w2).alloc (.cells #[.int .i64 0, .int .i64 (-1), .slice a 1 k, .int .i64 0] 27))
  obtain ⟨B1, hB⟩ : ∃ B, w2.heap.size = B := ⟨_, rfl⟩
  have hBw : w.heap.size ≤ B1 := by rw [← hB]; exact ((g0.trans g1).trans g2).sz
  rw [hB] at hb
  have HBw := Lib.hid hBw
  have HB3 := Lib.hid hB
  obtain ⟨u3, hw3⟩ : ∃ u, w2.alloc (.cells #[.int .i64 0, .int .i64 (-1), .slice a 1 k, .int .i64 0] 27) = u := ⟨_, rfl⟩
  have HU3 := Lib.hid hw3
  rw [hw3] at hb hN hR
  have K1 := Lib.hid (And.intro hb hR)
  have G := Lib.hid hN
  clear hB hw3 hf g0 g1 g2 hb hN hR hBw HLv HEm HA0
  have HC := Lib.hid (dAsk 0 (-1) 0 1 2 3 (.slice a 1 k) nq1 u3 (by simp) no1 K1.out.2)
  unfold HD2 at HC
  rw [na2] at HC
  unfold hdV at HC
  have c0 := hcell (j := 0) K1.out.1
  have c1 := hcell (j := 1) K1.out.1
  have c2 := hcell (j := 2) K1.out.1
  have c3 := hcell (j := 3) K1.out.1
  have hl := hlt K1.out.1
  go_wp2_with fail
  rw [HU3.out, HB3.out]
  go_wp2_with fail
  go_at_call 8
  refine HC.out.mono ?_
  rintro e x3 ⟨v, rfl, gg, hR, _, hf⟩
  clear c0 c1 c2 c3 hl
  have hbx := K1.out.1.nw gg
  obtain ⟨a4, k4, hv⟩ := hR.form
  simp only [List.length_cons, List.length_nil, Nat.reduceAdd] at hv
  subst hv
  have d0 := hcell (j := 0) hbx
  have d1 := hcell (j := 1) hbx
  have d2 := hcell (j := 2) hbx
  have d3 := hcell (j := 3) hbx
  have dz := fun k => hfz (j := k) hbx
  have dl := hlt hbx
  obtain ⟨u4, hu⟩ : ∃ x, filld x3 B1 (.int .i64 0) (.int .i64 (-1)) (.slice a4 2 k4) (.int .i64 0) = x := ⟨_, rfl⟩
  have hp := And.intro (hbx.fill 0 (-1) 0 (.slice a4 2 k4)) (And.intro (fill_nw (G.out.trans gg) HBw.out (.int .i64 0) (.int .i64 (-1)) (.slice a4 2 k4) (.int .i64 0)) (rd_fill' hR hf (hlt K1.out.1) (.int .i64 0) (.int .i64 (-1)) (.slice a4 2 k4) (.int .i64 0)))
  change HB (filld x3 B1 (.int .i64 0) (.int .i64 (-1)) (.slice a4 2 k4) (.int .i64 0)) B1 0 (-1) (.slice a4 2 k4) 0 ∧ Nw w (filld x3 B1 (.int .i64 0) (.int .i64 (-1)) (.slice a4 2 k4) (.int .i64 0)) ∧ RqAt (filld x3 B1 (.int .i64 0) (.int .i64 (-1)) (.slice a4 2 k4) (.int .i64 0)) (.slice a4 2 k4) _ at hp
  rw [hu] at hp
  have HE := Lib.hid hu
  replace K1 := Lib.hid (And.intro hp.1 hp.2.2)
  replace G := Lib.hid hp.2.1
  clear hbx hp hu gg hR hf HC
  have HC := Lib.hid (dAsk 0 (-1) 0 2 3 6 (.slice a4 2 k4) nq2 u4 (by simp) no2 K1.out.2)
  unfold HD2 at HC
  rw [na3] at HC
  unfold hdV at HC
  have c0 := hcell (j := 0) K1.out.1
  have c1 := hcell (j := 1) K1.out.1
  have c2 := hcell (j := 2) K1.out.1
  have c3 := hcell (j := 3) K1.out.1
  have hl := hlt K1.out.1
  go_wp2_with fail
  have hE := HE.out
  unfold filld at hE
  rw [hE]
  clear hE d0 d1 d2 d3 dz dl HE
  go_wp2_with fail
  go_at_call 8
  refine HC.out.mono ?_
  rintro e x4 ⟨v, rfl, gg, hR, _, hf⟩
  clear c0 c1 c2 c3 hl
  have hbx := K1.out.1.nw gg
  obtain ⟨a5, k5, hv⟩ := hR.form
  simp only [List.length_cons, List.length_nil, Nat.reduceAdd] at hv
  subst hv
  have d0 := hcell (j := 0) hbx
  have d1 := hcell (j := 1) hbx
  have d2 := hcell (j := 2) hbx
  have d3 := hcell (j := 3) hbx
  have dz := fun k => hfz (j := k) hbx
  have dl := hlt hbx
  obtain ⟨u5, hu⟩ : ∃ x, filld x4 B1 (.int .i64 0) (.int .i64 (-1)) (.slice a5 3 k5) (.int .i64 1) = x := ⟨_, rfl⟩
  have hp := And.intro (hbx.fill 0 (-1) 1 (.slice a5 3 k5)) (And.intro (fill_nw (G.out.trans gg) HBw.out (.int .i64 0) (.int .i64 (-1)) (.slice a5 3 k5) (.int .i64 1)) (rd_fill' hR hf (hlt K1.out.1) (.int .i64 0) (.int .i64 (-1)) (.slice a5 3 k5) (.int .i64 1)))
  change HB (filld x4 B1 (.int .i64 0) (.int .i64 (-1)) (.slice a5 3 k5) (.int .i64 1)) B1 0 (-1) (.slice a5 3 k5) 1 ∧ Nw w (filld x4 B1 (.int .i64 0) (.int .i64 (-1)) (.slice a5 3 k5) (.int .i64 1)) ∧ RqAt (filld x4 B1 (.int .i64 0) (.int .i64 (-1)) (.slice a5 3 k5) (.int .i64 1)) (.slice a5 3 k5) _ at hp
  rw [hu] at hp
  have HE := Lib.hid hu
  replace K1 := Lib.hid (And.intro hp.1 hp.2.2)
  replace G := Lib.hid hp.2.1
  clear hbx hp hu gg hR hf HC
  -- region 6
  have HC := Lib.hid (dUpgrade 0 (-1) 1 0 6 (.slice a5 3 k5) nq3 u5 (by simp) no3 K1.out.2)
  unfold HD2 at HC
  rw [nu1] at HC
  
  unfold hdV at HC
  have c0 := hcell (j := 0) K1.out.1
  have c1 := hcell (j := 1) K1.out.1
  have c2 := hcell (j := 2) K1.out.1
  have c3 := hcell (j := 3) K1.out.1
  have hl := hlt K1.out.1
  go_wp2_with fail
  have hE := HE.out
  unfold filld at hE
  rw [hE]
  clear hE d0 d1 d2 d3 dz dl HE
  
  go_wp2_with fail
  go_at_call 10
  refine HC.out.mono ?_
  rintro e x6 ⟨v, rfl, gg, hR, _, hf⟩
  clear c0 c1 c2 c3 hl hf HC
  obtain ⟨a6, k6, hv⟩ := hR.form
  simp only [List.length_cons, List.length_nil, Nat.reduceAdd] at hv
  subst hv
  have hb := HB.made x6 0 (-1) (.slice a6 3 k6) 2
  obtain ⟨u6, hz⟩ : ∃ z, x6.alloc (.cells #[.int .i64 0, .int .i64 (-1), .slice a6 3 k6, .int .i64 2] 27) = z := ⟨_, rfl⟩
  have g : Nw u5 u6 := by rw [← hz]; exact gg.alloc _
  have gy : Nw x6 u6 := by rw [← hz]; exact (Nw.refl _).alloc _
  rw [hz] at hb
  obtain ⟨B4, hBs⟩ : ∃ B, x6.heap.size = B := ⟨_, rfl⟩
  rw [hBs] at hb
  have HU := Lib.hid (And.intro hz hBs)
  replace G := Lib.hid (G.out.trans g)
  replace K1 := Lib.hid (And.intro (K1.out.1.nw g) (K1.out.2.nw g))
  have K4 := Lib.hid (And.intro hb (hR.nw gy))
  clear hb hz hBs hR g gy gg
  -- region 7
  have HC := Lib.hid (dUpgrade 0 (-1) 2 1 5 (.slice a6 3 k6) nqU u6 (by simp) noU K4.out.2)
  unfold HD2 at HC
  rw [nu2] at HC
  
  unfold hdV at HC
  have c0 := hcell (j := 0) K4.out.1
  have c1 := hcell (j := 1) K4.out.1
  have c2 := hcell (j := 2) K4.out.1
  have c3 := hcell (j := 3) K4.out.1
  have hl := hlt K4.out.1
  go_wp2_with fail
  rw [HU.out.1, HU.out.2]
  clear HU
  
  go_wp2_with fail
  go_at_call 10
  refine HC.out.mono ?_
  rintro e x7 ⟨v, rfl, gg, hR, _, hf⟩
  clear c0 c1 c2 c3 hl hf HC
  obtain ⟨a7, k7, hv⟩ := hR.form
  simp only [List.length_cons, List.length_nil, Nat.reduceAdd] at hv
  subst hv
  have hb := HB.made x7 0 (-1) (.slice a7 3 k7) 3
  obtain ⟨u7, hz⟩ : ∃ z, x7.alloc (.cells #[.int .i64 0, .int .i64 (-1), .slice a7 3 k7, .int .i64 3] 27) = z := ⟨_, rfl⟩
  have g : Nw u6 u7 := by rw [← hz]; exact gg.alloc _
  have gy : Nw x7 u7 := by rw [← hz]; exact (Nw.refl _).alloc _
  rw [hz] at hb
  obtain ⟨B7, hBs⟩ : ∃ B, x7.heap.size = B := ⟨_, rfl⟩
  rw [hBs] at hb
  have HU := Lib.hid (And.intro hz hBs)
  replace G := Lib.hid (G.out.trans g)
  have e0 := hcell (j := 0) (K4.out.1.nw gg)
  have e1 := hcell (j := 1) (K4.out.1.nw gg)
  have e2 := hcell (j := 2) (K4.out.1.nw gg)
  have e3 := hcell (j := 3) (K4.out.1.nw gg)
  have el := hlt (K4.out.1.nw gg)
  replace K1 := Lib.hid (And.intro (K1.out.1.nw g) (K1.out.2.nw g))
  replace K4 := Lib.hid (And.intro (K4.out.1.nw g) (K4.out.2.nw g))
  have K7 := Lib.hid (And.intro hb (hR.nw gy))
  clear hb hz hBs hR g gy gg
  -- region 8
  have HC := Lib.hid (dUpgrade 0 (-1) 2 0 6 (.slice a6 3 k6) nqU u7 (by simp) noU K4.out.2)
  unfold HD2 at HC
  rw [nu3] at HC
  unfold noH at HC
  unfold hdV at HC
  have c0 := hcell (j := 0) K4.out.1
  have c1 := hcell (j := 1) K4.out.1
  have c2 := hcell (j := 2) K4.out.1
  have c3 := hcell (j := 3) K4.out.1
  have hl := hlt K4.out.1
  go_wp2_with fail
  rw [HU.out.1, HU.out.2]
  clear HU
  clear e0 e1 e2 e3 el
  go_wp2_with fail
  go_at_call 10
  refine HC.out.mono ?_
  rintro e x8 ⟨v, rfl, gg, hR, _, hf⟩
  clear c0 c1 c2 c3 hl hf HC
  obtain ⟨a8, k8, hv⟩ := hR.form
  simp only [List.length_cons, List.length_nil, Nat.reduceAdd] at hv
  subst hv
  have hb := HB.made x8 0 0 (.slice a8 0 k8) 0
  obtain ⟨u8, hz⟩ : ∃ z, x8.alloc (.cells #[.int .i64 0, .int .i64 0, .slice a8 0 k8, .int .i64 0] 27) = z := ⟨_, rfl⟩
  have g : Nw u7 u8 := by rw [← hz]; exact gg.alloc _
  have gy : Nw x8 u8 := by rw [← hz]; exact (Nw.refl _).alloc _
  rw [hz] at hb
  obtain ⟨B10, hBs⟩ : ∃ B, x8.heap.size = B := ⟨_, rfl⟩
  rw [hBs] at hb
  have HU := Lib.hid (And.intro hz hBs)
  replace G := Lib.hid (G.out.trans g)
  have e0 := hcell (j := 0) (K1.out.1.nw gg)
  have e1 := hcell (j := 1) (K1.out.1.nw gg)
  have e2 := hcell (j := 2) (K1.out.1.nw gg)
  have e3 := hcell (j := 3) (K1.out.1.nw gg)
  have el := hlt (K1.out.1.nw gg)
  replace K1 := Lib.hid (And.intro (K1.out.1.nw g) (K1.out.2.nw g))
  replace K4 := Lib.hid (And.intro (K4.out.1.nw g) (K4.out.2.nw g))
  replace K7 := Lib.hid (And.intro (K7.out.1.nw g) (K7.out.2.nw g))
  clear hb hz hBs hR g gy gg
  -- region 9
  have HC := Lib.hid (dUpgrade 0 (-1) 1 9 6 (.slice a5 3 k5) nq3 u8 (by simp) no3 K1.out.2)
  unfold HD2 at HC
  rw [nu4] at HC
  unfold noH at HC
  unfold hdV at HC
  have c0 := hcell (j := 0) K1.out.1
  have c1 := hcell (j := 1) K1.out.1
  have c2 := hcell (j := 2) K1.out.1
  have c3 := hcell (j := 3) K1.out.1
  have hl := hlt K1.out.1
  go_wp2_with fail
  rw [HU.out.1, HU.out.2]
  clear HU
  clear e0 e1 e2 e3 el
  go_wp2_with fail
  go_at_call 10
  refine HC.out.mono ?_
  rintro e x9 ⟨v, rfl, gg, hR, _, hf⟩
  clear c0 c1 c2 c3 hl hf HC
  obtain ⟨a9, k9, hv⟩ := hR.form
  simp only [List.length_cons, List.length_nil, Nat.reduceAdd] at hv
  subst hv
  have hb := HB.made x9 0 0 (.slice a9 0 k9) 0
  obtain ⟨u9, hz⟩ : ∃ z, x9.alloc (.cells #[.int .i64 0, .int .i64 0, .slice a9 0 k9, .int .i64 0] 27) = z := ⟨_, rfl⟩
  have g : Nw u8 u9 := by rw [← hz]; exact gg.alloc _
  have gy : Nw x9 u9 := by rw [← hz]; exact (Nw.refl _).alloc _
  rw [hz] at hb
  obtain ⟨B13, hBs⟩ : ∃ B, x9.heap.size = B := ⟨_, rfl⟩
  rw [hBs] at hb
  have HU := Lib.hid (And.intro hz hBs)
  replace G := Lib.hid (G.out.trans g)
  have e0 := hcell (j := 0) (K1.out.1.nw gg)
  have e1 := hcell (j := 1) (K1.out.1.nw gg)
  have e2 := hcell (j := 2) (K1.out.1.nw gg)
  have e3 := hcell (j := 3) (K1.out.1.nw gg)
  have el := hlt (K1.out.1.nw gg)
  replace K1 := Lib.hid (And.intro (K1.out.1.nw g) (K1.out.2.nw g))
  replace K4 := Lib.hid (And.intro (K4.out.1.nw g) (K4.out.2.nw g))
  replace K7 := Lib.hid (And.intro (K7.out.1.nw g) (K7.out.2.nw g))
  clear hb hz hBs hR g gy gg
  -- region 10
  have HC := Lib.hid (dUpgrade 0 (-1) 1 9 0 (.slice a5 3 k5) nq3 u9 (by simp) no3 K1.out.2)
  unfold HD2 at HC
  rw [nu5] at HC
  unfold noH at HC
  unfold hdV at HC
  have c0 := hcell (j := 0) K1.out.1
  have c1 := hcell (j := 1) K1.out.1
  have c2 := hcell (j := 2) K1.out.1
  have c3 := hcell (j := 3) K1.out.1
  have hl := hlt K1.out.1
  go_wp2_with fail
  rw [HU.out.1, HU.out.2]
  clear HU
  clear e0 e1 e2 e3 el
  go_wp2_with fail
  go_at_call 10
  refine HC.out.mono ?_
  rintro e x10 ⟨v, rfl, gg, hR, _, hf⟩
  clear c0 c1 c2 c3 hl hf HC
  obtain ⟨a10, k10, hv⟩ := hR.form
  simp only [List.length_cons, List.length_nil, Nat.reduceAdd] at hv
  subst hv
  have hb := HB.made x10 0 0 (.slice a10 0 k10) 0
  obtain ⟨u10, hz⟩ : ∃ z, x10.alloc (.cells #[.int .i64 0, .int .i64 0, .slice a10 0 k10, .int .i64 0] 27) = z := ⟨_, rfl⟩
  have g : Nw u9 u10 := by rw [← hz]; exact gg.alloc _
  have gy : Nw x10 u10 := by rw [← hz]; exact (Nw.refl _).alloc _
  rw [hz] at hb
  obtain ⟨B16, hBs⟩ : ∃ B, x10.heap.size = B := ⟨_, rfl⟩
  rw [hBs] at hb
  have HU := Lib.hid (And.intro hz hBs)
  replace G := Lib.hid (G.out.trans g)
  have e0 := hcell (j := 0) (K1.out.1.nw gg)
  have e1 := hcell (j := 1) (K1.out.1.nw gg)
  have e2 := hcell (j := 2) (K1.out.1.nw gg)
  have e3 := hcell (j := 3) (K1.out.1.nw gg)
  have el := hlt (K1.out.1.nw gg)
  replace K1 := Lib.hid (And.intro (K1.out.1.nw g) (K1.out.2.nw g))
  replace K4 := Lib.hid (And.intro (K4.out.1.nw g) (K4.out.2.nw g))
  replace K7 := Lib.hid (And.intro (K7.out.1.nw g) (K7.out.2.nw g))
  clear hb hz hBs hR g gy gg
  -- region 11
  have HC := Lib.hid (dUpgrade 0 (-1) 1 0 1 (.slice a5 3 k5) nq3 u10 (by simp) no3 K1.out.2)
  unfold HD2 at HC
  rw [nu6] at HC
  
  unfold hdV at HC
  have c0 := hcell (j := 0) K1.out.1
  have c1 := hcell (j := 1) K1.out.1
  have c2 := hcell (j := 2) K1.out.1
  have c3 := hcell (j := 3) K1.out.1
  have hl := hlt K1.out.1
  go_wp2_with fail
  rw [HU.out.1, HU.out.2]
  clear HU
  clear e0 e1 e2 e3 el
  go_wp2_with fail
  go_at_call 10
  refine HC.out.mono ?_
  rintro e x11 ⟨v, rfl, gg, hR, _, hf⟩
  clear c0 c1 c2 c3 hl hf HC
  obtain ⟨a11, k11, hv⟩ := hR.form
  simp only [List.length_cons, List.length_nil, Nat.reduceAdd] at hv
  subst hv
  have hb := HB.made x11 0 (-1) (.slice a11 3 k11) 1
  obtain ⟨u11, hz⟩ : ∃ z, x11.alloc (.cells #[.int .i64 0, .int .i64 (-1), .slice a11 3 k11, .int .i64 1] 27) = z := ⟨_, rfl⟩
  have g : Nw u10 u11 := by rw [← hz]; exact gg.alloc _
  have gy : Nw x11 u11 := by rw [← hz]; exact (Nw.refl _).alloc _
  rw [hz] at hb
  obtain ⟨B19, hBs⟩ : ∃ B, x11.heap.size = B := ⟨_, rfl⟩
  rw [hBs] at hb
  have HU := Lib.hid (And.intro hz hBs)
  replace G := Lib.hid (G.out.trans g)
  have e0 := hcell (j := 0) (K1.out.1.nw gg)
  have e1 := hcell (j := 1) (K1.out.1.nw gg)
  have e2 := hcell (j := 2) (K1.out.1.nw gg)
  have e3 := hcell (j := 3) (K1.out.1.nw gg)
  have el := hlt (K1.out.1.nw gg)
  replace K1 := Lib.hid (And.intro (K1.out.1.nw g) (K1.out.2.nw g))
  replace K4 := Lib.hid (And.intro (K4.out.1.nw g) (K4.out.2.nw g))
  replace K7 := Lib.hid (And.intro (K7.out.1.nw g) (K7.out.2.nw g))
  clear hb hz hBs hR g gy gg
  -- region 12
  have HC := Lib.hid (dAsk 0 (-1) 1 1 9 3 (.slice a5 3 k5) nq3 u11 (by simp) no3 K1.out.2)
  unfold HD2 at HC
  rw [na4] at HC
  unfold noH at HC
  unfold hdV at HC
  have c0 := hcell (j := 0) K1.out.1
  have c1 := hcell (j := 1) K1.out.1
  have c2 := hcell (j := 2) K1.out.1
  have c3 := hcell (j := 3) K1.out.1
  have hl := hlt K1.out.1
  go_wp2_with fail
  rw [HU.out.1, HU.out.2]
  clear HU
  clear e0 e1 e2 e3 el
  go_wp2_with fail
  go_at_call 8
  refine HC.out.mono ?_
  rintro e x12 ⟨v, rfl, gg, hR, _, hf⟩
  clear c0 c1 c2 c3 hl hf HC
  obtain ⟨a12, k12, hv⟩ := hR.form
  simp only [List.length_cons, List.length_nil, Nat.reduceAdd] at hv
  subst hv
  have hb := HB.made x12 0 0 (.slice a12 0 k12) 0
  obtain ⟨u12, hz⟩ : ∃ z, x12.alloc (.cells #[.int .i64 0, .int .i64 0, .slice a12 0 k12, .int .i64 0] 27) = z := ⟨_, rfl⟩
  have g : Nw u11 u12 := by rw [← hz]; exact gg.alloc _
  have gy : Nw x12 u12 := by rw [← hz]; exact (Nw.refl _).alloc _
  rw [hz] at hb
  obtain ⟨B22, hBs⟩ : ∃ B, x12.heap.size = B := ⟨_, rfl⟩
  rw [hBs] at hb
  have HU := Lib.hid (And.intro hz hBs)
  replace G := Lib.hid (G.out.trans g)
  have e0 := hcell (j := 0) (K1.out.1.nw gg)
  have e1 := hcell (j := 1) (K1.out.1.nw gg)
  have e2 := hcell (j := 2) (K1.out.1.nw gg)
  have e3 := hcell (j := 3) (K1.out.1.nw gg)
  have el := hlt (K1.out.1.nw gg)
  replace K1 := Lib.hid (And.intro (K1.out.1.nw g) (K1.out.2.nw g))
  replace K4 := Lib.hid (And.intro (K4.out.1.nw g) (K4.out.2.nw g))
  replace K7 := Lib.hid (And.intro (K7.out.1.nw g) (K7.out.2.nw g))
  clear hb hz hBs hR g gy gg
  -- region 13
  have HC := Lib.hid (dAsk 0 (-1) 1 9 3 3 (.slice a5 3 k5) nq3 u12 (by simp) no3 K1.out.2)
  unfold HD2 at HC
  rw [na5] at HC
  unfold noH at HC
  unfold hdV at HC
  have c0 := hcell (j := 0) K1.out.1
  have c1 := hcell (j := 1) K1.out.1
  have c2 := hcell (j := 2) K1.out.1
  have c3 := hcell (j := 3) K1.out.1
  have hl := hlt K1.out.1
  go_wp2_with fail
  rw [HU.out.1, HU.out.2]
  clear HU
  clear e0 e1 e2 e3 el
  go_wp2_with fail
  go_at_call 8
  refine HC.out.mono ?_
  rintro e x13 ⟨v, rfl, gg, hR, _, hf⟩
  clear c0 c1 c2 c3 hl hf HC
  obtain ⟨a13, k13, hv⟩ := hR.form
  simp only [List.length_cons, List.length_nil, Nat.reduceAdd] at hv
  subst hv
  have hb := HB.made x13 0 0 (.slice a13 0 k13) 0
  obtain ⟨u13, hz⟩ : ∃ z, x13.alloc (.cells #[.int .i64 0, .int .i64 0, .slice a13 0 k13, .int .i64 0] 27) = z := ⟨_, rfl⟩
  have g : Nw u12 u13 := by rw [← hz]; exact gg.alloc _
  have gy : Nw x13 u13 := by rw [← hz]; exact (Nw.refl _).alloc _
  rw [hz] at hb
  obtain ⟨B25, hBs⟩ : ∃ B, x13.heap.size = B := ⟨_, rfl⟩
  rw [hBs] at hb
  have HU := Lib.hid (And.intro hz hBs)
  replace G := Lib.hid (G.out.trans g)
  have e0 := hcell (j := 0) (K1.out.1.nw gg)
  have e1 := hcell (j := 1) (K1.out.1.nw gg)
  have e2 := hcell (j := 2) (K1.out.1.nw gg)
  have e3 := hcell (j := 3) (K1.out.1.nw gg)
  have el := hlt (K1.out.1.nw gg)
  replace K1 := Lib.hid (And.intro (K1.out.1.nw g) (K1.out.2.nw g))
  replace K4 := Lib.hid (And.intro (K4.out.1.nw g) (K4.out.2.nw g))
  replace K7 := Lib.hid (And.intro (K7.out.1.nw g) (K7.out.2.nw g))
  clear hb hz hBs hR g gy gg
  -- region 14
  have HC := Lib.hid (dAsk 0 (-1) 1 (-1) 9 3 (.slice a5 3 k5) nq3 u13 (by simp) no3 K1.out.2)
  unfold HD2 at HC
  rw [na6] at HC
  unfold noH at HC
  unfold hdV at HC
  have c0 := hcell (j := 0) K1.out.1
  have c1 := hcell (j := 1) K1.out.1
  have c2 := hcell (j := 2) K1.out.1
  have c3 := hcell (j := 3) K1.out.1
  have hl := hlt K1.out.1
  go_wp2_with fail
  rw [HU.out.1, HU.out.2]
  clear HU
  clear e0 e1 e2 e3 el
  go_wp2_with fail
  go_at_call 8
  refine HC.out.mono ?_
  rintro e x14 ⟨v, rfl, gg, hR, _, hf⟩
  clear c0 c1 c2 c3 hl hf HC
  obtain ⟨a14, k14, hv⟩ := hR.form
  simp only [List.length_cons, List.length_nil, Nat.reduceAdd] at hv
  subst hv
  have hb := HB.made x14 0 0 (.slice a14 0 k14) 0
  obtain ⟨u14, hz⟩ : ∃ z, x14.alloc (.cells #[.int .i64 0, .int .i64 0, .slice a14 0 k14, .int .i64 0] 27) = z := ⟨_, rfl⟩
  have g : Nw u13 u14 := by rw [← hz]; exact gg.alloc _
  have gy : Nw x14 u14 := by rw [← hz]; exact (Nw.refl _).alloc _
  rw [hz] at hb
  obtain ⟨B28, hBs⟩ : ∃ B, x14.heap.size = B := ⟨_, rfl⟩
  rw [hBs] at hb
  have HU := Lib.hid (And.intro hz hBs)
  replace G := Lib.hid (G.out.trans g)
  have e0 := hcell (j := 0) (K4.out.1.nw gg)
  have e1 := hcell (j := 1) (K4.out.1.nw gg)
  have e2 := hcell (j := 2) (K4.out.1.nw gg)
  have e3 := hcell (j := 3) (K4.out.1.nw gg)
  have el := hlt (K4.out.1.nw gg)
  replace K1 := Lib.hid (And.intro (K1.out.1.nw g) (K1.out.2.nw g))
  replace K4 := Lib.hid (And.intro (K4.out.1.nw g) (K4.out.2.nw g))
  replace K7 := Lib.hid (And.intro (K7.out.1.nw g) (K7.out.2.nw g))
  clear hb hz hBs hR g gy gg
  -- region 15
  have HC := Lib.hid (dLeave 0 (-1) 2 1 (.slice a6 3 k6) nqU u14 (by simp) K4.out.2)
  unfold HD1 at HC
  rw [nl1] at HC
  
  unfold hdV at HC
  have c0 := hcell (j := 0) K4.out.1
  have c1 := hcell (j := 1) K4.out.1
  have c2 := hcell (j := 2) K4.out.1
  have c3 := hcell (j := 3) K4.out.1
  have hl := hlt K4.out.1
  go_wp2_with fail
  rw [HU.out.1, HU.out.2]
  clear HU
  clear e0 e1 e2 e3 el
  go_wp2_with fail
  go_at_call 11
  refine HC.out.mono ?_
  rintro e x15 ⟨v, rfl, gg, hR, _, hf⟩
  clear c0 c1 c2 c3 hl hf HC
  obtain ⟨a15, k15, hv⟩ := hR.form
  simp only [List.length_cons, List.length_nil, Nat.reduceAdd] at hv
  subst hv
  have hb := HB.made x15 0 (-1) (.slice a15 2 k15) 2
  obtain ⟨u15, hz⟩ : ∃ z, x15.alloc (.cells #[.int .i64 0, .int .i64 (-1), .slice a15 2 k15, .int .i64 2] 27) = z := ⟨_, rfl⟩
  have g : Nw u14 u15 := by rw [← hz]; exact gg.alloc _
  have gy : Nw x15 u15 := by rw [← hz]; exact (Nw.refl _).alloc _
  rw [hz] at hb
  obtain ⟨B31, hBs⟩ : ∃ B, x15.heap.size = B := ⟨_, rfl⟩
  rw [hBs] at hb
  have HU := Lib.hid (And.intro hz hBs)
  replace G := Lib.hid (G.out.trans g)
  replace K1 := Lib.hid (And.intro (K1.out.1.nw g) (K1.out.2.nw g))
  replace K4 := Lib.hid (And.intro (K4.out.1.nw g) (K4.out.2.nw g))
  replace K7 := Lib.hid (And.intro (K7.out.1.nw g) (K7.out.2.nw g))
  have K31 := Lib.hid (And.intro hb (hR.nw gy))
  clear hb hz hBs hR g gy gg
  -- region 16
  have HC := Lib.hid (dScan 0 (-1) 2 (.slice a15 2 k15) nqL u15 (by simp) noL K31.out.2 (stOk_small nqL (by simp)))
  
  simp only [ns1] at HC
  
  unfold hdV at HC
  have c0 := hcell (j := 0) K31.out.1
  have c1 := hcell (j := 1) K31.out.1
  have c2 := hcell (j := 2) K31.out.1
  have c3 := hcell (j := 3) K31.out.1
  have hl := hlt K31.out.1
  go_wp2_with fail
  rw [HU.out.1, HU.out.2]
  clear HU
  
  go_wp2_with fail
  go_at_call 12
  refine HC.out.mono ?_
  rintro e x16 ⟨v, vi, rfl, gg, hR, _, hI, hf, hif⟩
  clear c0 c1 c2 c3 hl hf HC
  obtain ⟨a16, k16, hv⟩ := hR.form
  simp only [List.length_cons, List.length_nil, Nat.reduceAdd] at hv
  subst hv
  have hb := HB.made x16 0 (-1) (.slice a16 2 k16) 2
  obtain ⟨u16, hz⟩ : ∃ z, x16.alloc (.cells #[.int .i64 0, .int .i64 (-1), .slice a16 2 k16, .int .i64 2] 27) = z := ⟨_, rfl⟩
  have g : Nw u15 u16 := by rw [← hz]; exact gg.alloc _
  have gy : Nw x16 u16 := by rw [← hz]; exact (Nw.refl _).alloc _
  rw [hz] at hb
  obtain ⟨B33, hBs⟩ : ∃ B, x16.heap.size = B := ⟨_, rfl⟩
  rw [hBs] at hb
  have HU := Lib.hid (And.intro hz hBs)
  replace G := Lib.hid (G.out.trans g)
  have e0 := hcell (j := 0) (K4.out.1.nw gg)
  have e1 := hcell (j := 1) (K4.out.1.nw gg)
  have e2 := hcell (j := 2) (K4.out.1.nw gg)
  have e3 := hcell (j := 3) (K4.out.1.nw gg)
  have el := hlt (K4.out.1.nw gg)
  replace K1 := Lib.hid (And.intro (K1.out.1.nw g) (K1.out.2.nw g))
  replace K4 := Lib.hid (And.intro (K4.out.1.nw g) (K4.out.2.nw g))
  replace K7 := Lib.hid (And.intro (K7.out.1.nw g) (K7.out.2.nw g))
  replace K31 := Lib.hid (And.intro (K31.out.1.nw g) (K31.out.2.nw g))
  have K33 := Lib.hid (And.intro hb (hR.nw gy))
  obtain ⟨ai, ci, hvi, _⟩ := hI.box
  subst hvi
  simp only [List.length_cons, List.length_nil, Nat.reduceAdd] at hI
  have HI := Lib.hid (hI.nw gy)
  clear hI hif
  clear hb hz hBs hR g gy gg
  -- region 17
  have HC := Lib.hid (dAbandon 0 (-1) 2 0 (.slice a6 3 k6) nqU u16 (by simp) noU K4.out.2)
  unfold HD1 at HC
  rw [nb1] at HC
  
  unfold hdV at HC
  have c0 := hcell (j := 0) K4.out.1
  have c1 := hcell (j := 1) K4.out.1
  have c2 := hcell (j := 2) K4.out.1
  have c3 := hcell (j := 3) K4.out.1
  have hl := hlt K4.out.1
  go_wp2_with fail
  rw [HU.out.1, HU.out.2]
  clear HU
  clear e0 e1 e2 e3 el
  go_wp2_with fail
  go_at_call 13
  refine HC.out.mono ?_
  rintro e x17 ⟨v, rfl, gg, hR, _, hf⟩
  clear c0 c1 c2 c3 hl hf HC
  obtain ⟨a17, k17, hv⟩ := hR.form
  simp only [List.length_cons, List.length_nil, Nat.reduceAdd] at hv
  subst hv
  have hb := HB.made x17 0 (-1) (.slice a17 3 k17) 2
  obtain ⟨u17, hz⟩ : ∃ z, x17.alloc (.cells #[.int .i64 0, .int .i64 (-1), .slice a17 3 k17, .int .i64 2] 27) = z := ⟨_, rfl⟩
  have g : Nw u16 u17 := by rw [← hz]; exact gg.alloc _
  have gy : Nw x17 u17 := by rw [← hz]; exact (Nw.refl _).alloc _
  rw [hz] at hb
  obtain ⟨B35, hBs⟩ : ∃ B, x17.heap.size = B := ⟨_, rfl⟩
  rw [hBs] at hb
  have HU := Lib.hid (And.intro hz hBs)
  replace G := Lib.hid (G.out.trans g)
  have e0 := hcell (j := 0) (K1.out.1.nw gg)
  have e1 := hcell (j := 1) (K1.out.1.nw gg)
  have e2 := hcell (j := 2) (K1.out.1.nw gg)
  have e3 := hcell (j := 3) (K1.out.1.nw gg)
  have el := hlt (K1.out.1.nw gg)
  replace K1 := Lib.hid (And.intro (K1.out.1.nw g) (K1.out.2.nw g))
  replace K4 := Lib.hid (And.intro (K4.out.1.nw g) (K4.out.2.nw g))
  replace K7 := Lib.hid (And.intro (K7.out.1.nw g) (K7.out.2.nw g))
  replace K33 := Lib.hid (And.intro (K33.out.1.nw g) (K33.out.2.nw g))
  replace HI := Lib.hid (HI.out.nw g)
  have K35 := Lib.hid (And.intro hb (hR.nw gy))
  clear hb hz hBs hR g gy gg
  -- region 18
  have HC := Lib.hid (dAbandon 0 (-1) 1 2 (.slice a5 3 k5) nq3 u17 (by simp) no3 K1.out.2)
  unfold HD1 at HC
  rw [nb2] at HC
  
  unfold hdV at HC
  have c0 := hcell (j := 0) K1.out.1
  have c1 := hcell (j := 1) K1.out.1
  have c2 := hcell (j := 2) K1.out.1
  have c3 := hcell (j := 3) K1.out.1
  have hl := hlt K1.out.1
  go_wp2_with fail
  rw [HU.out.1, HU.out.2]
  clear HU
  clear e0 e1 e2 e3 el
  go_wp2_with fail
  go_at_call 13
  refine HC.out.mono ?_
  rintro e x18 ⟨v, rfl, gg, hR, _, hf⟩
  clear c0 c1 c2 c3 hl hf HC
  obtain ⟨a18, k18, hv⟩ := hR.form
  simp only [List.length_cons, List.length_nil, Nat.reduceAdd] at hv
  subst hv
  have hb := HB.made x18 0 (-1) (.slice a18 2 k18) 1
  obtain ⟨u18, hz⟩ : ∃ z, x18.alloc (.cells #[.int .i64 0, .int .i64 (-1), .slice a18 2 k18, .int .i64 1] 27) = z := ⟨_, rfl⟩
  have g : Nw u17 u18 := by rw [← hz]; exact gg.alloc _
  have gy : Nw x18 u18 := by rw [← hz]; exact (Nw.refl _).alloc _
  rw [hz] at hb
  obtain ⟨B37, hBs⟩ : ∃ B, x18.heap.size = B := ⟨_, rfl⟩
  rw [hBs] at hb
  have HU := Lib.hid (And.intro hz hBs)
  replace G := Lib.hid (G.out.trans g)
  have e0 := hcell (j := 0) (K1.out.1.nw gg)
  have e1 := hcell (j := 1) (K1.out.1.nw gg)
  have e2 := hcell (j := 2) (K1.out.1.nw gg)
  have e3 := hcell (j := 3) (K1.out.1.nw gg)
  have el := hlt (K1.out.1.nw gg)
  replace K1 := Lib.hid (And.intro (K1.out.1.nw g) (K1.out.2.nw g))
  replace K4 := Lib.hid (And.intro (K4.out.1.nw g) (K4.out.2.nw g))
  replace K7 := Lib.hid (And.intro (K7.out.1.nw g) (K7.out.2.nw g))
  replace K33 := Lib.hid (And.intro (K33.out.1.nw g) (K33.out.2.nw g))
  replace K35 := Lib.hid (And.intro (K35.out.1.nw g) (K35.out.2.nw g))
  replace HI := Lib.hid (HI.out.nw g)
  have K37 := Lib.hid (And.intro hb (hR.nw gy))
  clear hb hz hBs hR g gy gg
  -- region 19
  have HC := Lib.hid (dAbandon 0 (-1) 1 0 (.slice a5 3 k5) nq3 u18 (by simp) no3 K1.out.2)
  unfold HD1 at HC
  rw [nb3] at HC
  unfold noH at HC
  unfold hdV at HC
  have c0 := hcell (j := 0) K1.out.1
  have c1 := hcell (j := 1) K1.out.1
  have c2 := hcell (j := 2) K1.out.1
  have c3 := hcell (j := 3) K1.out.1
  have hl := hlt K1.out.1
  go_wp2_with fail
  rw [HU.out.1, HU.out.2]
  clear HU
  clear e0 e1 e2 e3 el
  go_wp2_with fail
  go_at_call 13
  refine HC.out.mono ?_
  rintro e x19 ⟨v, rfl, gg, hR, _, hf⟩
  clear c0 c1 c2 c3 hl hf HC
  obtain ⟨a19, k19, hv⟩ := hR.form
  simp only [List.length_cons, List.length_nil, Nat.reduceAdd] at hv
  subst hv
  have hb := HB.made x19 0 0 (.slice a19 0 k19) 0
  obtain ⟨u19, hz⟩ : ∃ z, x19.alloc (.cells #[.int .i64 0, .int .i64 0, .slice a19 0 k19, .int .i64 0] 27) = z := ⟨_, rfl⟩
  have g : Nw u18 u19 := by rw [← hz]; exact gg.alloc _
  have gy : Nw x19 u19 := by rw [← hz]; exact (Nw.refl _).alloc _
  rw [hz] at hb
  obtain ⟨B39, hBs⟩ : ∃ B, x19.heap.size = B := ⟨_, rfl⟩
  rw [hBs] at hb
  have HU := Lib.hid (And.intro hz hBs)
  replace G := Lib.hid (G.out.trans g)
  have e0 := hcell (j := 0) (K1.out.1.nw gg)
  have e1 := hcell (j := 1) (K1.out.1.nw gg)
  have e2 := hcell (j := 2) (K1.out.1.nw gg)
  have e3 := hcell (j := 3) (K1.out.1.nw gg)
  have el := hlt (K1.out.1.nw gg)
  replace K1 := Lib.hid (And.intro (K1.out.1.nw g) (K1.out.2.nw g))
  replace K4 := Lib.hid (And.intro (K4.out.1.nw g) (K4.out.2.nw g))
  replace K7 := Lib.hid (And.intro (K7.out.1.nw g) (K7.out.2.nw g))
  replace K33 := Lib.hid (And.intro (K33.out.1.nw g) (K33.out.2.nw g))
  replace K35 := Lib.hid (And.intro (K35.out.1.nw g) (K35.out.2.nw g))
  replace K37 := Lib.hid (And.intro (K37.out.1.nw g) (K37.out.2.nw g))
  replace HI := Lib.hid (HI.out.nw g)
  clear hb hz hBs hR g gy gg
  -- region 20
  have HC := Lib.hid (dHand 0 (-1) 1 0 2 (.slice a5 3 k5) nq3 u19 (by simp) no3 K1.out.2)
  unfold HD1 at HC
  rw [nh1] at HC
  unfold noH at HC
  unfold hdV at HC
  have c0 := hcell (j := 0) K1.out.1
  have c1 := hcell (j := 1) K1.out.1
  have c2 := hcell (j := 2) K1.out.1
  have c3 := hcell (j := 3) K1.out.1
  have hl := hlt K1.out.1
  go_wp2_with fail
  rw [HU.out.1, HU.out.2]
  clear HU
  clear e0 e1 e2 e3 el
  go_wp2_with fail
  go_at_call 14
  refine HC.out.mono ?_
  rintro e x20 ⟨v, rfl, gg, hR, _, hf⟩
  clear c0 c1 c2 c3 hl hf HC
  obtain ⟨a20, k20, hv⟩ := hR.form
  simp only [List.length_cons, List.length_nil, Nat.reduceAdd] at hv
  subst hv
  have hb := HB.made x20 0 0 (.slice a20 0 k20) 0
  obtain ⟨u20, hz⟩ : ∃ z, x20.alloc (.cells #[.int .i64 0, .int .i64 0, .slice a20 0 k20, .int .i64 0] 27) = z := ⟨_, rfl⟩
  have g : Nw u19 u20 := by rw [← hz]; exact gg.alloc _
  have gy : Nw x20 u20 := by rw [← hz]; exact (Nw.refl _).alloc _
  rw [hz] at hb
  obtain ⟨B41, hBs⟩ : ∃ B, x20.heap.size = B := ⟨_, rfl⟩
  rw [hBs] at hb
  have HU := Lib.hid (And.intro hz hBs)
  replace G := Lib.hid (G.out.trans g)
  have e0 := hcell (j := 0) (K1.out.1.nw gg)
  have e1 := hcell (j := 1) (K1.out.1.nw gg)
  have e2 := hcell (j := 2) (K1.out.1.nw gg)
  have e3 := hcell (j := 3) (K1.out.1.nw gg)
  have el := hlt (K1.out.1.nw gg)
  replace K1 := Lib.hid (And.intro (K1.out.1.nw g) (K1.out.2.nw g))
  replace K4 := Lib.hid (And.intro (K4.out.1.nw g) (K4.out.2.nw g))
  replace K7 := Lib.hid (And.intro (K7.out.1.nw g) (K7.out.2.nw g))
  replace K33 := Lib.hid (And.intro (K33.out.1.nw g) (K33.out.2.nw g))
  replace K35 := Lib.hid (And.intro (K35.out.1.nw g) (K35.out.2.nw g))
  replace K37 := Lib.hid (And.intro (K37.out.1.nw g) (K37.out.2.nw g))
  replace HI := Lib.hid (HI.out.nw g)
  clear hb hz hBs hR g gy gg
  -- region 21
  have HC := Lib.hid (dHand 0 (-1) 1 0 (-5) (.slice a5 3 k5) nq3 u20 (by simp) no3 K1.out.2)
  unfold HD1 at HC
  rw [nh2] at HC
  
  unfold hdV at HC
  have c0 := hcell (j := 0) K1.out.1
  have c1 := hcell (j := 1) K1.out.1
  have c2 := hcell (j := 2) K1.out.1
  have c3 := hcell (j := 3) K1.out.1
  have hl := hlt K1.out.1
  go_wp2_with fail
  rw [HU.out.1, HU.out.2]
  clear HU
  clear e0 e1 e2 e3 el
  go_wp2_with fail
  go_at_call 14
  refine HC.out.mono ?_
  rintro e x21 ⟨v, rfl, gg, hR, _, hf⟩
  clear c0 c1 c2 c3 hl hf HC
  obtain ⟨a21, k21, hv⟩ := hR.form
  simp only [List.length_cons, List.length_nil, Nat.reduceAdd] at hv
  subst hv
  have hb := HB.made x21 0 (-1) (.slice a21 3 k21) 1
  obtain ⟨u21, hz⟩ : ∃ z, x21.alloc (.cells #[.int .i64 0, .int .i64 (-1), .slice a21 3 k21, .int .i64 1] 27) = z := ⟨_, rfl⟩
  have g : Nw u20 u21 := by rw [← hz]; exact gg.alloc _
  have gy : Nw x21 u21 := by rw [← hz]; exact (Nw.refl _).alloc _
  rw [hz] at hb
  obtain ⟨B43, hBs⟩ : ∃ B, x21.heap.size = B := ⟨_, rfl⟩
  rw [hBs] at hb
  have HU := Lib.hid (And.intro hz hBs)
  replace G := Lib.hid (G.out.trans g)
  have e0 := hcell (j := 0) (K1.out.1.nw gg)
  have e1 := hcell (j := 1) (K1.out.1.nw gg)
  have e2 := hcell (j := 2) (K1.out.1.nw gg)
  have e3 := hcell (j := 3) (K1.out.1.nw gg)
  have el := hlt (K1.out.1.nw gg)
  replace K1 := Lib.hid (And.intro (K1.out.1.nw g) (K1.out.2.nw g))
  replace K4 := Lib.hid (And.intro (K4.out.1.nw g) (K4.out.2.nw g))
  replace K7 := Lib.hid (And.intro (K7.out.1.nw g) (K7.out.2.nw g))
  replace K33 := Lib.hid (And.intro (K33.out.1.nw g) (K33.out.2.nw g))
  replace K35 := Lib.hid (And.intro (K35.out.1.nw g) (K35.out.2.nw g))
  replace K37 := Lib.hid (And.intro (K37.out.1.nw g) (K37.out.2.nw g))
  replace HI := Lib.hid (HI.out.nw g)
  have K43 := Lib.hid (And.intro hb (hR.nw gy))
  clear hb hz hBs hR g gy gg
  -- region 22
  have HC := Lib.hid (dHand 0 (-1) 1 2 9 (.slice a5 3 k5) nq3 u21 (by simp) no3 K1.out.2)
  unfold HD1 at HC
  rw [nh3] at HC
  unfold noH at HC
  unfold hdV at HC
  have c0 := hcell (j := 0) K1.out.1
  have c1 := hcell (j := 1) K1.out.1
  have c2 := hcell (j := 2) K1.out.1
  have c3 := hcell (j := 3) K1.out.1
  have hl := hlt K1.out.1
  go_wp2_with fail
  rw [HU.out.1, HU.out.2]
  clear HU
  clear e0 e1 e2 e3 el
  go_wp2_with fail
  go_at_call 14
  refine HC.out.mono ?_
  rintro e x22 ⟨v, rfl, gg, hR, _, hf⟩
  clear c0 c1 c2 c3 hl hf HC
  obtain ⟨a22, k22, hv⟩ := hR.form
  simp only [List.length_cons, List.length_nil, Nat.reduceAdd] at hv
  subst hv
  have hb := HB.made x22 0 0 (.slice a22 0 k22) 0
  obtain ⟨u22, hz⟩ : ∃ z, x22.alloc (.cells #[.int .i64 0, .int .i64 0, .slice a22 0 k22, .int .i64 0] 27) = z := ⟨_, rfl⟩
  have g : Nw u21 u22 := by rw [← hz]; exact gg.alloc _
  have gy : Nw x22 u22 := by rw [← hz]; exact (Nw.refl _).alloc _
  rw [hz] at hb
  obtain ⟨B45, hBs⟩ : ∃ B, x22.heap.size = B := ⟨_, rfl⟩
  rw [hBs] at hb
  have HU := Lib.hid (And.intro hz hBs)
  replace G := Lib.hid (G.out.trans g)
  have e0 := hcell (j := 0) (K4.out.1.nw gg)
  have e1 := hcell (j := 1) (K4.out.1.nw gg)
  have e2 := hcell (j := 2) (K4.out.1.nw gg)
  have e3 := hcell (j := 3) (K4.out.1.nw gg)
  have el := hlt (K4.out.1.nw gg)
  replace K1 := Lib.hid (And.intro (K1.out.1.nw g) (K1.out.2.nw g))
  replace K4 := Lib.hid (And.intro (K4.out.1.nw g) (K4.out.2.nw g))
  replace K7 := Lib.hid (And.intro (K7.out.1.nw g) (K7.out.2.nw g))
  replace K33 := Lib.hid (And.intro (K33.out.1.nw g) (K33.out.2.nw g))
  replace K35 := Lib.hid (And.intro (K35.out.1.nw g) (K35.out.2.nw g))
  replace K37 := Lib.hid (And.intro (K37.out.1.nw g) (K37.out.2.nw g))
  replace K43 := Lib.hid (And.intro (K43.out.1.nw g) (K43.out.2.nw g))
  replace HI := Lib.hid (HI.out.nw g)
  clear hb hz hBs hR g gy gg
  -- region 23
  have HC := Lib.hid (dFindQ 0 (-1) 2 0 (.slice a6 3 k6) nqU u22 (by simp) K4.out.2)
  unfold fndV at HC
  rw [nf1] at HC
  simp only [rqV] at HC
  unfold hdV at HC
  have c0 := hcell (j := 0) K4.out.1
  have c1 := hcell (j := 1) K4.out.1
  have c2 := hcell (j := 2) K4.out.1
  have c3 := hcell (j := 3) K4.out.1
  have hl := hlt K4.out.1
  go_wp2_with fail
  rw [HU.out.1, HU.out.2]
  clear HU
  clear e0 e1 e2 e3 el
  go_wp2_with fail
  go_at_call 15
  refine HC.out.mono ?_
  rintro e x23 ⟨rfl, gg⟩
  clear c0 c1 c2 c3 hl HC
  have hb := allocAt x23 (.cells #[.int .i64 0, .int .i64 1, .int .i64 3, .int .i64 6, .int .i64 2] 41)
  obtain ⟨u23, hz⟩ : ∃ z, x23.alloc (.cells #[.int .i64 0, .int .i64 1, .int .i64 3, .int .i64 6, .int .i64 2] 41) = z := ⟨_, rfl⟩
  have g : Nw u22 u23 := by rw [← hz]; exact gg.alloc _
  rw [hz] at hb
  obtain ⟨B47, hBs⟩ : ∃ B, x23.heap.size = B := ⟨_, rfl⟩
  rw [hBs] at hb
  have HU := Lib.hid (And.intro hz hBs)
  have KX := Lib.hid hb
  have e0 := hcell (j := 0) (K1.out.1.nw gg)
  have e1 := hcell (j := 1) (K1.out.1.nw gg)
  have e2 := hcell (j := 2) (K1.out.1.nw gg)
  have e3 := hcell (j := 3) (K1.out.1.nw gg)
  have el := hlt (K1.out.1.nw gg)
  replace K1 := Lib.hid (And.intro (K1.out.1.nw g) (K1.out.2.nw g))
  replace K4 := Lib.hid (And.intro (K4.out.1.nw g) (K4.out.2.nw g))
  replace K7 := Lib.hid (And.intro (K7.out.1.nw g) (K7.out.2.nw g))
  replace K33 := Lib.hid (And.intro (K33.out.1.nw g) (K33.out.2.nw g))
  replace K35 := Lib.hid (And.intro (K35.out.1.nw g) (K35.out.2.nw g))
  replace K37 := Lib.hid (And.intro (K37.out.1.nw g) (K37.out.2.nw g))
  replace K43 := Lib.hid (And.intro (K43.out.1.nw g) (K43.out.2.nw g))
  replace HI := Lib.hid (HI.out.nw g)
  replace G := Lib.hid (G.out.trans g)
  clear hb hz hBs g gg
  -- region 24
  have HC := Lib.hid (kOwnHead 0 (-1) 1 (.slice a5 3 k5) nq3 u23 (by simp) K1.out.2)
  unfold hdV at HC
  have c0 := hcell (j := 0) K1.out.1
  have c1 := hcell (j := 1) K1.out.1
  have c2 := hcell (j := 2) K1.out.1
  have c3 := hcell (j := 3) K1.out.1
  have hl := hlt K1.out.1
  go_wp2_with fail
  rw [HU.out.1, HU.out.2]
  clear HU
  clear e0 e1 e2 e3 el
  go_wp2_with fail
  go_at_call 16
  refine HC.out.mono ?_
  rintro e x24 ⟨v, rfl, gg, hO⟩
  clear c0 c1 c2 c3 hl HC
  obtain ⟨g9, k24, hv, hg9, hg9l, hce⟩ := RqOwn.at hO (k := 2) (by simp)
  simp only [List.length_cons, List.length_nil, Nat.reduceAdd] at hv
  subst hv
  have cX : x24.cell? ⟨g9, 14, none⟩ = some (.int .i64 1) := own_cell hO rfl 2 (by simp) 4 _ rfl
  have fX : x24.frozen? ⟨g9, 14, none⟩ = false := own_frz hO rfl 14
  have lX : g9 < x24.heap.size := olt hO rfl
  have hO2 := own_upd hO rfl 2 (by simp) 4 (by omega) (.int .i64 9) ⟨2, 3, 0, 6, 9⟩ rfl
  change RqOwn (x24.setCell ⟨g9, 14, none⟩ (.int .i64 9)) _ _ _ at hO2
  have g1 : Nw u23 (x24.setCell ⟨g9, 14, none⟩ (.int .i64 9)) := gg.st hg9 _
  have hsz : (x24.setCell ⟨g9, 14, none⟩ (.int .i64 9)).heap.size = x24.heap.size := by simp [World.setCell]
  obtain ⟨y24, hy⟩ : ∃ z, x24.setCell ⟨g9, 14, none⟩ (.int .i64 9) = z := ⟨_, rfl⟩
  rw [hy] at hO2 g1 hsz
  have hb := HB.made y24 0 (-1) (.slice (some ⟨g9, 0, none⟩) 3 k24) 1
  have hO3 := (RqOwn.rd hO2).nw ((Nw.refl y24).alloc (.cells #[.int .i64 0, .int .i64 (-1), .slice (some ⟨g9, 0, none⟩) 3 k24, .int .i64 1] 27))
  have hs2 : (y24.alloc (.cells #[.int .i64 0, .int .i64 (-1), .slice (some ⟨g9, 0, none⟩) 3 k24, .int .i64 1] 27)).heap.size = x24.heap.size + 1 := by rw [← hsz]; simp
  obtain ⟨u25, hz⟩ : ∃ z, y24.alloc (.cells #[.int .i64 0, .int .i64 (-1), .slice (some ⟨g9, 0, none⟩) 3 k24, .int .i64 1] 27) = z := ⟨_, rfl⟩
  have g2 : Nw u23 u25 := by rw [← hz]; exact g1.alloc _
  rw [hz] at hb hO3 hs2
  rw [hsz] at hb
  obtain ⟨B49, hBs⟩ : ∃ B, x24.heap.size = B := ⟨_, rfl⟩
  rw [hBs] at hb
  have K49 := Lib.hid (And.intro hb hO3)
  replace KX := Lib.hid (g2.at' KX.out)
  replace K1 := Lib.hid (And.intro (K1.out.1.nw g2) (K1.out.2.nw g2))
  replace K4 := Lib.hid (And.intro (K4.out.1.nw g2) (K4.out.2.nw g2))
  replace K7 := Lib.hid (And.intro (K7.out.1.nw g2) (K7.out.2.nw g2))
  replace K33 := Lib.hid (And.intro (K33.out.1.nw g2) (K33.out.2.nw g2))
  replace K35 := Lib.hid (And.intro (K35.out.1.nw g2) (K35.out.2.nw g2))
  replace K37 := Lib.hid (And.intro (K37.out.1.nw g2) (K37.out.2.nw g2))
  replace K43 := Lib.hid (And.intro (K43.out.1.nw g2) (K43.out.2.nw g2))
  replace HI := Lib.hid (HI.out.nw g2)
  replace G := Lib.hid (G.out.trans g2)
  have HU := Lib.hid (And.intro hy (And.intro hz (And.intro hs2.symm hBs)))
  clear hz hBs hy gg g1 g2 hO2 hO hO3 hce hsz hs2 hb
  go_wp2_with fail
  rw [HU.out.1, HU.out.2.1, HU.out.2.2.1, HU.out.2.2.2]
  clear HU cX fX lX
  obtain ⟨S, hSe⟩ : ∃ S, S = Nw u25 := ⟨_, rfl⟩
  have hS0 : HdW S u25 := by subst hSe; exact Nw.refl _
  have p0 : ∀ y, HdW S y → y.cell? ⟨B33, 0, none⟩ = some (.int .i64 0) := fun y h => by subst hSe; exact h.kp (hcell (j := 0) K33.out.1)
  have p1 : ∀ y, HdW S y → y.cell? ⟨B33, 1, none⟩ = some (.int .i64 (-1)) := fun y h => by subst hSe; exact h.kp (hcell (j := 1) K33.out.1)
  have p2 : ∀ y, HdW S y → y.cell? ⟨B33, 2, none⟩ = some (.slice a16 2 k16) := fun y h => by subst hSe; exact h.kp (hcell (j := 2) K33.out.1)
  have p3 : ∀ y, HdW S y → y.cell? ⟨B33, 3, none⟩ = some (.int .i64 2) := fun y h => by subst hSe; exact h.kp (hcell (j := 3) K33.out.1)
  have q2 : ∀ y, HdW S y → y.cell? ⟨B35, 2, none⟩ = some (.slice a17 3 k17) := fun y h => by subst hSe; exact h.kp (hcell (j := 2) K35.out.1)
  have r0 : ∀ y, HdW S y → y.cell? ⟨B1, 0, none⟩ = some (.int .i64 0) := fun y h => by subst hSe; exact h.kp (hcell (j := 0) K1.out.1)
  have r1 : ∀ y, HdW S y → y.cell? ⟨B1, 1, none⟩ = some (.int .i64 (-1)) := fun y h => by subst hSe; exact h.kp (hcell (j := 1) K1.out.1)
  have r2 : ∀ y, HdW S y → y.cell? ⟨B1, 2, none⟩ = some (.slice a5 3 k5) := fun y h => by subst hSe; exact h.kp (hcell (j := 2) K1.out.1)
  have r3 : ∀ y, HdW S y → y.cell? ⟨B1, 3, none⟩ = some (.int .i64 1) := fun y h => by subst hSe; exact h.kp (hcell (j := 3) K1.out.1)
  have s2 : ∀ y, HdW S y → y.cell? ⟨B37, 2, none⟩ = some (.slice a18 2 k18) := fun y h => by subst hSe; exact h.kp (hcell (j := 2) K37.out.1)
  have t0 : ∀ y, HdW S y → y.cell? ⟨B43, 0, none⟩ = some (.int .i64 0) := fun y h => by subst hSe; exact h.kp (hcell (j := 0) K43.out.1)
  have t1 : ∀ y, HdW S y → y.cell? ⟨B43, 1, none⟩ = some (.int .i64 (-1)) := fun y h => by subst hSe; exact h.kp (hcell (j := 1) K43.out.1)
  have t2 : ∀ y, HdW S y → y.cell? ⟨B43, 2, none⟩ = some (.slice a21 3 k21) := fun y h => by subst hSe; exact h.kp (hcell (j := 2) K43.out.1)
  have t3 : ∀ y, HdW S y → y.cell? ⟨B43, 3, none⟩ = some (.int .i64 1) := fun y h => by subst hSe; exact h.kp (hcell (j := 3) K43.out.1)
  have f0 : ∀ y, HdW S y → y.cell? ⟨B4, 0, none⟩ = some (.int .i64 0) := fun y h => by subst hSe; exact h.kp (hcell (j := 0) K4.out.1)
  have f1 : ∀ y, HdW S y → y.cell? ⟨B4, 1, none⟩ = some (.int .i64 (-1)) := fun y h => by subst hSe; exact h.kp (hcell (j := 1) K4.out.1)
  have f2 : ∀ y, HdW S y → y.cell? ⟨B4, 2, none⟩ = some (.slice a6 3 k6) := fun y h => by subst hSe; exact h.kp (hcell (j := 2) K4.out.1)
  have f3 : ∀ y, HdW S y → y.cell? ⟨B4, 3, none⟩ = some (.int .i64 2) := fun y h => by subst hSe; exact h.kp (hcell (j := 3) K4.out.1)
  have m0 : ∀ y, HdW S y → y.cell? ⟨B7, 0, none⟩ = some (.int .i64 0) := fun y h => by subst hSe; exact h.kp (hcell (j := 0) K7.out.1)
  have m1 : ∀ y, HdW S y → y.cell? ⟨B7, 1, none⟩ = some (.int .i64 (-1)) := fun y h => by subst hSe; exact h.kp (hcell (j := 1) K7.out.1)
  have m2 : ∀ y, HdW S y → y.cell? ⟨B7, 2, none⟩ = some (.slice a7 3 k7) := fun y h => by subst hSe; exact h.kp (hcell (j := 2) K7.out.1)
  have m3 : ∀ y, HdW S y → y.cell? ⟨B7, 3, none⟩ = some (.int .i64 3) := fun y h => by subst hSe; exact h.kp (hcell (j := 3) K7.out.1)
  have n0 : ∀ y, HdW S y → y.cell? ⟨B49, 0, none⟩ = some (.int .i64 0) := fun y h => by subst hSe; exact h.kp (hcell (j := 0) K49.out.1)
  have n1 : ∀ y, HdW S y → y.cell? ⟨B49, 1, none⟩ = some (.int .i64 (-1)) := fun y h => by subst hSe; exact h.kp (hcell (j := 1) K49.out.1)
  have n2 : ∀ y, HdW S y → y.cell? ⟨B49, 2, none⟩ = some (.slice (some ⟨g9, 0, none⟩) 3 k24) := fun y h => by subst hSe; exact h.kp (hcell (j := 2) K49.out.1)
  have n3 : ∀ y, HdW S y → y.cell? ⟨B49, 3, none⟩ = some (.int .i64 1) := fun y h => by subst hSe; exact h.kp (hcell (j := 3) K49.out.1)
  have x0 : ∀ y, HdW S y → y.cell? ⟨B47, 0, none⟩ = some (.int .i64 0) := fun y h => by subst hSe; exact h.kp (hcell (j := 0) KX.out)
  have x1 : ∀ y, HdW S y → y.cell? ⟨B47, 1, none⟩ = some (.int .i64 1) := fun y h => by subst hSe; exact h.kp (hcell (j := 1) KX.out)
  have x2 : ∀ y, HdW S y → y.cell? ⟨B47, 2, none⟩ = some (.int .i64 3) := fun y h => by subst hSe; exact h.kp (hcell (j := 2) KX.out)
  have x3 : ∀ y, HdW S y → y.cell? ⟨B47, 3, none⟩ = some (.int .i64 6) := fun y h => by subst hSe; exact h.kp (hcell (j := 3) KX.out)
  have x4 : ∀ y, HdW S y → y.cell? ⟨B47, 4, none⟩ = some (.int .i64 2) := fun y h => by subst hSe; exact h.kp (hcell (j := 4) KX.out)
  have HN := Lib.hid (show ∀ a b, HdW S a → Nw a b → HdW S b from fun a b h g => by subst hSe; exact Nw.trans h g)
  have HV := Lib.hid (show ∀ a, HdW S a → Nw w a from fun a h => by subst hSe; exact G.out.trans h)
  have HIs := Lib.hid (show ∀ a, HdW S a → IS a (.slice ai 1 ci) [0] from fun a h => by subst hSe; exact HI.out.nw h)
  have RK33 := Lib.hid (show ∀ a, HdW S a → RqAt a (.slice a16 2 k16) nqD from fun a h => by subst hSe; exact K33.out.2.nw h)
  have RK35 := Lib.hid (show ∀ a, HdW S a → RqAt a (.slice a17 3 k17) nq3 from fun a h => by subst hSe; exact K35.out.2.nw h)
  have RK1 := Lib.hid (show ∀ a, HdW S a → RqAt a (.slice a5 3 k5) nq3 from fun a h => by subst hSe; exact K1.out.2.nw h)
  have RK43 := Lib.hid (show ∀ a, HdW S a → RqAt a (.slice a21 3 k21) nqH from fun a h => by subst hSe; exact K43.out.2.nw h)
  have RK4 := Lib.hid (show ∀ a, HdW S a → RqAt a (.slice a6 3 k6) nqU from fun a h => by subst hSe; exact K4.out.2.nw h)
  have RK7 := Lib.hid (show ∀ a, HdW S a → RqAt a (.slice a7 3 k7) nqV from fun a h => by subst hSe; exact K7.out.2.nw h)
  have RK49 := Lib.hid (show ∀ a, HdW S a → RqAt a (.slice (some ⟨g9, 0, none⟩) 3 k24) nqB from fun a h => by subst hSe; exact K49.out.2.nw h)
  have M1 := Lib.hid (show ∀ a, HdW S a → Calls Try.prog 18 #[.agg #[.int .i64 0, .int .i64 (-1), .slice a16 2 k16, .int .i64 2], .int .i64 1] a fun e w' => e = .returned (.int .i64 6) ∧ Nw a w' from fun a h => by have := dMode 0 (-1) 2 1 (.slice a16 2 k16) nqD a (by simp) (RK33.out a h); rw [nm1] at this; exact this)
  have M2 := Lib.hid (show ∀ a, HdW S a → Calls Try.prog 18 #[.agg #[.int .i64 0, .int .i64 (-1), .slice a21 3 k21, .int .i64 1], .int .i64 (-5)] a fun e w' => e = .returned (.int .i64 3) ∧ Nw a w' from fun a h => by have := dMode 0 (-1) 1 (-5) (.slice a21 3 k21) nqH a (by simp) (RK43.out a h); rw [nm2] at this; exact this)
  have SQ := Lib.hid (show ∀ a, HdW S a → Calls Try.prog 19 #[.slice a17 3 k17, .slice a5 3 k5] a fun e w' => e = .returned (.bool true) ∧ Nw a w' from fun a h => (kSameRq (.slice a17 3 k17) (.slice a5 3 k5) nq3 nq3 a (by simp) (RK35.out a h) (RK1.out a h)).mono fun e w' hh => by obtain ⟨f, rfl, g, hf⟩ := hh; exact ⟨by rw [hf.2 rfl], g⟩)
  have L1 := Lib.hid (show ∀ a, HdW S a → Calls Try.prog 20 #[.agg #[.int .i64 0, .int .i64 (-1), .slice a6 3 k6, .int .i64 2], .int .i64 0] a fun e w' => ∃ v', e = .returned v' ∧ Nw a w' ∧ IS w' v' [2] from fun a h => by have := dBlockers 0 (-1) 2 0 (.slice a6 3 k6) nqU a (by simp) noU (RK4.out a h); rw [nk1] at this; exact this)
  have L2 := Lib.hid (show ∀ a, HdW S a → Calls Try.prog 20 #[.agg #[.int .i64 0, .int .i64 (-1), .slice a7 3 k7, .int .i64 3], .int .i64 1] a fun e w' => ∃ v', e = .returned v' ∧ Nw a w' ∧ IS w' v' [1] from fun a h => by have := dBlockers 0 (-1) 3 1 (.slice a7 3 k7) nqV a (by simp) noV (RK7.out a h); rw [nk2] at this; exact this)
  have L3 := Lib.hid (show ∀ a, HdW S a → Calls Try.prog 20 #[.agg #[.int .i64 0, .int .i64 (-1), .slice a6 3 k6, .int .i64 2], .int .i64 2] a fun e w' => ∃ v', e = .returned v' ∧ Nw a w' ∧ IS w' v' [1, 2] from fun a h => by have := dBlockers 0 (-1) 2 2 (.slice a6 3 k6) nqU a (by simp) noU (RK4.out a h); rw [nk3] at this; exact this)
  have L4 := Lib.hid (show ∀ a, HdW S a → Calls Try.prog 20 #[.agg #[.int .i64 0, .int .i64 (-1), .slice a5 3 k5, .int .i64 1], .int .i64 0] a fun e w' => ∃ v', e = .returned v' ∧ Nw a w' ∧ IS w' v' [] from fun a h => by have := dBlockers 0 (-1) 1 0 (.slice a5 3 k5) nq3 a (by simp) no3 (RK1.out a h); rw [nk4] at this; exact this)
  have GG := Lib.hid (show ∀ a, HdW S a → Calls Try.prog 21 #[.agg #[.int .i64 0, .int .i64 (-1), .slice a6 3 k6, .int .i64 2]] a fun e w' => e = .returned (.int .i64 3) ∧ Nw a w' from fun a h => by have := dGroup 0 (-1) 2 (.slice a6 3 k6) nqU a (by simp) (fun R hR => (noU.rt R hR).md) (RK4.out a h); rw [ng1] at this; exact this)
  have C1 := Lib.hid (show ∀ a, HdW S a → Calls Try.prog 22 #[.agg #[.int .i64 0, .int .i64 (-1), .slice a5 3 k5, .int .i64 1]] a fun e w' => e = .returned (.int .i64 0) ∧ Nw a w' from fun a h => by have := dCheck 0 (-1) 1 (.slice a5 3 k5) nq3 a (by simp) (fitN nq3 (by kernel_rfl)) (RK1.out a h); rw [nc1] at this; exact this)
  have C2 := Lib.hid (show ∀ a, HdW S a → Calls Try.prog 22 #[.agg #[.int .i64 0, .int .i64 (-1), .slice (some ⟨g9, 0, none⟩) 3 k24, .int .i64 1]] a fun e w' => e = .returned (.int .i64 2) ∧ Nw a w' from fun a h => by have := dCheck 0 (-1) 1 (.slice (some ⟨g9, 0, none⟩) 3 k24) nqB a (by simp) (fitN nqB (by kernel_rfl)) (RK49.out a h); rw [nc2] at this; exact this)
  have S1 := Lib.hid (show ∀ a, HdW S a → Calls Try.prog 23 #[.agg #[.int .i64 0, .int .i64 (-1), .slice a5 3 k5, .int .i64 1], .agg #[.int .i64 0, .int .i64 (-1), .slice a5 3 k5, .int .i64 1]] a fun e w' => e = .returned (.bool true) ∧ Nw a w' from fun a h => (dSame 0 (-1) 1 0 (-1) 1 (.slice a5 3 k5) (.slice a5 3 k5) nq3 nq3 a (by simp) (RK1.out a h) (RK1.out a h)).mono fun e w' hh => by obtain ⟨f, rfl, g, hf⟩ := hh; exact ⟨by rw [hf.2 ⟨rfl, rfl, rfl, rfl⟩], g⟩)
  have S2 := Lib.hid (show ∀ a, HdW S a → Calls Try.prog 23 #[.agg #[.int .i64 0, .int .i64 (-1), .slice a5 3 k5, .int .i64 1], .agg #[.int .i64 0, .int .i64 (-1), .slice a6 3 k6, .int .i64 2]] a fun e w' => e = .returned (.bool false) ∧ Nw a w' from fun a h => (dSame 0 (-1) 1 0 (-1) 2 (.slice a5 3 k5) (.slice a6 3 k6) nq3 nqU a (by simp) (RK1.out a h) (RK4.out a h)).mono fun e w' hh => by obtain ⟨f, rfl, g, hf⟩ := hh; exact ⟨by rw [show f = false from Bool.eq_false_iff.2 fun e => absurd (hf.1 e).2.2.1 (by decide)], g⟩)
  clear hSe K1 K4 K7 K33 K35 K37 K43 K49 KX HI G HBw HB3 HU3
  clear RK33 RK35 RK1 RK43 RK4 RK7 RK49
  go_at_call 17
  refine (same_any _ _ _ [0] (IS.nw (HIs.out _ hS0) ((Nw.refl _).alloc _)) (is_one _ 0)).mono ?_
  rintro e y1 ⟨rfl, g⟩
  have hS1 := HN.out _ _ hS0 (((Nw.refl _).alloc _).trans g)
  clear g hS0
  go_wp2_with fail
  go_at_call 18
  refine (M1.out _ hS1).mono ?_
  rintro e y2 ⟨rfl, g⟩
  have hS2 := HN.out _ _ hS1 (g)
  clear g hS1
  go_wp2_with fail
  go_at_call 19
  refine (SQ.out _ hS2).mono ?_
  rintro e y3 ⟨rfl, g⟩
  have hS3 := HN.out _ _ hS2 (g)
  clear g hS2
  go_wp2_with fail
  go_at_call 18
  refine (M2.out _ hS3).mono ?_
  rintro e y4 ⟨rfl, g⟩
  have hS4 := HN.out _ _ hS3 (g)
  clear g hS3
  go_wp2_with fail
  go_at_call 20
  refine (L1.out _ hS4).mono ?_
  rintro e y5 ⟨v, rfl, g, hp⟩
  have hS5 := HN.out _ _ hS4 (g)
  clear g hS4
  go_wp2_with fail
  go_at_call 17
  refine (same_any _ _ _ [2] (IS.nw hp ((Nw.refl _).alloc _)) (is_one _ 2)).mono ?_
  rintro e y6 ⟨rfl, g⟩
  have hS6 := HN.out _ _ hS5 (((Nw.refl _).alloc _).trans g)
  clear g hS5
  clear hp
  go_wp2_with fail
  go_at_call 20
  refine (L2.out _ hS6).mono ?_
  rintro e y7 ⟨v, rfl, g, hp⟩
  have hS7 := HN.out _ _ hS6 (g)
  clear g hS6
  go_wp2_with fail
  go_at_call 17
  refine (same_any _ _ _ [1] (IS.nw hp ((Nw.refl _).alloc _)) (is_one _ 1)).mono ?_
  rintro e y8 ⟨rfl, g⟩
  have hS8 := HN.out _ _ hS7 (((Nw.refl _).alloc _).trans g)
  clear g hS7
  clear hp
  go_wp2_with fail
  go_at_call 20
  refine (L3.out _ hS8).mono ?_
  rintro e y9 ⟨v, rfl, g, hp⟩
  have hS9 := HN.out _ _ hS8 (g)
  clear g hS8
  go_wp2_with fail
  go_at_call 17
  refine (same_any _ _ _ [1, 2] (IS.nw hp ((Nw.refl _).alloc _)) (is_two _ 1 2)).mono ?_
  rintro e y10 ⟨rfl, g⟩
  have hS10 := HN.out _ _ hS9 (((Nw.refl _).alloc _).trans g)
  clear g hS9
  clear hp
  go_wp2_with fail
  go_at_call 20
  refine (L4.out _ hS10).mono ?_
  rintro e y11 ⟨v, rfl, g, hp⟩
  have hS11 := HN.out _ _ hS10 (g)
  clear g hS10
  obtain ⟨a4x, c4x, hv4, _⟩ := hp.box
  subst hv4
  simp only [List.length_nil]
  clear hp
  go_wp2_with fail
  go_at_call 21
  refine (GG.out _ hS11).mono ?_
  rintro e y12 ⟨rfl, g⟩
  have hS12 := HN.out _ _ hS11 (g)
  clear g hS11
  go_wp2_with fail
  go_at_call 22
  refine (C1.out _ hS12).mono ?_
  rintro e y13 ⟨rfl, g⟩
  have hS13 := HN.out _ _ hS12 (g)
  clear g hS12
  go_wp2_with fail
  go_at_call 22
  refine (C2.out _ hS13).mono ?_
  rintro e y14 ⟨rfl, g⟩
  have hS14 := HN.out _ _ hS13 (g)
  clear g hS13
  go_wp2_with fail
  go_at_call 23
  refine (S1.out _ hS14).mono ?_
  rintro e y15 ⟨rfl, g⟩
  have hS15 := HN.out _ _ hS14 (g)
  clear g hS14
  go_wp2_with fail
  go_at_call 23
  refine (S2.out _ hS15).mono ?_
  rintro e y16 ⟨rfl, g⟩
  have hS16 := HN.out _ _ hS15 (g)
  clear g hS15
  have hZ := HV.out _ hS16
  go_wp2
  go_ret
  exact ⟨rfl, hZ⟩
end Go.Proofs.Ytmciiobncfchlaa
end
