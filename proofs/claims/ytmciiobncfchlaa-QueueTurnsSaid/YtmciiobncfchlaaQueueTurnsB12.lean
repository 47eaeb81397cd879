/- Texts merged: QvT, QuU -/
import Derived.Test.YtmciiobncfchlaaQueueTurnsB11

/- Law 9: empty, lives; the kit's LightHeads. -/
section
namespace Go.Proofs.Ytmciiobncfchlaa
open Go.RowKit
set_option linter.unusedVariables false      -- a contract need not use every name

theorem stOk_small (q : List Rq) (h : q.length ≤ 20) : StOk (tC q) (wpl q q.length) := stOk_20 _ _ (Nat.le_trans (wpl_len q _) h)
/-- A head in a box. -/
def HB (w : World) (B : Nat) (t r : Int) (v : Value) (W : Int) : Prop := w.heap[B]? = some (.cells #[.int .i64 t, .int .i64 r, v, .int .i64 W] 27)
abbrev filld (w : World) (B : Nat) (u0 u1 u2 u3 : Value) : World := (((w.setCell ⟨B, 0, none⟩ u0).setCell ⟨B, 1, none⟩ u1).setCell ⟨B, 2, none⟩ u2).setCell ⟨B, 3, none⟩ u3
theorem HB.fill {w : World} {B : Nat} {t r W : Int} {v : Value} (h : HB w B t r v W) (t' r' W' : Int) (v' : Value) : HB (filld w B (.int .i64 t') (.int .i64 r') v' (.int .i64 W')) B t' r' v' W' :=
  hset (j := 3) _ (hset (j := 2) _ (hset (j := 1) _ (hset (j := 0) _ h)))
theorem HB.made (w : World) (t r : Int) (v : Value) (W : Int) : HB (w.alloc (.cells #[.int .i64 t, .int .i64 r, v, .int .i64 W] 27)) w.heap.size t r v W := allocAt w _
theorem HB.nw {w w' : World} {B : Nat} {t r W : Int} {v : Value} (h : HB w B t r v W) (g : Nw w w') : HB w' B t r v W := g.at' h
/-- A result stored in a box that is older. -/
theorem is_one (w : World) (x : Int) : IS (w.alloc (.cells #[.int .i64 x] 3)) (.slice (some ⟨w.heap.size, 0, none⟩) 1 1) [x] := by
  have h := World.ownsRow_lit (base := 0) (size := 1) (e := 3) w #[.int .i64 x] 1 (Nat.zero_le _) (by unfold maxLen; omega) (by simp)
  unfold IS
  simpa using h
theorem rd_fill' {w0 w : World} {v : Value} {q : List Rq} (h : RqAt w v q) (hf : Fresh w0 v q) {B : Nat} (hB : B < w0.heap.size) (u0 u1 u2 u3 : Value) : RqAt (filld w B u0 u1 u2 u3) v q := rd_fill h hf hB u0 u1 u2 u3
set_option maxRecDepth 100000 in
theorem kT (x : Int) (w : World) : Calls Try.prog 31 #[.int .i64 x] w fun e w' => e = .returned (.agg #[.int .i64 x, .int .i64 (-1)]) ∧ Nw w w' := by
  go_enter Try.func31, Try.ntmps31
  go_wp2
  refine bodyPost_ret (v := .agg #[.int .i64 x, .int .i64 (-1)]) (by simp [results, Try.results31, go_sem, *]) rfl ⟨rfl, ?_⟩
  exact (Nw.refl w).alloc _
set_option maxRecDepth 100000 in
theorem lEmpty (w : World) : Calls Try.prog 9 #[] w fun e w' => e = .returned (hdV 0 (-1) (.slice none 0 0) 0) ∧ Nw w w' := by
  have HT := Lib.hid (kT 0)
  have hb := HB.made w 0 0 (.slice none 0 0) 0
  have hN : Nw w (w.alloc (.cells #[.int .i64 0, .int .i64 0, .slice none 0 0, .int .i64 0] 27)) := (Nw.refl w).alloc _
  go_enter Try.func9, Try.ntmps9
  go_wp2_with fail
  go_at_call 31
  refine (HT.out _).mono ?_
  rintro e w1 ⟨rfl, g⟩
  have hb1 := hb.nw g
  have d0 := hcell (j := 0) hb1
  have d1 := hcell (j := 1) hb1
  have d2 := hcell (j := 2) hb1
  have d3 := hcell (j := 3) hb1
  have fz := fun k => hfz (j := k) hb1
  have hl := hlt hb1
  have HN := Lib.hid (hN.trans g)
  clear hb hb1 g hN HT
  go_wp2
  exact bodyPost_ret (v := .agg #[.int .i64 0, .int .i64 (-1), .slice none 0 0, .int .i64 0]) (by simp [results, Try.results9, go_sem, *]) rfl ⟨rfl, fill_nw HN.out (Nat.le_refl _) _ _ _ _⟩
theorem lq0 : Ok 0 [] := (okQ_iff 0 []).1 (by kernel_rfl)
theorem lq1 : Ok 0 [⟨0, 1, 3, 3, 0⟩] := (okQ_iff 0 [⟨0, 1, 3, 3, 0⟩]).1 (by kernel_rfl)
theorem lq2 : Ok 1 [⟨0, 1, 3, 3, 0⟩, ⟨1, 2, 0, 6, 1⟩] := (okQ_iff 1 [⟨0, 1, 3, 3, 0⟩, ⟨1, 2, 0, 6, 1⟩]).1 (by kernel_rfl)
theorem lq3 : Ok 2 [⟨0, 1, 3, 3, 0⟩, ⟨1, 2, 0, 6, 1⟩, ⟨2, 3, 0, 3, 2⟩] := (okQ_iff 2 [⟨0, 1, 3, 3, 0⟩, ⟨1, 2, 0, 6, 1⟩, ⟨2, 3, 0, 3, 2⟩]).1 (by kernel_rfl)
theorem lq4 : Ok 2 [⟨1, 2, 0, 6, 1⟩, ⟨2, 3, 0, 3, 2⟩] := (okQ_iff 2 [⟨1, 2, 0, 6, 1⟩, ⟨2, 3, 0, 3, 2⟩]).1 (by kernel_rfl)
theorem la0 : askR ⟨0, -1, 0, []⟩ 0 1 3 = (⟨0, -1, 0, [⟨0, 1, 3, 3, 0⟩]⟩, true, 0) := by kernel_rfl
theorem la1 : askR ⟨0, -1, 0, [⟨0, 1, 3, 3, 0⟩]⟩ 1 2 6 = (⟨0, -1, 1, [⟨0, 1, 3, 3, 0⟩, ⟨1, 2, 0, 6, 1⟩]⟩, false, 0) := by kernel_rfl
theorem la2 : askR ⟨0, -1, 1, [⟨0, 1, 3, 3, 0⟩, ⟨1, 2, 0, 6, 1⟩]⟩ 2 3 3 = (⟨0, -1, 2, [⟨0, 1, 3, 3, 0⟩, ⟨1, 2, 0, 6, 1⟩, ⟨2, 3, 0, 3, 2⟩]⟩, false, 0) := by kernel_rfl
theorem ll3 : lvR ⟨0, -1, 2, [⟨0, 1, 3, 3, 0⟩, ⟨1, 2, 0, 6, 1⟩, ⟨2, 3, 0, 3, 2⟩]⟩ 0 = (⟨0, -1, 2, [⟨1, 2, 0, 6, 1⟩, ⟨2, 3, 0, 3, 2⟩]⟩, 0) := by kernel_rfl
theorem ls4 : scanQ [⟨1, 2, 0, 6, 1⟩, ⟨2, 3, 0, 3, 2⟩] = ([1], [⟨1, 2, 6, 6, 0⟩, ⟨2, 3, 0, 3, 2⟩]) := by kernel_rfl
theorem lm5 : mdQ [⟨1, 2, 6, 6, 0⟩, ⟨2, 3, 0, 3, 2⟩] 2 = 6 ∧ mdQ [⟨1, 2, 6, 6, 0⟩, ⟨2, 3, 0, 3, 2⟩] 3 = 0 := ⟨by kernel_rfl, by kernel_rfl⟩
set_option maxRecDepth 100000 in
set_option maxHeartbeats 8000000 in
theorem lives_ok (w : World) : Calls Try.prog 7 #[] w fun e w' => e = .returned (.bool true) ∧ Nw w w' := by
  have HEm := Lib.hid lEmpty
  have HA0 := Lib.hid (fun w => dAsk 0 (-1) 0 0 1 3 (.slice none 0 0) [] w (by simp) lq0 (Rd.nil w))
  unfold HD2 at HA0
  rw [la0] at HA0
  unfold hdV at HEm HA0
  go_enter Try.func7, Try.ntmps7
  go_wp2_with fail
  go_at_call 9
  refine (HEm.out _).mono ?_
  rintro e w1 ⟨rfl, g1⟩
  go_wp2_with fail
  go_at_call 8
  refine (HA0.out _).mono ?_
  rintro e w2 ⟨v, rfl, g2, hR, _, hf⟩
  obtain ⟨a, k, hv⟩ := hR.form
  simp only [List.length_cons, List.length_nil, Nat.reduceAdd] at hv
  subst hv
  have hb := HB.made w2 0 (-1) (.slice a 1 k) 0
  have hN : Nw w (w2.alloc (.cells #[.int .i64 0, .int .i64 (-1), .slice a 1 k, .int .i64 0] 27)) := (g1.trans g2).alloc _
  replace hR := hR.nw ((Nw.refl w2).alloc (.cells #[.int .i64 0, .int .i64 (-1), .slice a 1 k, .int .i64 0] 27))
  obtain ⟨B, hB⟩ : ∃ B, w2.heap.size = B := ⟨_, rfl⟩
  have hBw : w.heap.size ≤ B := by rw [← hB]; exact (g1.trans g2).sz
  rw [hB] at hb
  have HW := Lib.hid hB
  obtain ⟨u1, hw3⟩ : ∃ u1, w2.alloc (.cells #[.int .i64 0, .int .i64 (-1), .slice a 1 k, .int .i64 0] 27) = u1 := ⟨_, rfl⟩
  have HW3 := Lib.hid hw3
  rw [hw3] at hb hN hR
  have H1 := Lib.hid (And.intro hb (And.intro hN hR))
  clear hB hw3 hf g1 g2 hb hN hR
  have HC1 := Lib.hid (dAsk 0 (-1) 0 1 2 6 (.slice a 1 k) [⟨0, 1, 3, 3, 0⟩] u1 (by simp) lq1 H1.out.2.2)
  unfold HD2 at HC1
  rw [la1] at HC1
  unfold hdV at HC1
  have c0 := hcell (j := 0) H1.out.1
  have c1 := hcell (j := 1) H1.out.1
  have c2 := hcell (j := 2) H1.out.1
  have c3 := hcell (j := 3) H1.out.1
  have hl := hlt H1.out.1
  go_wp2_with fail
  rw [HW3.out, HW.out]
  go_wp2_with fail
  go_at_call 8
  refine HC1.out.mono ?_
  rintro e u1' ⟨v, rfl, gg, hR, _, hf⟩
  clear c0 c1 c2 c3 hl
  have hb1 := H1.out.1.nw gg
  obtain ⟨a2, k2, hv⟩ := hR.form
  simp only [List.length_cons, List.length_nil, Nat.reduceAdd] at hv
  subst hv
  have d0 := hcell (j := 0) hb1
  have d1 := hcell (j := 1) hb1
  have d2 := hcell (j := 2) hb1
  have d3 := hcell (j := 3) hb1
  have dz := fun k => hfz (j := k) hb1
  have dl := hlt hb1
  obtain ⟨u2, hu2⟩ : ∃ x, filld u1' B (.int .i64 0) (.int .i64 (-1)) (.slice a2 2 k2) (.int .i64 1) = x := ⟨_, rfl⟩
  have H2 := Lib.hid (And.intro (hb1.fill 0 (-1) 1 (.slice a2 2 k2)) (And.intro (fill_nw (H1.out.2.1.trans gg) hBw (.int .i64 0) (.int .i64 (-1)) (.slice a2 2 k2) (.int .i64 1)) (rd_fill' hR hf (hlt H1.out.1) (.int .i64 0) (.int .i64 (-1)) (.slice a2 2 k2) (.int .i64 1))))
  change Hid (HB (filld u1' B (.int .i64 0) (.int .i64 (-1)) (.slice a2 2 k2) (.int .i64 1)) B 0 (-1) (.slice a2 2 k2) 1 ∧ Nw w (filld u1' B (.int .i64 0) (.int .i64 (-1)) (.slice a2 2 k2) (.int .i64 1)) ∧ RqAt (filld u1' B (.int .i64 0) (.int .i64 (-1)) (.slice a2 2 k2) (.int .i64 1)) (.slice a2 2 k2) _) at H2
  rw [hu2] at H2
  have HE2 := Lib.hid hu2
  clear hb1
  clear hu2 gg hR hf HC1
  have HC2 := Lib.hid (dAsk 0 (-1) 1 2 3 3 (.slice a2 2 k2) [⟨0, 1, 3, 3, 0⟩, ⟨1, 2, 0, 6, 1⟩] u2 (by simp) lq2 H2.out.2.2)
  unfold HD2 at HC2
  rw [la2] at HC2
  unfold hdV at HC2
  have c0 := hcell (j := 0) H2.out.1
  have c1 := hcell (j := 1) H2.out.1
  have c2 := hcell (j := 2) H2.out.1
  have c3 := hcell (j := 3) H2.out.1
  have hl := hlt H2.out.1
  go_wp2_with fail
  have hE := HE2.out; unfold filld at hE; rw [hE]; clear hE d0 d1 d2 d3 dz dl
  go_wp2_with fail
  go_at_call 8
  refine HC2.out.mono ?_
  rintro e u2' ⟨v, rfl, gg, hR, _, hf⟩
  clear c0 c1 c2 c3 hl
  have hb2 := H2.out.1.nw gg
  obtain ⟨a3, k3, hv⟩ := hR.form
  simp only [List.length_cons, List.length_nil, Nat.reduceAdd] at hv
  subst hv
  have d0 := hcell (j := 0) hb2
  have d1 := hcell (j := 1) hb2
  have d2 := hcell (j := 2) hb2
  have d3 := hcell (j := 3) hb2
  have dz := fun k => hfz (j := k) hb2
  have dl := hlt hb2
  obtain ⟨u3, hu3⟩ : ∃ x, filld u2' B (.int .i64 0) (.int .i64 (-1)) (.slice a3 3 k3) (.int .i64 2) = x := ⟨_, rfl⟩
  have H3 := Lib.hid (And.intro (hb2.fill 0 (-1) 2 (.slice a3 3 k3)) (And.intro (fill_nw (H2.out.2.1.trans gg) hBw (.int .i64 0) (.int .i64 (-1)) (.slice a3 3 k3) (.int .i64 2)) (rd_fill' hR hf (hlt H2.out.1) (.int .i64 0) (.int .i64 (-1)) (.slice a3 3 k3) (.int .i64 2))))
  change Hid (HB (filld u2' B (.int .i64 0) (.int .i64 (-1)) (.slice a3 3 k3) (.int .i64 2)) B 0 (-1) (.slice a3 3 k3) 2 ∧ Nw w (filld u2' B (.int .i64 0) (.int .i64 (-1)) (.slice a3 3 k3) (.int .i64 2)) ∧ RqAt (filld u2' B (.int .i64 0) (.int .i64 (-1)) (.slice a3 3 k3) (.int .i64 2)) (.slice a3 3 k3) _) at H3
  rw [hu3] at H3
  have HE3 := Lib.hid hu3
  clear hb2
  clear hu3 gg hR hf HC2
  have HC3 := Lib.hid (dLeave 0 (-1) 2 0 (.slice a3 3 k3) [⟨0, 1, 3, 3, 0⟩, ⟨1, 2, 0, 6, 1⟩, ⟨2, 3, 0, 3, 2⟩] u3 (by simp) H3.out.2.2)
  unfold HD1 at HC3
  rw [ll3] at HC3
  unfold hdV at HC3
  have c0 := hcell (j := 0) H3.out.1
  have c1 := hcell (j := 1) H3.out.1
  have c2 := hcell (j := 2) H3.out.1
  have c3 := hcell (j := 3) H3.out.1
  have hl := hlt H3.out.1
  go_wp2_with fail
  have hE := HE3.out; unfold filld at hE; rw [hE]; clear hE d0 d1 d2 d3 dz dl
  go_wp2_with fail
  go_at_call 11
  refine HC3.out.mono ?_
  rintro e u3' ⟨v, rfl, gg, hR, _, hf⟩
  clear c0 c1 c2 c3 hl
  have hb3 := H3.out.1.nw gg
  obtain ⟨a4, k4, hv⟩ := hR.form
  simp only [List.length_cons, List.length_nil, Nat.reduceAdd] at hv
  subst hv
  have d0 := hcell (j := 0) hb3
  have d1 := hcell (j := 1) hb3
  have d2 := hcell (j := 2) hb3
  have d3 := hcell (j := 3) hb3
  have dz := fun k => hfz (j := k) hb3
  have dl := hlt hb3
  obtain ⟨u4, hu4⟩ : ∃ x, filld u3' B (.int .i64 0) (.int .i64 (-1)) (.slice a4 2 k4) (.int .i64 2) = x := ⟨_, rfl⟩
  have H4 := Lib.hid (And.intro (hb3.fill 0 (-1) 2 (.slice a4 2 k4)) (And.intro (fill_nw (H3.out.2.1.trans gg) hBw (.int .i64 0) (.int .i64 (-1)) (.slice a4 2 k4) (.int .i64 2)) (rd_fill' hR hf (hlt H3.out.1) (.int .i64 0) (.int .i64 (-1)) (.slice a4 2 k4) (.int .i64 2))))
  change Hid (HB (filld u3' B (.int .i64 0) (.int .i64 (-1)) (.slice a4 2 k4) (.int .i64 2)) B 0 (-1) (.slice a4 2 k4) 2 ∧ Nw w (filld u3' B (.int .i64 0) (.int .i64 (-1)) (.slice a4 2 k4) (.int .i64 2)) ∧ RqAt (filld u3' B (.int .i64 0) (.int .i64 (-1)) (.slice a4 2 k4) (.int .i64 2)) (.slice a4 2 k4) _) at H4
  rw [hu4] at H4
  have HE4 := Lib.hid hu4
  clear hb3
  clear hu4 gg hR hf HC3
  have HC4 := Lib.hid (dScan 0 (-1) 2 (.slice a4 2 k4) [⟨1, 2, 0, 6, 1⟩, ⟨2, 3, 0, 3, 2⟩] u4 (by simp) lq4 H4.out.2.2 (stOk_small [⟨1, 2, 0, 6, 1⟩, ⟨2, 3, 0, 3, 2⟩] (by simp)))
  simp only [ls4] at HC4
  unfold hdV at HC4
  have c0 := hcell (j := 0) H4.out.1
  have c1 := hcell (j := 1) H4.out.1
  have c2 := hcell (j := 2) H4.out.1
  have c3 := hcell (j := 3) H4.out.1
  have hl := hlt H4.out.1
  go_wp2_with fail
  have hE := HE4.out; unfold filld at hE; rw [hE]; clear hE d0 d1 d2 d3 dz dl
  go_wp2_with fail
  go_at_call 12
  refine HC4.out.mono ?_
  rintro e u4' ⟨v, vi, rfl, gg, hR, _, hI, hf, hif⟩
  clear c0 c1 c2 c3 hl
  have hb4 := H4.out.1.nw gg
  obtain ⟨a5, k5, hv⟩ := hR.form
  simp only [List.length_cons, List.length_nil, Nat.reduceAdd] at hv
  subst hv
  have d0 := hcell (j := 0) hb4
  have d1 := hcell (j := 1) hb4
  have d2 := hcell (j := 2) hb4
  have d3 := hcell (j := 3) hb4
  have dz := fun k => hfz (j := k) hb4
  have dl := hlt hb4
  obtain ⟨u5, hu5⟩ : ∃ x, filld u4' B (.int .i64 0) (.int .i64 (-1)) (.slice a5 2 k5) (.int .i64 2) = x := ⟨_, rfl⟩
  have H5 := Lib.hid (And.intro (hb4.fill 0 (-1) 2 (.slice a5 2 k5)) (And.intro (fill_nw (H4.out.2.1.trans gg) hBw (.int .i64 0) (.int .i64 (-1)) (.slice a5 2 k5) (.int .i64 2)) (rd_fill' hR hf (hlt H4.out.1) (.int .i64 0) (.int .i64 (-1)) (.slice a5 2 k5) (.int .i64 2))))
  change Hid (HB (filld u4' B (.int .i64 0) (.int .i64 (-1)) (.slice a5 2 k5) (.int .i64 2)) B 0 (-1) (.slice a5 2 k5) 2 ∧ Nw w (filld u4' B (.int .i64 0) (.int .i64 (-1)) (.slice a5 2 k5) (.int .i64 2)) ∧ RqAt (filld u4' B (.int .i64 0) (.int .i64 (-1)) (.slice a5 2 k5) (.int .i64 2)) (.slice a5 2 k5) _) at H5
  rw [hu5] at H5
  have HE5 := Lib.hid hu5
  clear hb4
  have HI := Lib.hid (And.intro hI (And.intro hif (hlt H4.out.1)))
  clear hu5 gg hR hf HC4 hI hif
  have hI5 : IS u5 vi [1] := by
    rw [← HE5.out]
    exact is_fill HI.out.1 (fun g e => by have := HI.out.2.1 g e; have := HI.out.2.2; omega) _ _ _ _
  obtain ⟨ai, ci, hvi, _⟩ := HI.out.1.box
  subst hvi
  simp only [List.length_cons, List.length_nil, Nat.reduceAdd] at hI5
  have hI6 := hI5.nw ((Nw.refl u5).alloc (.cells #[.int .i64 1] 3))
  have hI7 : IS (u5.alloc (.cells #[.int .i64 1] 3)) (.slice (some ⟨u5.heap.size, 0, none⟩) 1 1) [1] := is_one u5 1
  have HSm := Lib.hid (same_any _ _ _ [1] hI6 hI7)
  have HMo := Lib.hid (fun (x : World) (g : Nw u5 x) (t : Int) => dMode 0 (-1) 2 t (.slice a5 2 k5) [⟨1, 2, 6, 6, 0⟩, ⟨2, 3, 0, 3, 2⟩] x (by simp) (H5.out.2.2.nw g))
  unfold hdV at HMo
  have M1 := Lib.hid (fun (x : World) (g : Nw u5 x) => HMo.out x g 2)
  have M2 := Lib.hid (fun (x : World) (g : Nw u5 x) => HMo.out x g 3)
  rw [lm5.1] at M1
  rw [lm5.2] at M2
  clear HMo hI5 hI6 hI7
  go_wp2_with fail
  have hE := HE5.out
  unfold filld at hE
  rw [hE]
  clear hE d0 d1 d2 d3 dz dl
  have hsz : u4'.heap.size = u5.heap.size := by rw [← HE5.out]; simp [World.setCell]
  rw [hsz]
  clear hsz
  go_at_call 17
  refine HSm.out.mono ?_
  rintro e x1 ⟨rfl, s1⟩
  have t1 : Nw u5 x1 := ((Nw.refl u5).alloc _).trans s1
  have c0 := hcell (j := 0) (H5.out.1.nw t1)
  have c1 := hcell (j := 1) (H5.out.1.nw t1)
  have c2 := hcell (j := 2) (H5.out.1.nw t1)
  have c3 := hcell (j := 3) (H5.out.1.nw t1)
  have hl := hlt (H5.out.1.nw t1)
  have T1 := Lib.hid t1
  clear s1 t1
  go_wp2_with fail
  go_at_call 18
  refine (M1.out _ T1.out).mono ?_
  rintro e x2 ⟨rfl, s2⟩
  have T2 := Lib.hid (T1.out.trans s2)
  clear c0 c1 c2 c3 hl
  have c0 := hcell (j := 0) (H5.out.1.nw T2.out)
  have c1 := hcell (j := 1) (H5.out.1.nw T2.out)
  have c2 := hcell (j := 2) (H5.out.1.nw T2.out)
  have c3 := hcell (j := 3) (H5.out.1.nw T2.out)
  have hl := hlt (H5.out.1.nw T2.out)
  clear s2
  go_wp2_with fail
  go_at_call 18
  refine (M2.out _ T2.out).mono ?_
  rintro e x3 ⟨rfl, s3⟩
  go_wp2
  go_ret
  exact ⟨rfl, H5.out.2.1.trans (T2.out.trans s3)⟩
end Go.Proofs.Ytmciiobncfchlaa
end

/- The document's own queue: Scan. -/
section
namespace Go.Proofs.Ytmciiobncfchlaa
open Go.RowKit
set_option linter.unusedVariables false      -- a contract need not use every name

def lenV : Value → Nat
  | .slice _ n _ => n
  | _ => 0
theorem is_len {w : World} {v : Value} {l : List Int} (h : IS w v l) : lenV v = l.length := by
  rcases h.form with ⟨rfl, rfl⟩ | ⟨g, cap, rfl⟩ <;> rfl
/-- Between two grants. -/
structure ScI (w : World) (t r W : Int) (a1 : Option Addr) (n1 k1 : Nat) (g0 pb rb : Nat) (q : List Rq) (u : Value) (ids : List Int) (q' : List Rq) (x : World) : Prop where
  isr : IS x u ids
  new : ∀ g, u.ownBlock = some g → w.heap.size ≤ g
  own : RqOwn x g0 (.slice a1 n1 k1) q'
  len : q'.length = n1
  st : Steps q ids q'
  pb : x.heap[pb]? = some (.cells #[.int .i64 t, .int .i64 r, .slice a1 n1 k1, .int .i64 W] 27 (0, 0))
  rb : x.heap[rb]? = some (.cells #[.int .i64 0, .int .i64 0, .slice none 0 0, .int .i64 0] 27 (0, 0))
  nw : Nw w x
theorem ScI.nx {w : World} {t r W : Int} {a1 : Option Addr} {n1 k1 g0 pb rb : Nat} {q : List Rq} {u : Value} {ids : List Int} {q' : List Rq} {x y : World} (h : ScI w t r W a1 n1 k1 g0 pb rb q u ids q' x) (g : Nw x y) : ScI w t r W a1 n1 k1 g0 pb rb q u ids q' y :=
  ⟨h.isr.nw g, h.new, onw h.own g, h.len, h.st, g.at' h.pb, g.at' h.rb, h.nw.trans g⟩
theorem not_fit {q : List Rq} {m : Int} {W : Int} (h : Ok W q) {k : Nat} (hk : k < q.length) (hf : ¬ fitI q m (k : Int)) : ∃ o ∈ q, o.id ≠ q[k].id ∧ o.md ≠ 0 ∧ cpI o.md m = false := by
  refine Classical.byContradiction fun hn => hf fun j hj ne hm => ?_
  cases e : cpI q[j].md m with
  | true => rfl
  | false => exact absurd ⟨q[j], List.getElem_mem hj, id_ne h hj hk (by omega), hm, e⟩ hn
theorem is_fit {q : List Rq} {m : Int} {k : Nat} (hk : k < q.length) (hf : fitI q m (k : Int)) : ∀ o ∈ q, o.id ≠ q[k].id → o.md ≠ 0 → cpI o.md m = true := by
  intro o ho ne hm
  obtain ⟨j, hj, rfl⟩ := List.getElem_of_mem ho
  exact hf j hj (fun e => ne (by have : j = k := by omega
                                 subst this; rfl)) hm
theorem heap_st {w : World} {B : Nat} {o : Option Obj} {p : Addr} (h : w.heap[B]? = o) (hp : p.block ≠ B) (u : Value) : (w.setCell p u).heap[B]? = o := by
  rw [← h]
  exact Below.heap_setCell _ _ _ _ (by first | exact hp | exact hp.symm)
theorem own_st' {w : World} {g0 e size n : Nat} {v : Value} {xs : List Value} {p : Addr} (h : w.ownsRow g0 e size v n xs) (hp : ∀ g, v.ownBlock = some g → g ≠ p.block) (u : Value) : (w.setCell p u).ownsRow g0 e size v n xs :=
  okeep h (sgrown w p u) (fun g hg q => hp g hg (Option.some.inj q).symm)
theorem is_ne {w : World} {u : Value} {l : List Int} {B : Nat} {c : Array Value} {T : TypeId} {fr : Nat × Nat} (h : IS w u l) (hb : w.heap[B]? = some (.cells c T fr)) (hT : T ≠ 3) : ∀ g, u.ownBlock = some g → g ≠ B := by
  rintro g hg rfl
  obtain ⟨c', hc⟩ := oheap h hg
  rw [hb] at hc
  injection hc with hc
  injection hc with _ e _
  exact hT e
theorem ScI.grt {w : World} {t r W : Int} {g n1 k1 g0 pb rb i j : Nat} {q : List Rq} {u a b : Value} {ids : List Int} {q' : List Rq} {x : World} (h : ScI w t r W (some ⟨g, 0, none⟩) n1 k1 g0 pb rb q u ids q' x) (hu : ∀ g', u.ownBlock = some g' → g' ≠ g) (hp : g ≠ pb) (hr : g ≠ rb) (hw : w.heap.size ≤ g) :
    IS ((x.drew.setCell ⟨g, i, none⟩ a).setCell ⟨g, j, none⟩ b) u ids ∧ ((x.drew.setCell ⟨g, i, none⟩ a).setCell ⟨g, j, none⟩ b).heap[pb]? = some (.cells #[.int .i64 t, .int .i64 r, .slice (some ⟨g, 0, none⟩) n1 k1, .int .i64 W] 27 (0, 0)) ∧
      ((x.drew.setCell ⟨g, i, none⟩ a).setCell ⟨g, j, none⟩ b).heap[rb]? = some (.cells #[.int .i64 0, .int .i64 0, .slice none 0 0, .int .i64 0] 27 (0, 0)) ∧ Nw w ((x.drew.setCell ⟨g, i, none⟩ a).setCell ⟨g, j, none⟩ b) :=
  ⟨own_st' (own_st' (h.isr.nw (Nw.refl _).dr) (p := ⟨g, i, none⟩) hu a) (p := ⟨g, j, none⟩) hu b, heap_st (heap_st (w := x.drew) h.pb (p := ⟨g, i, none⟩) hp a) (p := ⟨g, j, none⟩) hp b, heap_st (heap_st (w := x.drew) h.rb (p := ⟨g, i, none⟩) hr a) (p := ⟨g, j, none⟩) hr b,
    (h.nw.dr.st (p := ⟨g, i, none⟩) hw a).st (p := ⟨g, j, none⟩) hw b⟩
theorem own_tch {w w' : World} {g0 e size n : Nat} {u v : Value} {xs : List Value} (ho : w.ownsRow g0 e size v n xs) (hg : Tch (fun k => u.ownBlock = some k) w w') (hne : ∀ g, v.ownBlock = some g → u.ownBlock ≠ some g) : w'.ownsRow g0 e size v n xs :=
  okeep ho (row := u.ownBlock) ⟨hg.os, hg.tape, hg.output, hg.size, fun k hk hn => hg.block k hk (fun e => hn e.symm)⟩ hne
theorem ScI.push {w : World} {t r W : Int} {g n1 k1 g0 pb rb : Nat} {q : List Rq} {u u' : Value} {ids : List Int} {c : Int} {q' : List Rq} {y y1 : World} (hi : IS y u ids) (hn : ∀ g, u.ownBlock = some g → w.heap.size ≤ g) (ho : RqOwn y g0 (.slice (some ⟨g, 0, none⟩) n1 k1) q') (hl : q'.length = n1) (st : Steps q (ids ++ [c]) q')
    (hp : y.heap[pb]? = some (.cells #[.int .i64 t, .int .i64 r, .slice (some ⟨g, 0, none⟩) n1 k1, .int .i64 W] 27 (0, 0))) (hr : y.heap[rb]? = some (.cells #[.int .i64 0, .int .i64 0, .slice none 0 0, .int .i64 0] 27 (0, 0))) (nw : Nw w y)
    (i1 : IS y1 u' (ids ++ [c])) (tch : Tch (fun k => u.ownBlock = some k) y y1) (hb : ∀ k, u'.ownBlock = some k → u.ownBlock = some k ∨ y.heap.size ≤ k) (hug : ∀ g', u.ownBlock = some g' → g' ≠ g) : ScI w t r W (some ⟨g, 0, none⟩) n1 k1 g0 pb rb q u' (ids ++ [c]) q' y1 :=
  ⟨i1, fun k e => (hb k e).elim (hn k) (fun q => Nat.le_trans nw.sz q), own_tch ho tch (fun g2 e e2 => hug g2 e2 (Option.some.inj e).symm), hl, st, (tch.block pb (hlt hp) (fun e => is_ne hi hp (by decide) pb e rfl)).trans hp, (tch.block rb (hlt hr) (fun e => is_ne hi hr (by decide) rb e rfl)).trans hr, nw_tch nw tch hn⟩
theorem fill_is {a : World} {rb : Nat} {v : Value} {l : List Int} (h : IS a v l) (hb : ∀ g, v.ownBlock = some g → g ≠ rb) (u0 u1 u2 u3 : Value) : IS ((((a.setCell ⟨rb, 0, none⟩ u0).setCell ⟨rb, 1, none⟩ u1).setCell ⟨rb, 2, none⟩ u2).setCell ⟨rb, 3, none⟩ u3) v l :=
  own_st' (own_st' (own_st' (own_st' h (p := ⟨rb, 0, none⟩) hb u0) (p := ⟨rb, 1, none⟩) hb u1) (p := ⟨rb, 2, none⟩) hb u2) (p := ⟨rb, 3, none⟩) hb u3
set_option maxRecDepth 100000 in
set_option maxHeartbeats 16000000 in
theorem r9scan (t r W : Int) (v : Value) (q : List Rq) (w : World) (hl : q.length ≤ 1000) (hok : Ok W q) (h : RqAt w v q) :
    Calls Try.prog 28 #[hdV t r v W] w fun e w' => ∃ v' vi, e = .returned (.tuple #[hdV t r v' W, vi]) ∧ Nw w w' ∧ RqAt w' v' (scanQ q).2 ∧ capOk v' ∧ IS w' vi (scanQ q).1 := by
  have HOk := Lib.hid hok
  clear hok
  have HCp := Lib.hid (fun (w1 : World) (g : Nw w w1) => r9copied t r W v q w1 hl (h.nw g))
  unfold hdV at HCp
  unfold hdV
  obtain ⟨a, c, rfl, h⟩ := h
  clear h
  have HX := Lib.hid (two_boxes w (.cells #[.int .i64 t, .int .i64 r, .slice a q.length c, .int .i64 W] 27) (.cells #[.int .i64 0, .int .i64 0, .slice none 0 0, .int .i64 0] 27))
  go_enter Try.func28, Try.ntmps28
  go_wp2_with fail
  refine (HCp.out _ HX.out.2.2.1).mono ?_
  rintro e w1 ⟨v1, rfl, g1, hO⟩
  rw [HX.out.2.2.2] at hO
  obtain ⟨a1, k1, hv1⟩ := (RqOwn.rd hO).form
  subst hv1
  have hq1 := g1.at' HX.out.2.1
  have hN1 := HX.out.2.2.1.trans g1
  have hal := allocAt w1 (.cells #[.int .i64 t, .int .i64 r, .slice a1 q.length k1, .int .i64 W] 27)
  have hNa : Nw w1 (w1.alloc (.cells #[.int .i64 t, .int .i64 r, .slice a1 q.length k1, .int .i64 W] 27)) := (Nw.refl w1).alloc _
  have hs1 := g1.sz
  rw [HX.out.2.2.2] at hs1
  obtain ⟨pb, hpb⟩ : ∃ pb, w1.heap.size = pb := ⟨_, rfl⟩
  rw [hpb] at hal
  have hne : ∀ g, (Value.slice a1 q.length k1).ownBlock = some g → g ≠ pb := fun g hg e => by have := olt hO hg; omega
  have hI : ScI w t r W a1 q.length k1 (w.heap.size + 1 + 1) pb (w.heap.size + 1) q (.slice none 0 0) [] q (w1.alloc (.cells #[.int .i64 t, .int .i64 r, .slice a1 q.length k1, .int .i64 W] 27)) := ⟨IS.nil _, fun g hg => by simp [Value.ownBlock] at hg, onw hO hNa, rfl, .refl, hal, hNa.at' hq1, hN1.trans hNa⟩
  have HPn := Lib.hid (And.intro hne (show w.heap.size + 1 + 1 ≤ pb by omega))
  have HPb := Lib.hid hpb
  clear hne hpb hs1 g1 hq1 hN1 hal hNa hO HX HCp
  go_wp2
  rw [HPb.out]
  clear HPb
  generalize w1.alloc (.cells #[.int .i64 t, .int .i64 r, .slice a1 q.length k1, .int .i64 W] 27) = z at *
  clear w1
  go_loopw [5] (fun u wr => ∃ ids q', ScI w t r W a1 q.length k1 (w.heap.size + 1 + 1) pb (w.heap.size + 1) q u ids q' wr) (fun u _ => wtg q - lenV u)
  case atStart => exact ⟨[], q, hI⟩
  case round =>
    clear hI
    obtain ⟨ids, q2, hS⟩ := hrel
    have hok2 := hS.st.ok HOk.out
    have hl2 : q2.length ≤ 1000 := by rw [hS.len]; exact hl
    have hal := hS.pb
    have p0 := hcell (j := 0) hal
    have p1 := hcell (j := 1) hal
    have p2 := hcell (j := 2) hal
    have p3 := hcell (j := 3) hal
    have hpl := hlt hal
    have HU := Lib.hid (r9upgrading t r W (.slice a1 q.length k1) q2 wr hl2 hS.own.rd)
    have HWa := Lib.hid (fun (w1 : World) (g : Nw wr w1) => r9waiting t r W (.slice a1 q.length k1) q2 w1 hl2 (hS.own.rd.nw g))
    have HF := Lib.hid (fun (mm but : Int) (w1 : World) (g : Nw wr w1) => r9fits t r W mm but (.slice a1 q.length k1) q2 w1 hl2 (hS.own.rd.nw g))
    unfold hdV at HU HWa HF
    have HS := Lib.hid hS
    have HO2 := Lib.hid hok2
    have hul := is_len hS.isr
    have hwt := hS.st.wtg HOk.out
    have HM := Lib.hid (And.intro hul hwt)
    clear hS hok2 hal hul hwt
    go_wp2_with fail
    refine HU.out.mono ?_
    rintro e w5 ⟨j, rfl, g5, hj⟩
    have HG5 := Lib.hid g5
    have hal5 := g5.at' HS.out.pb
    clear p0 p1 p2 p3 hpl g5
    have p0 := hcell (j := 0) hal5
    have p1 := hcell (j := 1) hal5
    have p2 := hcell (j := 2) hal5
    have p3 := hcell (j := 3) hal5
    have hpl := hlt hal5
    clear hal5
    rcases hj with ⟨rfl, hno⟩ | ⟨k, rfl, _, hk, hu, hmin⟩
    rotate_left
    · skip
      have hmin2 := fun a ha u => hmin a (by rw [List.take_length]; exact ha) u
      have HYes := Lib.hid (fun hf => cand_up HO2.out (List.getElem_mem hk) hu hmin2 hf)
      have HNo := Lib.hid (fun hf => done_up HO2.out (List.getElem_mem hk) hu hmin2 hf)
      clear hmin hmin2 hu HU HWa
      have hSz := HS.out.nx HG5.out
      rcases oform hSz.own with ⟨e, _⟩ | ⟨g, cap, e⟩
      · exfalso; have := hSz.len; simp only [Value.slice.injEq] at e; omega
      simp only [Value.slice.injEq] at e
      obtain ⟨rfl, e2, rfl⟩ := e
      clear e2
      have hnl := hSz.len
      have hki : (k : Int) < (q.length : Int) := by omega
      have hk0 : decide ((k : Int) < 0) = false := by simp
      have HCl := Lib.hid (fun (x : World) (gx : Nw w5 x) => own_cell (onw hSz.own gx) hnl.symm k hk)
      have HFi := Lib.hid (fun (f : ¬ fitI q2 q2[k].wt (k : Int)) => not_fit HO2.out hk f)
      have HFy := Lib.hid (fun (f : fitI q2 q2[k].wt (k : Int)) => is_fit hk f)
      have HSz := Lib.hid hSz
      have HUp := Lib.hid (fun (x : World) (h : RqOwn x (w.heap.size + 1 + 1) (.slice (some ⟨g, 0, none⟩) q.length k1) q2) => own_upd (own_upd h hnl.symm k hk 2 (by decide) (.int .i64 q2[k].wt) ⟨q2[k].id, q2[k].txn, q2[k].wt, q2[k].wt, q2[k].sn⟩ rfl) (by rw [List.length_set]; exact hnl.symm) k (by rw [List.length_set]; exact hk) 4 (by decide) (.int .i64 0) (grtR q2[k]) (by rw [List.getElem_set_self]; rfl))
      simp only [List.set_set] at HUp
      have HSt := Lib.hid (fun hc => HS.out.st.snoc (List.getElem_mem hk) hc)
      have HCh := Lib.hid (chg_set HO2.out grtR k hk)
      have HHk := Lib.hid hk
      generalize q2[k] = R at *
      obtain ⟨b0, b1, b2, b3, b4⟩ := R
      have hal := hSz.pb
      clear hSz hk p0 p1 p2 p3 hpl
      go_wp2_with fail
      obtain ⟨S, hSe⟩ : ∃ S, S = Nw w5 := ⟨_, rfl⟩
      have hS0 : Hs S w5.drew := by subst hSe; exact (Nw.refl _).dr
      have t0 : ∀ x, Hs S x → x.cell? ⟨pb, 0, none⟩ = some (.int .i64 t) := fun x h => by subst hSe; exact Nw.kp h (hcell hal)
      have t1 : ∀ x, Hs S x → x.cell? ⟨pb, 1, none⟩ = some (.int .i64 r) := fun x h => by subst hSe; exact Nw.kp h (hcell hal)
      have t2 : ∀ x, Hs S x → x.cell? ⟨pb, 2, none⟩ = some (.slice (some ⟨g, 0, none⟩) q.length k1) := fun x h => by subst hSe; exact Nw.kp h (hcell hal)
      have t3 : ∀ x, Hs S x → x.cell? ⟨pb, 3, none⟩ = some (.int .i64 W) := fun x h => by subst hSe; exact Nw.kp h (hcell hal)
      have t4 : ∀ x, Hs S x → x.cell? ⟨g, k * 5 + 3, none⟩ = some (.int .i64 b3) := fun x h => by subst hSe; exact HCl.out x h 3 _ rfl
      have HN := Lib.hid (show ∀ a b, Hs S a → Nw a b → Hs S b from fun a b h g => by subst hSe; exact Nw.trans h g)
      have HV := Lib.hid (show ∀ a, Hs S a → Nw w5 a from fun a h => by subst hSe; exact h)
      clear hSe hal
      refine region_plan (.take (.take (.take (.take (.take (.take (.take (.take (.take (.take (.take (.off (.go1 (.take (.take .fin))))))))))))))) (Hs S) (by kernel_rfl) (by kernel_rfl) (by kernel_rfl) hS0 ?_
      iterate 11 (refine HP.take' ?_; (first | (refine ⟨undef, Or.inr ⟨by rfl, rfl⟩, ?_⟩) | (apply Exists.intro; refine ⟨Or.inl ⟨by rfl, ?_⟩, ?_⟩; (intro x hx'; go_simp; first | done | with_reducible rfl))); (try simp only [Act.put, List.setIfInBounds_toArray, List.set_cons_zero, List.set_cons_succ]))
      refine HP.off ?_
      refine HP.go1 (fun KK hKK => ?_)
      go_simp
      refine (HF.out b3 (k : Int) _ ((HG5.out).trans (HV.out _ hS0))).mono ?_
      rintro e y1 ⟨f, rfl, gf, hff⟩
      have hS1 := HN.out _ _ hS0 gf
      refine hKK.out _ _ hS1 ?_
      intro _
      clear hKK KK
      (try simp only [Act.put, List.setIfInBounds_toArray, List.set_cons_zero, List.set_cons_succ])
      cases f
      · iterate 2 (refine HP.take' ?_; (first | (refine ⟨undef, Or.inr ⟨by rfl, rfl⟩, ?_⟩) | (apply Exists.intro; refine ⟨Or.inl ⟨by rfl, ?_⟩, ?_⟩; (intro x hx'; go_simp; first | done | with_reducible rfl))); (try simp only [Act.put, List.setIfInBounds_toArray, List.set_cons_zero, List.set_cons_succ]))
        refine HP.end_ ?_
        refine NoPanic.normal ?_
        have HD := Lib.hid (HNo.out (HFi.out (fun e => by have := hff.2 e; cases this)))
        have HY1 := Lib.hid ((HG5.out).trans (HV.out _ hS1))
        clear hff hS0 hS1 t0 t1 t2 t3 t4 HN HV gf HSt HCh HUp HCl HFi HFy HSz
        have hsc := (HS.out.st.scan HOk.out HD.out)
        have hSn := HS.out.nx HY1.out
        have hq := hSn.rb
        have hal := hSn.pb
        have p0 := hcell (j := 0) hal
        have p1 := hcell (j := 1) hal
        have p2 := hcell (j := 2) hal
        have p3 := hcell (j := 3) hal
        have d0 := hcell (j := 0) hq
        have d1 := hcell (j := 1) hq
        have d2 := hcell (j := 2) hq
        have d3 := hcell (j := 3) hq
        have fz := fun k => hfz (j := k) hq
        have hpl := hlt hal
        have HSn := Lib.hid hSn
        have HSc := Lib.hid hsc
        have HNe := Lib.hid (is_ne hSn.isr hq (by decide))
        obtain ⟨ua, uc, hu5, _⟩ := hSn.isr.box
        obtain ⟨ul, hul⟩ : ∃ n, ids.length = n := ⟨_, rfl⟩
        rw [hul] at hu5
        subst hu5
        clear hsc hSn hq hal hul HD HYes HNo HF HM HO2
        go_wp2
        refine bodyPost_ret (v := .tuple #[.agg #[.int .i64 t, .int .i64 r, .slice (some ⟨g, 0, none⟩) q.length k1, .int .i64 W], .slice ua ul uc]) (by simp [results, Try.results28, go_sem, *]) rfl ⟨_, _, rfl, fill_nw HSn.out.nw (Nat.le_succ _) _ _ _ _, ?_, ?_, ?_⟩
        · rw [HSc.out]; exact RqOwn.rd (fill_own HSn.out.own (by omega) _ _ _ _)
        · exact RqOwn.cap HSn.out.own
        · rw [HSc.out]; exact fill_is HSn.out.isr HNe.out _ _ _ _
      · iterate 2 (refine HP.take' ?_; (first | (refine ⟨undef, Or.inr ⟨by rfl, rfl⟩, ?_⟩) | (apply Exists.intro; refine ⟨Or.inl ⟨by rfl, ?_⟩, ?_⟩; (intro x hx'; go_simp; first | done | with_reducible rfl))); (try simp only [Act.put, List.setIfInBounds_toArray, List.set_cons_zero, List.set_cons_succ]))
        refine HP.end_ ?_
        refine NoPanic.normal ?_
        have HD := Lib.hid (HYes.out (HFy.out (hff.1 rfl)))
        have HY1 := Lib.hid (HV.out _ hS1)
        clear hff hS0 hS1 t0 t1 t2 t3 t4 HN HV gf HFi HFy HYes HNo HF
        have hy := HSz.out.nx HY1.out
        have hg1 := oge hy.own (g := g) rfl
        obtain ⟨cr, hcr⟩ := oheap hy.own (g := g) rfl
        have HIg := Lib.hid (is_ne hy.isr hcr (by decide))
        clear hcr
        have hpg : g ≠ pb := HPn.out.1 g rfl
        have hpc : ∀ j, y1.cell? ⟨pb, j, none⟩ = _ := fun j => hcell (j := j) hy.pb
        have p2 := hpc 2
        have r2 := HCl.out _ HY1.out 2 _ rfl
        have r3 := HCl.out _ HY1.out 3 _ rfl
        have r4 := HCl.out _ HY1.out 4 _ rfl
        have rz := own_frz hy.own (by exact hy.len.symm)
        have HU := Lib.hid (HUp.out _ (onw hy.own (Nw.refl _).dr))
        have HY := Lib.hid hy
        have HG := Lib.hid (And.intro hg1 hpg)
        have n3 : ¬ (pb = g) := fun e => hpg e.symm
        have n4 : ¬ (g = pb) := hpg
        clear hpc hy HCl HUp HSz hg1 hpg
        go_wp2_with fail
        obtain ⟨y0, hy0⟩ : ∃ y0, y1.drew = y0 := ⟨_, rfl⟩
        obtain ⟨S, hSe⟩ : ∃ S : World → Prop, S = fun x => x = y0 ∨ x = y0.setCell ⟨g, k * 5 + 2, none⟩ (.int .i64 b3) ∨ x = (y0.setCell ⟨g, k * 5 + 2, none⟩ (.int .i64 b3)).setCell ⟨g, k * 5 + 4, none⟩ (.int .i64 0) := ⟨_, rfl⟩
        have s2 : y0.cell? ⟨pb, 2, none⟩ = some (.slice (some ⟨g, 0, none⟩) q.length k1) := by subst hy0; exact p2
        have s4 : y0.cell? ⟨g, k * 5 + 2, none⟩ = some (.int .i64 b2) := by subst hy0; exact r2
        have s5 : y0.cell? ⟨g, k * 5 + 3, none⟩ = some (.int .i64 b3) := by subst hy0; exact r3
        have s6 : y0.cell? ⟨g, k * 5 + 4, none⟩ = some (.int .i64 b4) := by subst hy0; exact r4
        have s7 : ∀ j, y0.frozen? ⟨g, j, none⟩ = false := by subst hy0; exact rz
        have t2 : ∀ x, Hs S x → x.cell? ⟨pb, 2, none⟩ = some (.slice (some ⟨g, 0, none⟩) q.length k1) := fun x h => by subst hSe; rcases h with rfl | rfl | rfl <;> simp [go_sem, s2]
        have t4 : ∀ x, Hs S x → x.cell? ⟨g, k * 5 + 3, none⟩ = some (.int .i64 b3) := fun x h => by subst hSe; rcases h with rfl | rfl | rfl <;> simp [go_sem, s5]
        have hS0 : Hs S y1.drew := by rw [hy0, hSe]; exact .inl rfl
        have hS1 : Hs S (y0.setCell ⟨g, k * 5 + 2, none⟩ (.int .i64 b3)) := by rw [hSe]; exact .inr (.inl rfl)
        have hS2 : Hs S ((y0.setCell ⟨g, k * 5 + 2, none⟩ (.int .i64 b3)).setCell ⟨g, k * 5 + 4, none⟩ (.int .i64 0)) := by rw [hSe]; exact .inr (.inr rfl)
        clear hSe
        refine region_plan (.take (.take (.take (.take (.take (.take (.take (.take (.take (.take (.take (.take (.take (.take (.off (.go1 (.take (.take (.off (.go1 .fin)))))))))))))))))))) (Hs S) (by kernel_rfl) (by kernel_rfl) (by kernel_rfl) hS0 ?_
        rw [hy0]
        iterate 14 (refine HP.take' ?_; (first | (refine ⟨undef, Or.inr ⟨by rfl, rfl⟩, ?_⟩) | (apply Exists.intro; refine ⟨Or.inl ⟨by rfl, ?_⟩, ?_⟩; (intro x hx'; go_simp; first | done | with_reducible rfl))); (try simp only [Act.put, List.setIfInBounds_toArray, List.set_cons_zero, List.set_cons_succ]))
        refine HP.off ?_
        refine HP.go1 (fun KK hKK => ?_)
        go_simp
        refine hKK.out _ _ hS1 ?_
        intro _
        clear hKK KK
        (try simp only [Act.put, List.setIfInBounds_toArray, List.set_cons_zero, List.set_cons_succ])
        iterate 2 (refine HP.take' ?_; (first | (refine ⟨undef, Or.inr ⟨by rfl, rfl⟩, ?_⟩) | (apply Exists.intro; refine ⟨Or.inl ⟨by rfl, ?_⟩, ?_⟩; (intro x hx'; go_simp; first | done | with_reducible rfl))); (try simp only [Act.put, List.setIfInBounds_toArray, List.set_cons_zero, List.set_cons_succ]))
        refine HP.off ?_
        refine HP.go1 (fun KK hKK => ?_)
        go_simp
        refine hKK.out _ _ hS2 ?_
        intro _
        clear hKK KK
        (try simp only [Act.put, List.setIfInBounds_toArray, List.set_cons_zero, List.set_cons_succ])
        refine HP.end_ ?_
        refine NoPanic.normal ?_
        subst hy0
        clear hS0 hS1 hS2 t2 t4 s2 s4 s5 s6 s7 p2 r2 r3 r4 rz n3 n4
        have hgg := HG.out.1
        have hgr := HY.out.grt (i := k * 5 + 2) (j := k * 5 + 4) (a := .int .i64 b3) (b := .int .i64 0) HIg.out HG.out.2 (by omega) (by omega)
        have hcl := own_cell HU.out (by rw [List.length_set]; exact hnl.symm) k (by rw [List.length_set]; exact HHk.out) 0 (.int .i64 b0) (by rw [List.getElem_set_self]; rfl)
        simp only [Nat.add_zero] at hcl
        generalize (y1.drew.setCell ⟨g, k * 5 + 2, none⟩ (.int .i64 b3)).setCell ⟨g, k * 5 + 4, none⟩ (.int .i64 0) = y at *
        have p2 : y.cell? ⟨pb, 2, none⟩ = some (.slice (some ⟨g, 0, none⟩) q.length k1) := hcell hgr.2.1
        have hSt := HSt.out HD.out
        rw [HCh.out] at hSt
        have hw := hSt.wtg HOk.out
        rw [List.length_append] at hw
        simp only [List.length_singleton] at hw
        have hwl : wtg q ≤ q.length := List.countP_le_length
        obtain ⟨ao, co, hu5, _⟩ := hgr.1.box
        subst hu5
        obtain ⟨v3, y3, hrun, q1, qt, qb, g3, cap3, hv3⟩ := IS.push y _ ids b0 hgr.1 (by omega)
        subst hv3
        have hS3 := ScI.push hgr.1 HY.out.new HU.out (by rw [List.length_set]; exact hnl) hSt hgr.2.1 hgr.2.2.1 hgr.2.2.2 q1 qt qb HIg.out
        have HS3 := Lib.hid hS3
        have HR2 := Lib.hid hrun
        have HW := Lib.hid (And.intro HM.out.1 hw)
        clear hS3 hrun hw hwl hSt hgr q1 qt qb hgg HY HIg HG HU HD HSt HCh HM
        go_wp2_with (at_builtin; (refine wpl_app (by rfl) (.tmp 47) (.tmp 54) 36 rfl _ _ _ _ rfl rfl HR2.out ?_))
        go_roundw
        case rel => exact ⟨_, _, HS3.out⟩
        case measure => have := HW.out.1; have := HW.out.2; simp [lenV]; omega
    have hno2 := fun a ha => hno a (by rw [List.take_length]; exact ha)
    go_wp2_with fail
    refine (HWa.out _ HG5.out).mono ?_
    rintro e w6 ⟨jw, rfl, g6, hjw⟩
    have HG6 := Lib.hid (HG5.out.trans g6)
    have hal6 := HG6.out.at' HS.out.pb
    clear p0 p1 p2 p3 hpl g6
    have p0 := hcell (j := 0) hal6
    have p1 := hcell (j := 1) hal6
    have p2 := hcell (j := 2) hal6
    have p3 := hcell (j := 3) hal6
    have hpl := hlt hal6
    clear hal6
    rcases hjw with ⟨rfl, hz⟩ | ⟨k, rfl, hk, hz, hfi⟩
    rotate_left
    · skip
      have HYes := Lib.hid (fun hf => cand_wa HO2.out hk hz hfi hno2 hf)
      have HNo := Lib.hid (fun hf => done_wa HO2.out hk hz hfi hno2 hf)
      clear hno hno2 hz hfi HU HWa
      have hSz := HS.out.nx HG6.out
      rcases oform hSz.own with ⟨e, _⟩ | ⟨g, cap, e⟩
      · exfalso; have := hSz.len; simp only [Value.slice.injEq] at e; omega
      simp only [Value.slice.injEq] at e
      obtain ⟨rfl, e2, rfl⟩ := e
      clear e2
      have hnl := hSz.len
      have hki : (k : Int) < (q.length : Int) := by omega
      have hk0 : decide ((k : Int) < 0) = false := by simp
      have HCl := Lib.hid (fun (x : World) (gx : Nw w6 x) => own_cell (onw hSz.own gx) hnl.symm k hk)
      have HFi := Lib.hid (fun (f : ¬ fitI q2 q2[k].wt (k : Int)) => not_fit HO2.out hk f)
      have HFy := Lib.hid (fun (f : fitI q2 q2[k].wt (k : Int)) => is_fit hk f)
      have HSz := Lib.hid hSz
      have HUp := Lib.hid (fun (x : World) (h : RqOwn x (w.heap.size + 1 + 1) (.slice (some ⟨g, 0, none⟩) q.length k1) q2) => own_upd (own_upd h hnl.symm k hk 2 (by decide) (.int .i64 q2[k].wt) ⟨q2[k].id, q2[k].txn, q2[k].wt, q2[k].wt, q2[k].sn⟩ rfl) (by rw [List.length_set]; exact hnl.symm) k (by rw [List.length_set]; exact hk) 4 (by decide) (.int .i64 0) (grtR q2[k]) (by rw [List.getElem_set_self]; rfl))
      simp only [List.set_set] at HUp
      have HSt := Lib.hid (fun hc => HS.out.st.snoc (List.getElem_mem hk) hc)
      have HCh := Lib.hid (chg_set HO2.out grtR k hk)
      have HHk := Lib.hid hk
      generalize q2[k] = R at *
      obtain ⟨b0, b1, b2, b3, b4⟩ := R
      have hal := hSz.pb
      clear hSz hk p0 p1 p2 p3 hpl
      go_wp2_with fail
      obtain ⟨S, hSe⟩ : ∃ S, S = Nw w6 := ⟨_, rfl⟩
      have hS0 : Hs S w6.drew := by subst hSe; exact (Nw.refl _).dr
      have t0 : ∀ x, Hs S x → x.cell? ⟨pb, 0, none⟩ = some (.int .i64 t) := fun x h => by subst hSe; exact Nw.kp h (hcell hal)
      have t1 : ∀ x, Hs S x → x.cell? ⟨pb, 1, none⟩ = some (.int .i64 r) := fun x h => by subst hSe; exact Nw.kp h (hcell hal)
      have t2 : ∀ x, Hs S x → x.cell? ⟨pb, 2, none⟩ = some (.slice (some ⟨g, 0, none⟩) q.length k1) := fun x h => by subst hSe; exact Nw.kp h (hcell hal)
      have t3 : ∀ x, Hs S x → x.cell? ⟨pb, 3, none⟩ = some (.int .i64 W) := fun x h => by subst hSe; exact Nw.kp h (hcell hal)
      have t4 : ∀ x, Hs S x → x.cell? ⟨g, k * 5 + 3, none⟩ = some (.int .i64 b3) := fun x h => by subst hSe; exact HCl.out x h 3 _ rfl
      have HN := Lib.hid (show ∀ a b, Hs S a → Nw a b → Hs S b from fun a b h g => by subst hSe; exact Nw.trans h g)
      have HV := Lib.hid (show ∀ a, Hs S a → Nw w6 a from fun a h => by subst hSe; exact h)
      clear hSe hal
      refine region_plan (.take (.take (.take (.take (.take (.take (.take (.take (.take (.take (.take (.off (.go1 (.take (.take .fin))))))))))))))) (Hs S) (by kernel_rfl) (by kernel_rfl) (by kernel_rfl) hS0 ?_
      iterate 11 (refine HP.take' ?_; (first | (refine ⟨undef, Or.inr ⟨by rfl, rfl⟩, ?_⟩) | (apply Exists.intro; refine ⟨Or.inl ⟨by rfl, ?_⟩, ?_⟩; (intro x hx'; go_simp; first | done | with_reducible rfl))); (try simp only [Act.put, List.setIfInBounds_toArray, List.set_cons_zero, List.set_cons_succ]))
      refine HP.off ?_
      refine HP.go1 (fun KK hKK => ?_)
      go_simp
      refine (HF.out b3 (k : Int) _ ((HG6.out).trans (HV.out _ hS0))).mono ?_
      rintro e y1 ⟨f, rfl, gf, hff⟩
      have hS1 := HN.out _ _ hS0 gf
      refine hKK.out _ _ hS1 ?_
      intro _
      clear hKK KK
      (try simp only [Act.put, List.setIfInBounds_toArray, List.set_cons_zero, List.set_cons_succ])
      cases f
      · iterate 2 (refine HP.take' ?_; (first | (refine ⟨undef, Or.inr ⟨by rfl, rfl⟩, ?_⟩) | (apply Exists.intro; refine ⟨Or.inl ⟨by rfl, ?_⟩, ?_⟩; (intro x hx'; go_simp; first | done | with_reducible rfl))); (try simp only [Act.put, List.setIfInBounds_toArray, List.set_cons_zero, List.set_cons_succ]))
        refine HP.end_ ?_
        refine NoPanic.normal ?_
        have HD := Lib.hid (HNo.out (HFi.out (fun e => by have := hff.2 e; cases this)))
        have HY1 := Lib.hid ((HG6.out).trans (HV.out _ hS1))
        clear hff hS0 hS1 t0 t1 t2 t3 t4 HN HV gf HSt HCh HUp HCl HFi HFy HSz
        have hsc := (HS.out.st.scan HOk.out HD.out)
        have hSn := HS.out.nx HY1.out
        have hq := hSn.rb
        have hal := hSn.pb
        have p0 := hcell (j := 0) hal
        have p1 := hcell (j := 1) hal
        have p2 := hcell (j := 2) hal
        have p3 := hcell (j := 3) hal
        have d0 := hcell (j := 0) hq
        have d1 := hcell (j := 1) hq
        have d2 := hcell (j := 2) hq
        have d3 := hcell (j := 3) hq
        have fz := fun k => hfz (j := k) hq
        have hpl := hlt hal
        have HSn := Lib.hid hSn
        have HSc := Lib.hid hsc
        have HNe := Lib.hid (is_ne hSn.isr hq (by decide))
        obtain ⟨ua, uc, hu5, _⟩ := hSn.isr.box
        obtain ⟨ul, hul⟩ : ∃ n, ids.length = n := ⟨_, rfl⟩
        rw [hul] at hu5
        subst hu5
        clear hsc hSn hq hal hul HD HYes HNo HF HM HO2
        go_wp2
        refine bodyPost_ret (v := .tuple #[.agg #[.int .i64 t, .int .i64 r, .slice (some ⟨g, 0, none⟩) q.length k1, .int .i64 W], .slice ua ul uc]) (by simp [results, Try.results28, go_sem, *]) rfl ⟨_, _, rfl, fill_nw HSn.out.nw (Nat.le_succ _) _ _ _ _, ?_, ?_, ?_⟩
        · rw [HSc.out]; exact RqOwn.rd (fill_own HSn.out.own (by omega) _ _ _ _)
        · exact RqOwn.cap HSn.out.own
        · rw [HSc.out]; exact fill_is HSn.out.isr HNe.out _ _ _ _
      · iterate 2 (refine HP.take' ?_; (first | (refine ⟨undef, Or.inr ⟨by rfl, rfl⟩, ?_⟩) | (apply Exists.intro; refine ⟨Or.inl ⟨by rfl, ?_⟩, ?_⟩; (intro x hx'; go_simp; first | done | with_reducible rfl))); (try simp only [Act.put, List.setIfInBounds_toArray, List.set_cons_zero, List.set_cons_succ]))
        refine HP.end_ ?_
        refine NoPanic.normal ?_
        have HD := Lib.hid (HYes.out (HFy.out (hff.1 rfl)))
        have HY1 := Lib.hid (HV.out _ hS1)
        clear hff hS0 hS1 t0 t1 t2 t3 t4 HN HV gf HFi HFy HYes HNo HF
        have hy := HSz.out.nx HY1.out
        have hg1 := oge hy.own (g := g) rfl
        obtain ⟨cr, hcr⟩ := oheap hy.own (g := g) rfl
        have HIg := Lib.hid (is_ne hy.isr hcr (by decide))
        clear hcr
        have hpg : g ≠ pb := HPn.out.1 g rfl
        have hpc : ∀ j, y1.cell? ⟨pb, j, none⟩ = _ := fun j => hcell (j := j) hy.pb
        have p2 := hpc 2
        have r2 := HCl.out _ HY1.out 2 _ rfl
        have r3 := HCl.out _ HY1.out 3 _ rfl
        have r4 := HCl.out _ HY1.out 4 _ rfl
        have rz := own_frz hy.own (by exact hy.len.symm)
        have HU := Lib.hid (HUp.out _ (onw hy.own (Nw.refl _).dr))
        have HY := Lib.hid hy
        have HG := Lib.hid (And.intro hg1 hpg)
        have n3 : ¬ (pb = g) := fun e => hpg e.symm
        have n4 : ¬ (g = pb) := hpg
        clear hpc hy HCl HUp HSz hg1 hpg
        go_wp2_with fail
        obtain ⟨y0, hy0⟩ : ∃ y0, y1.drew = y0 := ⟨_, rfl⟩
        obtain ⟨S, hSe⟩ : ∃ S : World → Prop, S = fun x => x = y0 ∨ x = y0.setCell ⟨g, k * 5 + 2, none⟩ (.int .i64 b3) ∨ x = (y0.setCell ⟨g, k * 5 + 2, none⟩ (.int .i64 b3)).setCell ⟨g, k * 5 + 4, none⟩ (.int .i64 0) := ⟨_, rfl⟩
        have s2 : y0.cell? ⟨pb, 2, none⟩ = some (.slice (some ⟨g, 0, none⟩) q.length k1) := by subst hy0; exact p2
        have s4 : y0.cell? ⟨g, k * 5 + 2, none⟩ = some (.int .i64 b2) := by subst hy0; exact r2
        have s5 : y0.cell? ⟨g, k * 5 + 3, none⟩ = some (.int .i64 b3) := by subst hy0; exact r3
        have s6 : y0.cell? ⟨g, k * 5 + 4, none⟩ = some (.int .i64 b4) := by subst hy0; exact r4
        have s7 : ∀ j, y0.frozen? ⟨g, j, none⟩ = false := by subst hy0; exact rz
        have t2 : ∀ x, Hs S x → x.cell? ⟨pb, 2, none⟩ = some (.slice (some ⟨g, 0, none⟩) q.length k1) := fun x h => by subst hSe; rcases h with rfl | rfl | rfl <;> simp [go_sem, s2]
        have t4 : ∀ x, Hs S x → x.cell? ⟨g, k * 5 + 3, none⟩ = some (.int .i64 b3) := fun x h => by subst hSe; rcases h with rfl | rfl | rfl <;> simp [go_sem, s5]
        have hS0 : Hs S y1.drew := by rw [hy0, hSe]; exact .inl rfl
        have hS1 : Hs S (y0.setCell ⟨g, k * 5 + 2, none⟩ (.int .i64 b3)) := by rw [hSe]; exact .inr (.inl rfl)
        have hS2 : Hs S ((y0.setCell ⟨g, k * 5 + 2, none⟩ (.int .i64 b3)).setCell ⟨g, k * 5 + 4, none⟩ (.int .i64 0)) := by rw [hSe]; exact .inr (.inr rfl)
        clear hSe
        refine region_plan (.take (.take (.take (.take (.take (.take (.take (.take (.take (.take (.take (.take (.take (.take (.off (.go1 (.take (.take (.off (.go1 .fin)))))))))))))))))))) (Hs S) (by kernel_rfl) (by kernel_rfl) (by kernel_rfl) hS0 ?_
        rw [hy0]
        iterate 14 (refine HP.take' ?_; (first | (refine ⟨undef, Or.inr ⟨by rfl, rfl⟩, ?_⟩) | (apply Exists.intro; refine ⟨Or.inl ⟨by rfl, ?_⟩, ?_⟩; (intro x hx'; go_simp; first | done | with_reducible rfl))); (try simp only [Act.put, List.setIfInBounds_toArray, List.set_cons_zero, List.set_cons_succ]))
        refine HP.off ?_
        refine HP.go1 (fun KK hKK => ?_)
        go_simp
        refine hKK.out _ _ hS1 ?_
        intro _
        clear hKK KK
        (try simp only [Act.put, List.setIfInBounds_toArray, List.set_cons_zero, List.set_cons_succ])
        iterate 2 (refine HP.take' ?_; (first | (refine ⟨undef, Or.inr ⟨by rfl, rfl⟩, ?_⟩) | (apply Exists.intro; refine ⟨Or.inl ⟨by rfl, ?_⟩, ?_⟩; (intro x hx'; go_simp; first | done | with_reducible rfl))); (try simp only [Act.put, List.setIfInBounds_toArray, List.set_cons_zero, List.set_cons_succ]))
        refine HP.off ?_
        refine HP.go1 (fun KK hKK => ?_)
        go_simp
        refine hKK.out _ _ hS2 ?_
        intro _
        clear hKK KK
        (try simp only [Act.put, List.setIfInBounds_toArray, List.set_cons_zero, List.set_cons_succ])
        refine HP.end_ ?_
        refine NoPanic.normal ?_
        subst hy0
        clear hS0 hS1 hS2 t2 t4 s2 s4 s5 s6 s7 p2 r2 r3 r4 rz n3 n4
        have hgg := HG.out.1
        have hgr := HY.out.grt (i := k * 5 + 2) (j := k * 5 + 4) (a := .int .i64 b3) (b := .int .i64 0) HIg.out HG.out.2 (by omega) (by omega)
        have hcl := own_cell HU.out (by rw [List.length_set]; exact hnl.symm) k (by rw [List.length_set]; exact HHk.out) 0 (.int .i64 b0) (by rw [List.getElem_set_self]; rfl)
        simp only [Nat.add_zero] at hcl
        generalize (y1.drew.setCell ⟨g, k * 5 + 2, none⟩ (.int .i64 b3)).setCell ⟨g, k * 5 + 4, none⟩ (.int .i64 0) = y at *
        have p2 : y.cell? ⟨pb, 2, none⟩ = some (.slice (some ⟨g, 0, none⟩) q.length k1) := hcell hgr.2.1
        have hSt := HSt.out HD.out
        rw [HCh.out] at hSt
        have hw := hSt.wtg HOk.out
        rw [List.length_append] at hw
        simp only [List.length_singleton] at hw
        have hwl : wtg q ≤ q.length := List.countP_le_length
        obtain ⟨ao, co, hu5, _⟩ := hgr.1.box
        subst hu5
        obtain ⟨v3, y3, hrun, q1, qt, qb, g3, cap3, hv3⟩ := IS.push y _ ids b0 hgr.1 (by omega)
        subst hv3
        have hS3 := ScI.push hgr.1 HY.out.new HU.out (by rw [List.length_set]; exact hnl) hSt hgr.2.1 hgr.2.2.1 hgr.2.2.2 q1 qt qb HIg.out
        have HS3 := Lib.hid hS3
        have HR2 := Lib.hid hrun
        have HW := Lib.hid (And.intro HM.out.1 hw)
        clear hS3 hrun hw hwl hSt hgr q1 qt qb hgg HY HIg HG HU HD HSt HCh HM
        go_wp2_with (at_builtin; (refine wpl_app (by rfl) (.tmp 47) (.tmp 54) 36 rfl _ _ _ _ rfl rfl HR2.out ?_))
        go_roundw
        case rel => exact ⟨_, _, HS3.out⟩
        case measure => have := HW.out.1; have := HW.out.2; simp [lenV]; omega
    have HD := Lib.hid (done_none hno2 hz)
    clear hz hno hno2 HU HWa
    go_wp2_with fail
    obtain ⟨S, hSe⟩ : ∃ S, S = Nw w6 := ⟨_, rfl⟩
    have hS0 : Hs S w6.drew := by subst hSe; exact (Nw.refl _).dr
    have HV := Lib.hid (show ∀ a, Hs S a → Nw w6 a from fun a h => by subst hSe; exact h)
    clear hSe
    refine region_plan (.take (.take (.take (.take (.take (.take (.take (.take (.take (.take (.take (.off (.go1 (.take (.take .fin))))))))))))))) (Hs S) (by kernel_rfl) (by kernel_rfl) (by kernel_rfl) hS0 ?_
    iterate 11 (refine HP.take' ?_; (first | (refine ⟨undef, Or.inr ⟨by rfl, rfl⟩, ?_⟩) | (apply Exists.intro; refine ⟨Or.inl ⟨by rfl, ?_⟩, ?_⟩; (intro x hx'; go_simp; first | done | with_reducible rfl))); (try simp only [Act.put, List.setIfInBounds_toArray, List.set_cons_zero, List.set_cons_succ]))
    refine HP.off ?_
    refine HP.go1 (fun KK hKK => ?_)
    go_simp
    refine hKK.out _ _ hS0 ?_
    intro _
    clear hKK KK
    (try simp only [Act.put, List.setIfInBounds_toArray, List.set_cons_zero, List.set_cons_succ])
    iterate 2 (refine HP.take' ?_; (first | (refine ⟨undef, Or.inr ⟨by rfl, rfl⟩, ?_⟩) | (apply Exists.intro; refine ⟨Or.inl ⟨by rfl, ?_⟩, ?_⟩; (intro x hx'; go_simp; first | done | with_reducible rfl))); (try simp only [Act.put, List.setIfInBounds_toArray, List.set_cons_zero, List.set_cons_succ]))
    refine HP.end_ ?_
    refine NoPanic.normal ?_
    have HY1 := Lib.hid HG6.out.dr
    clear hS0 HV HG6 HG5 p0 p1 p2 p3 hpl
    generalize w6.drew = y1 at *
    have hsc := (HS.out.st.scan HOk.out HD.out)
    have hSn := HS.out.nx HY1.out
    have hq := hSn.rb
    have hal := hSn.pb
    have p0 := hcell (j := 0) hal
    have p1 := hcell (j := 1) hal
    have p2 := hcell (j := 2) hal
    have p3 := hcell (j := 3) hal
    have d0 := hcell (j := 0) hq
    have d1 := hcell (j := 1) hq
    have d2 := hcell (j := 2) hq
    have d3 := hcell (j := 3) hq
    have fz := fun k => hfz (j := k) hq
    have hpl := hlt hal
    have HSn := Lib.hid hSn
    have HSc := Lib.hid hsc
    have HNe := Lib.hid (is_ne hSn.isr hq (by decide))
    obtain ⟨ua, uc, hu5, _⟩ := hSn.isr.box
    obtain ⟨ul, hul⟩ : ∃ n, ids.length = n := ⟨_, rfl⟩
    rw [hul] at hu5
    subst hu5
    clear hsc hSn hq hal hul HD HF HM HO2
    go_wp2
    refine bodyPost_ret (v := .tuple #[.agg #[.int .i64 t, .int .i64 r, .slice a1 q.length k1, .int .i64 W], .slice ua ul uc]) (by simp [results, Try.results28, go_sem, *]) rfl ⟨_, _, rfl, fill_nw HSn.out.nw (Nat.le_succ _) _ _ _ _, ?_, ?_, ?_⟩
    · rw [HSc.out]; exact RqOwn.rd (fill_own HSn.out.own (by omega) _ _ _ _)
    · exact RqOwn.cap HSn.out.own
    · rw [HSc.out]; exact fill_is HSn.out.isr HNe.out _ _ _ _
end Go.Proofs.Ytmciiobncfchlaa
end
