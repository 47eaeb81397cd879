
/- Law 9: empty, lives; the kit's LightHeads. -/
import Derived.Test.YtmciiobncfchlaaQvR
import Derived.Test.YtmciiobncfchlaaQvL
namespace Go.Proofs.Ytmciiobncfchlaa
open Go.RowKit
set_option linter.unusedVariables false      -- a contract need not use every name

theorem stOk_small (q : List Rq) (h : q.length ≤ 20) : StOk (tC q) (wpl q q.length) := stOk_20 _ _ (Nat.le_trans (wpl_len q _) h)
/-- A head in a box. -/
def HB (w : World) (B : Nat) (t r : Int) (v : Value) (W : Int) : Prop := w.heap[B]? = some (.cells #[.int .i64 t, .int .i64 r, v, .int .i64 W] 27)
abbrev filld (w : World) (B : Nat) (u0 u1 u2 u3 : Value) : World := (((w.setCell ⟨B, 0, none⟩ u0).setCell ⟨B, 1, none⟩ u1).setCell ⟨B, 2, none⟩ u2).setCell ⟨B, 3, none⟩ u3
theorem HB.fill {w : World} {B : Nat} {t r W : Int} {v : Value} (h : HB w B t r v W) (t' r' W' : Int) (v' : Value) : HB (filld w B (.int .i64 t') (.int .i64 r') v' (.int .i64 W')) B t' r' v' W' :=
  hset (j := 3) _ (hset (j := 2) _ (hset (j := 1) _ (hset (j := 0) _ h)))
theorem HB.made (w : World) (t r : Int) (v : Value) (W : Int) : HB (w.alloc (.cells #[.int .i64 t, .int .i64 r, v, .int .i64 W] 27)) w.heap.size t r v W := allocAt w _
theorem HB.nw {w w' : World} {B : Nat} {t r W : Int} {v : Value} (h : HB w B t r v W) (g : Nw w w') : HB w' B t r v W := g.at' h
/-- A result stored in a box that is older. -/
theorem is_one (w : World) (x : Int) : IS (w.alloc (.cells #[.int .i64 x] 3)) (.slice (some ⟨w.heap.size, 0, none⟩) 1 1) [x] := by
  have h := World.ownsRow_lit (base := 0) (size := 1) (e := 3) w #[.int .i64 x] 1 (Nat.zero_le _) (by unfold maxLen; omega) (by simp)
  unfold IS
  simpa using h
theorem rd_fill' {w0 w : World} {v : Value} {q : List Rq} (h : RqAt w v q) (hf : Fresh w0 v q) {B : Nat} (hB : B < w0.heap.size) (u0 u1 u2 u3 : Value) : RqAt (filld w B u0 u1 u2 u3) v q := rd_fill h hf hB u0 u1 u2 u3
set_option maxRecDepth 100000 in
theorem kT (x : Int) (w : World) : Calls Try.prog 31 #[.int .i64 x] w fun e w' => e = .returned (.agg #[.int .i64 x, .int .i64 (-1)]) ∧ Nw w w' := by
  go_enter Try.func31, Try.ntmps31
  go_wp2
  refine bodyPost_ret (v := .agg #[.int .i64 x, .int .i64 (-1)]) (by simp [results, Try.results31, go_sem, *]) rfl ⟨rfl, ?_⟩
  exact (Nw.refl w).alloc _
set_option maxRecDepth 100000 in
theorem lEmpty (w : World) : Calls Try.prog 9 #[] w fun e w' => e = .returned (hdV 0 (-1) (.slice none 0 0) 0) ∧ Nw w w' := by
  have HT := Lib.hid (kT 0)
  have hb := HB.made w 0 0 (.slice none 0 0) 0
  have hN : Nw w (w.alloc (.cells #[.int .i64 0, .int .i64 0, .slice none 0 0, .int .i64 0] 27)) := (Nw.refl w).alloc _
  go_enter Try.func9, Try.ntmps9
  go_wp2_with fail
  go_at_call 31
  refine (HT.out _).mono ?_
  rintro e w1 ⟨rfl, g⟩
  have hb1 := hb.nw g
  have d0 := hcell (j := 0) hb1
  have d1 := hcell (j := 1) hb1
  have d2 := hcell (j := 2) hb1
  have d3 := hcell (j := 3) hb1
  have fz := fun k => hfz (j := k) hb1
  have hl := hlt hb1
  have HN := Lib.hid (hN.trans g)
  clear hb hb1 g hN HT
  go_wp2
  exact bodyPost_ret (v := .agg #[.int .i64 0, .int .i64 (-1), .slice none 0 0, .int .i64 0]) (by simp [results, Try.results9, go_sem, *]) rfl ⟨rfl, fill_nw HN.out (Nat.le_refl _) _ _ _ _⟩
theorem lq0 : Ok 0 [] := (okQ_iff 0 []).1 (by kernel_rfl)
theorem lq1 : Ok 0 [⟨0, 1, 3, 3, 0⟩] := (okQ_iff 0 [⟨0, 1, 3, 3, 0⟩]).1 (by kernel_rfl)
theorem lq2 : Ok 1 [⟨0, 1, 3, 3, 0⟩, ⟨1, 2, 0, 6, 1⟩] := (okQ_iff 1 [⟨0, 1, 3, 3, 0⟩, ⟨1, 2, 0, 6, 1⟩]).1 (by kernel_rfl)
theorem lq3 : Ok 2 [⟨0, 1, 3, 3, 0⟩, ⟨1, 2, 0, 6, 1⟩, ⟨2, 3, 0, 3, 2⟩] := (okQ_iff 2 [⟨0, 1, 3, 3, 0⟩, ⟨1, 2, 0, 6, 1⟩, ⟨2, 3, 0, 3, 2⟩]).1 (by kernel_rfl)
theorem lq4 : Ok 2 [⟨1, 2, 0, 6, 1⟩, ⟨2, 3, 0, 3, 2⟩] := (okQ_iff 2 [⟨1, 2, 0, 6, 1⟩, ⟨2, 3, 0, 3, 2⟩]).1 (by kernel_rfl)
theorem la0 : askR ⟨0, -1, 0, []⟩ 0 1 3 = (⟨0, -1, 0, [⟨0, 1, 3, 3, 0⟩]⟩, true, 0) := by kernel_rfl
theorem la1 : askR ⟨0, -1, 0, [⟨0, 1, 3, 3, 0⟩]⟩ 1 2 6 = (⟨0, -1, 1, [⟨0, 1, 3, 3, 0⟩, ⟨1, 2, 0, 6, 1⟩]⟩, false, 0) := by kernel_rfl
theorem la2 : askR ⟨0, -1, 1, [⟨0, 1, 3, 3, 0⟩, ⟨1, 2, 0, 6, 1⟩]⟩ 2 3 3 = (⟨0, -1, 2, [⟨0, 1, 3, 3, 0⟩, ⟨1, 2, 0, 6, 1⟩, ⟨2, 3, 0, 3, 2⟩]⟩, false, 0) := by kernel_rfl
theorem ll3 : lvR ⟨0, -1, 2, [⟨0, 1, 3, 3, 0⟩, ⟨1, 2, 0, 6, 1⟩, ⟨2, 3, 0, 3, 2⟩]⟩ 0 = (⟨0, -1, 2, [⟨1, 2, 0, 6, 1⟩, ⟨2, 3, 0, 3, 2⟩]⟩, 0) := by kernel_rfl
theorem ls4 : scanQ [⟨1, 2, 0, 6, 1⟩, ⟨2, 3, 0, 3, 2⟩] = ([1], [⟨1, 2, 6, 6, 0⟩, ⟨2, 3, 0, 3, 2⟩]) := by kernel_rfl
theorem lm5 : mdQ [⟨1, 2, 6, 6, 0⟩, ⟨2, 3, 0, 3, 2⟩] 2 = 6 ∧ mdQ [⟨1, 2, 6, 6, 0⟩, ⟨2, 3, 0, 3, 2⟩] 3 = 0 := ⟨by kernel_rfl, by kernel_rfl⟩
set_option maxRecDepth 100000 in
set_option maxHeartbeats 8000000 in
theorem lives_ok (w : World) : Calls Try.prog 7 #[] w fun e w' => e = .returned (.bool true) ∧ Nw w w' := by
  have HEm := Lib.hid lEmpty
  have HA0 := Lib.hid (fun w => dAsk 0 (-1) 0 0 1 3 (.slice none 0 0) [] w (by simp) lq0 (Rd.nil w))
  unfold HD2 at HA0
  rw [la0] at HA0
  unfold hdV at HEm HA0
  go_enter Try.func7, Try.ntmps7
  go_wp2_with fail
  go_at_call 9
  refine (HEm.out _).mono ?_
  rintro e w1 ⟨rfl, g1⟩
  go_wp2_with fail
  go_at_call 8
  refine (HA0.out _).mono ?_
  rintro e w2 ⟨v, rfl, g2, hR, _, hf⟩
  obtain ⟨a, k, hv⟩ := hR.form
  simp only [List.length_cons, List.length_nil, Nat.reduceAdd] at hv
  subst hv
  have hb := HB.made w2 0 (-1) (.slice a 1 k) 0
  have hN : Nw w (w2.alloc (.cells #[.int .i64 0, .int .i64 (-1), .slice a 1 k, .int .i64 0] 27)) := (g1.trans g2).alloc _
  replace hR := hR.nw ((Nw.refl w2).alloc (.cells #[.int .i64 0, .int .i64 (-1), .slice a 1 k, .int .i64 0] 27))
  obtain ⟨B, hB⟩ : ∃ B, w2.heap.size = B := ⟨_, rfl⟩
  have hBw : w.heap.size ≤ B := by rw [← hB]; exact (g1.trans g2).sz
  rw [hB] at hb
  have HW := Lib.hid hB
  obtain ⟨u1, hw3⟩ : ∃ u1, w2.alloc (.cells #[.int .i64 0, .int .i64 (-1), .slice a 1 k, .int .i64 0] 27) = u1 := ⟨_, rfl⟩
  have HW3 := Lib.hid hw3
  rw [hw3] at hb hN hR
  have H1 := Lib.hid (And.intro hb (And.intro hN hR))
  clear hB hw3 hf g1 g2 hb hN hR
  have HC1 := Lib.hid (dAsk 0 (-1) 0 1 2 6 (.slice a 1 k) [⟨0, 1, 3, 3, 0⟩] u1 (by simp) lq1 H1.out.2.2)
  unfold HD2 at HC1
  rw [la1] at HC1
  unfold hdV at HC1
  have c0 := hcell (j := 0) H1.out.1
  have c1 := hcell (j := 1) H1.out.1
  have c2 := hcell (j := 2) H1.out.1
  have c3 := hcell (j := 3) H1.out.1
  have hl := hlt H1.out.1
  go_wp2_with fail
  rw [HW3.out, HW.out]
  go_wp2_with fail
  go_at_call 8
  refine HC1.out.mono ?_
  rintro e u1' ⟨v, rfl, gg, hR, _, hf⟩
  clear c0 c1 c2 c3 hl
  have hb1 := H1.out.1.nw gg
  obtain ⟨a2, k2, hv⟩ := hR.form
  simp only [List.length_cons, List.length_nil, Nat.reduceAdd] at hv
  subst hv
  have d0 := hcell (j := 0) hb1
  have d1 := hcell (j := 1) hb1
  have d2 := hcell (j := 2) hb1
  have d3 := hcell (j := 3) hb1
  have dz := fun k => hfz (j := k) hb1
  have dl := hlt hb1
  obtain ⟨u2, hu2⟩ : ∃ x, filld u1' B (.int .i64 0) (.int .i64 (-1)) (.slice a2 2 k2) (.int .i64 1) = x := ⟨_, rfl⟩
  have H2 := Lib.hid (And.intro (hb1.fill 0 (-1) 1 (.slice a2 2 k2)) (And.intro (fill_nw (H1.out.2.1.trans gg) hBw (.int .i64 0) (.int .i64 (-1)) (.slice a2 2 k2) (.int .i64 1)) (rd_fill' hR hf (hlt H1.out.1) (.int .i64 0) (.int .i64 (-1)) (.slice a2 2 k2) (.int .i64 1))))
  change Hid (HB (filld u1' B (.int .i64 0) (.int .i64 (-1)) (.slice a2 2 k2) (.int .i64 1)) B 0 (-1) (.slice a2 2 k2) 1 ∧ Nw w (filld u1' B (.int .i64 0) (.int .i64 (-1)) (.slice a2 2 k2) (.int .i64 1)) ∧ RqAt (filld u1' B (.int .i64 0) (.int .i64 (-1)) (.slice a2 2 k2) (.int .i64 1)) (.slice a2 2 k2) _) at H2
  rw [hu2] at H2
  have HE2 := Lib.hid hu2
  clear hb1
  clear hu2 gg hR hf HC1
  have HC2 := Lib.hid (dAsk 0 (-1) 1 2 3 3 (.slice a2 2 k2) [⟨0, 1, 3, 3, 0⟩, ⟨1, 2, 0, 6, 1⟩] u2 (by simp) lq2 H2.out.2.2)
  unfold HD2 at HC2
  rw [la2] at HC2
  unfold hdV at HC2
  have c0 := hcell (j := 0) H2.out.1
  have c1 := hcell (j := 1) H2.out.1
  have c2 := hcell (j := 2) H2.out.1
  have c3 := hcell (j := 3) H2.out.1
  have hl := hlt H2.out.1
  go_wp2_with fail
  have hE := HE2.out; unfold filld at hE; rw [hE]; clear hE d0 d1 d2 d3 dz dl
  go_wp2_with fail
  go_at_call 8
  refine HC2.out.mono ?_
  rintro e u2' ⟨v, rfl, gg, hR, _, hf⟩
  clear c0 c1 c2 c3 hl
  have hb2 := H2.out.1.nw gg
  obtain ⟨a3, k3, hv⟩ := hR.form
  simp only [List.length_cons, List.length_nil, Nat.reduceAdd] at hv
  subst hv
  have d0 := hcell (j := 0) hb2
  have d1 := hcell (j := 1) hb2
  have d2 := hcell (j := 2) hb2
  have d3 := hcell (j := 3) hb2
  have dz := fun k => hfz (j := k) hb2
  have dl := hlt hb2
  obtain ⟨u3, hu3⟩ : ∃ x, filld u2' B (.int .i64 0) (.int .i64 (-1)) (.slice a3 3 k3) (.int .i64 2) = x := ⟨_, rfl⟩
  have H3 := Lib.hid (And.intro (hb2.fill 0 (-1) 2 (.slice a3 3 k3)) (And.intro (fill_nw (H2.out.2.1.trans gg) hBw (.int .i64 0) (.int .i64 (-1)) (.slice a3 3 k3) (.int .i64 2)) (rd_fill' hR hf (hlt H2.out.1) (.int .i64 0) (.int .i64 (-1)) (.slice a3 3 k3) (.int .i64 2))))
  change Hid (HB (filld u2' B (.int .i64 0) (.int .i64 (-1)) (.slice a3 3 k3) (.int .i64 2)) B 0 (-1) (.slice a3 3 k3) 2 ∧ Nw w (filld u2' B (.int .i64 0) (.int .i64 (-1)) (.slice a3 3 k3) (.int .i64 2)) ∧ RqAt (filld u2' B (.int .i64 0) (.int .i64 (-1)) (.slice a3 3 k3) (.int .i64 2)) (.slice a3 3 k3) _) at H3
  rw [hu3] at H3
  have HE3 := Lib.hid hu3
  clear hb2
  clear hu3 gg hR hf HC2
  have HC3 := Lib.hid (dLeave 0 (-1) 2 0 (.slice a3 3 k3) [⟨0, 1, 3, 3, 0⟩, ⟨1, 2, 0, 6, 1⟩, ⟨2, 3, 0, 3, 2⟩] u3 (by simp) H3.out.2.2)
  unfold HD1 at HC3
  rw [ll3] at HC3
  unfold hdV at HC3
  have c0 := hcell (j := 0) H3.out.1
  have c1 := hcell (j := 1) H3.out.1
  have c2 := hcell (j := 2) H3.out.1
  have c3 := hcell (j := 3) H3.out.1
  have hl := hlt H3.out.1
  go_wp2_with fail
  have hE := HE3.out; unfold filld at hE; rw [hE]; clear hE d0 d1 d2 d3 dz dl
  go_wp2_with fail
  go_at_call 11
  refine HC3.out.mono ?_
  rintro e u3' ⟨v, rfl, gg, hR, _, hf⟩
  clear c0 c1 c2 c3 hl
  have hb3 := H3.out.1.nw gg
  obtain ⟨a4, k4, hv⟩ := hR.form
  simp only [List.length_cons, List.length_nil, Nat.reduceAdd] at hv
  subst hv
  have d0 := hcell (j := 0) hb3
  have d1 := hcell (j := 1) hb3
  have d2 := hcell (j := 2) hb3
  have d3 := hcell (j := 3) hb3
  have dz := fun k => hfz (j := k) hb3
  have dl := hlt hb3
  obtain ⟨u4, hu4⟩ : ∃ x, filld u3' B (.int .i64 0) (.int .i64 (-1)) (.slice a4 2 k4) (.int .i64 2) = x := ⟨_, rfl⟩
  have H4 := Lib.hid (And.intro (hb3.fill 0 (-1) 2 (.slice a4 2 k4)) (And.intro (fill_nw (H3.out.2.1.trans gg) hBw (.int .i64 0) (.int .i64 (-1)) (.slice a4 2 k4) (.int .i64 2)) (rd_fill' hR hf (hlt H3.out.1) (.int .i64 0) (.int .i64 (-1)) (.slice a4 2 k4) (.int .i64 2))))
  change Hid (HB (filld u3' B (.int .i64 0) (.int .i64 (-1)) (.slice a4 2 k4) (.int .i64 2)) B 0 (-1) (.slice a4 2 k4) 2 ∧ Nw w (filld u3' B (.int .i64 0) (.int .i64 (-1)) (.slice a4 2 k4) (.int .i64 2)) ∧ RqAt (filld u3' B (.int .i64 0) (.int .i64 (-1)) (.slice a4 2 k4) (.int .i64 2)) (.slice a4 2 k4) _) at H4
  rw [hu4] at H4
  have HE4 := Lib.hid hu4
  clear hb3
  clear hu4 gg hR hf HC3
  have HC4 := Lib.hid (dScan 0 (-1) 2 (.slice a4 2 k4) [⟨1, 2, 0, 6, 1⟩, ⟨2, 3, 0, 3, 2⟩] u4 (by simp) lq4 H4.out.2.2 (stOk_small [⟨1, 2, 0, 6, 1⟩, ⟨2, 3, 0, 3, 2⟩] (by simp)))
  simp only [ls4] at HC4
  unfold hdV at HC4
  have c0 := hcell (j := 0) H4.out.1
  have c1 := hcell (j := 1) H4.out.1
  have c2 := hcell (j := 2) H4.out.1
  have c3 := hcell (j := 3) H4.out.1
  have hl := hlt H4.out.1
  go_wp2_with fail
  have hE := HE4.out; unfold filld at hE; rw [hE]; clear hE d0 d1 d2 d3 dz dl
  go_wp2_with fail
  go_at_call 12
  refine HC4.out.mono ?_
  rintro e u4' ⟨v, vi, rfl, gg, hR, _, hI, hf, hif⟩
  clear c0 c1 c2 c3 hl
  have hb4 := H4.out.1.nw gg
  obtain ⟨a5, k5, hv⟩ := hR.form
  simp only [List.length_cons, List.length_nil, Nat.reduceAdd] at hv
  subst hv
  have d0 := hcell (j := 0) hb4
  have d1 := hcell (j := 1) hb4
  have d2 := hcell (j := 2) hb4
  have d3 := hcell (j := 3) hb4
  have dz := fun k => hfz (j := k) hb4
  have dl := hlt hb4
  obtain ⟨u5, hu5⟩ : ∃ x, filld u4' B (.int .i64 0) (.int .i64 (-1)) (.slice a5 2 k5) (.int .i64 2) = x := ⟨_, rfl⟩
  have H5 := Lib.hid (And.intro (hb4.fill 0 (-1) 2 (.slice a5 2 k5)) (And.intro (fill_nw (H4.out.2.1.trans gg) hBw (.int .i64 0) (.int .i64 (-1)) (.slice a5 2 k5) (.int .i64 2)) (rd_fill' hR hf (hlt H4.out.1) (.int .i64 0) (.int .i64 (-1)) (.slice a5 2 k5) (.int .i64 2))))
  change Hid (HB (filld u4' B (.int .i64 0) (.int .i64 (-1)) (.slice a5 2 k5) (.int .i64 2)) B 0 (-1) (.slice a5 2 k5) 2 ∧ Nw w (filld u4' B (.int .i64 0) (.int .i64 (-1)) (.slice a5 2 k5) (.int .i64 2)) ∧ RqAt (filld u4' B (.int .i64 0) (.int .i64 (-1)) (.slice a5 2 k5) (.int .i64 2)) (.slice a5 2 k5) _) at H5
  rw [hu5] at H5
  have HE5 := Lib.hid hu5
  clear hb4
  have HI := Lib.hid (And.intro hI (And.intro hif (hlt H4.out.1)))
  clear hu5 gg hR hf HC4 hI hif
  have hI5 : IS u5 vi [1] := by
    rw [← HE5.out]
    exact is_fill HI.out.1 (fun g e => by have := HI.out.2.1 g e; have := HI.out.2.2; omega) _ _ _ _
  obtain ⟨ai, ci, hvi, _⟩ := HI.out.1.box
  subst hvi
  simp only [List.length_cons, List.length_nil, Nat.reduceAdd] at hI5
  have hI6 := hI5.nw ((Nw.refl u5).alloc (.cells #[.int .i64 1] 3))
  have hI7 : IS (u5.alloc (.cells #[.int .i64 1] 3)) (.slice (some ⟨u5.heap.size, 0, none⟩) 1 1) [1] := is_one u5 1
  have HSm := Lib.hid (same_any _ _ _ [1] hI6 hI7)
  have HMo := Lib.hid (fun (x : World) (g : Nw u5 x) (t : Int) => dMode 0 (-1) 2 t (.slice a5 2 k5) [⟨1, 2, 6, 6, 0⟩, ⟨2, 3, 0, 3, 2⟩] x (by simp) (H5.out.2.2.nw g))
  unfold hdV at HMo
  have M1 := Lib.hid (fun (x : World) (g : Nw u5 x) => HMo.out x g 2)
  have M2 := Lib.hid (fun (x : World) (g : Nw u5 x) => HMo.out x g 3)
  rw [lm5.1] at M1
  rw [lm5.2] at M2
  clear HMo hI5 hI6 hI7
  go_wp2_with fail
  have hE := HE5.out
  unfold filld at hE
  rw [hE]
  clear hE d0 d1 d2 d3 dz dl
  have hsz : u4'.heap.size = u5.heap.size := by rw [← HE5.out]; simp [World.setCell]
  rw [hsz]
  clear hsz
  go_at_call 17
  refine HSm.out.mono ?_
  rintro e x1 ⟨rfl, s1⟩
  have t1 : Nw u5 x1 := ((Nw.refl u5).alloc _).trans s1
  have c0 := hcell (j := 0) (H5.out.1.nw t1)
  have c1 := hcell (j := 1) (H5.out.1.nw t1)
  have c2 := hcell (j := 2) (H5.out.1.nw t1)
  have c3 := hcell (j := 3) (H5.out.1.nw t1)
  have hl := hlt (H5.out.1.nw t1)
  have T1 := Lib.hid t1
  clear s1 t1
  go_wp2_with fail
  go_at_call 18
  refine (M1.out _ T1.out).mono ?_
  rintro e x2 ⟨rfl, s2⟩
  have T2 := Lib.hid (T1.out.trans s2)
  clear c0 c1 c2 c3 hl
  have c0 := hcell (j := 0) (H5.out.1.nw T2.out)
  have c1 := hcell (j := 1) (H5.out.1.nw T2.out)
  have c2 := hcell (j := 2) (H5.out.1.nw T2.out)
  have c3 := hcell (j := 3) (H5.out.1.nw T2.out)
  have hl := hlt (H5.out.1.nw T2.out)
  clear s2
  go_wp2_with fail
  go_at_call 18
  refine (M2.out _ T2.out).mono ?_
  rintro e x3 ⟨rfl, s3⟩
  go_wp2
  go_ret
  exact ⟨rfl, H5.out.2.1.trans (T2.out.trans s3)⟩
end Go.Proofs.Ytmciiobncfchlaa
