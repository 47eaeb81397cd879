/- Contracts of the reference's functions on names, third part: Under. -/
import Derived.Test.YtdcjhjmbfpkigaaDoorRefB
import Derived.Test.YtdcjhjmbfpkigaaDoorNameAboveB
namespace Go.Proofs.YtdcjhjmbfpkigaaDoor
open Go.ChangeShapes Go.WideShapes Go.ChangeAt Go.RowKit

theorem refUnder_bad1 (t r t' r' : Int) (w : World) (h : lvl t r = -1) :
    Calls Tryd.prog 32 #[.agg #[.int .i64 t, .int .i64 r], .agg #[.int .i64 t', .int .i64 r']] w fun e w' => e = .returned (.bool false) ∧ Nw w w' := by
  have H := Lib.hid h
  clear h
  go_enter Tryd.func32, Tryd.ntmps32
  go_wp2_with fail
  refine (refLevel_val _ _ _ _ H.out).mono ?_
  rintro e w' ⟨rfl, hg⟩; (first | (replace hG := Nw.trans hG hg; clear hc hf) | have hG := hg); clear hg; obtain ⟨hc, hf⟩ := hG.rules
  go_wp2
  go_ret
  exact ⟨rfl, (((Nw.refl _).alloc _).alloc _).trans hG⟩
theorem refUnder_bad2 (t r t' r' L : Int) (w : World) (h : lvl t r = L) (hL : 0 ≤ L) (h' : lvl t' r' = -1) :
    Calls Tryd.prog 32 #[.agg #[.int .i64 t, .int .i64 r], .agg #[.int .i64 t', .int .i64 r']] w fun e w' => e = .returned (.bool false) ∧ Nw w w' := by
  have H := Lib.hid h
  have H' := Lib.hid h'
  clear h h'
  go_enter Tryd.func32, Tryd.ntmps32
  go_wp2_with fail
  refine (refLevel_val _ _ _ _ H.out).mono ?_
  rintro e w' ⟨rfl, hg⟩; (first | (replace hG := Nw.trans hG hg; clear hc hf) | have hG := hg); clear hg; obtain ⟨hc, hf⟩ := hG.rules
  go_wp2_with fail
  refine (refLevel_val _ _ _ _ H'.out).mono ?_
  rintro e w' ⟨rfl, hg⟩; (first | (replace hG := Nw.trans hG hg; clear hc hf) | have hG := hg); clear hg; obtain ⟨hc, hf⟩ := hG.rules
  go_wp2
  go_ret
  exact ⟨rfl, (((Nw.refl _).alloc _).alloc _).trans hG⟩
set_option maxHeartbeats 1000000 in
theorem refUnder_db_self (L : Int) (w : World) (hk : lvl (-1) (-1) = 0) (h' : lvl (-1) (-1) = L) (hL : 0 ≤ L)  :
    Calls Tryd.prog 32 #[.agg #[.int .i64 (-1), .int .i64 (-1)], .agg #[.int .i64 (-1), .int .i64 (-1)]] w fun e w' => e = .returned (.bool true) ∧ Nw w w' := by
  have H := Lib.hid hk
  have H' := Lib.hid h'
  clear hk h'
  go_enter Tryd.func32, Tryd.ntmps32
  go_wp2_with fail
  refine (refLevel_val _ _ _ _ H.out).mono ?_
  rintro e w' ⟨rfl, hg⟩; (first | (replace hG := Nw.trans hG hg; clear hc hf) | have hG := hg); clear hg; obtain ⟨hc, hf⟩ := hG.rules
  go_wp2_with fail
  refine (refLevel_val _ _ _ _ H'.out).mono ?_
  rintro e w' ⟨rfl, hg⟩; (first | (replace hG := Nw.trans hG hg; clear hc hf) | have hG := hg); clear hg; obtain ⟨hc, hf⟩ := hG.rules
  go_wp2_with fail
  refine (refAnc_none _ _ _ (.inl H.out)).mono ?_
  rintro e w' ⟨rfl, hg⟩; (first | (replace hG := Nw.trans hG hg; clear hc hf) | have hG := hg); clear hg; obtain ⟨hc, hf⟩ := hG.rules
  go_wp2
  refine wp_loop_rounds 1 ?_
  rw [rounds_succ]
  go_wp2
  go_ret
  exact ⟨rfl, (((Nw.refl _).alloc _).alloc _).trans hG⟩
set_option maxHeartbeats 1000000 in
theorem refUnder_db_a (a1 b1 L : Int) (w : World) (hk : lvl (-1) (-1) = 0) (h' : lvl a1 b1 = L) (hL : 0 ≤ L) (p : ((-1 : Int) == a1) = false) :
    Calls Tryd.prog 32 #[.agg #[.int .i64 (-1), .int .i64 (-1)], .agg #[.int .i64 a1, .int .i64 b1]] w fun e w' => e = .returned (.bool false) ∧ Nw w w' := by
  have H := Lib.hid hk
  have H' := Lib.hid h'
  clear hk h'
  go_enter Tryd.func32, Tryd.ntmps32
  go_wp2_with fail
  refine (refLevel_val _ _ _ _ H.out).mono ?_
  rintro e w' ⟨rfl, hg⟩; (first | (replace hG := Nw.trans hG hg; clear hc hf) | have hG := hg); clear hg; obtain ⟨hc, hf⟩ := hG.rules
  go_wp2_with fail
  refine (refLevel_val _ _ _ _ H'.out).mono ?_
  rintro e w' ⟨rfl, hg⟩; (first | (replace hG := Nw.trans hG hg; clear hc hf) | have hG := hg); clear hg; obtain ⟨hc, hf⟩ := hG.rules
  go_wp2_with fail
  refine (refAnc_none _ _ _ (.inl H.out)).mono ?_
  rintro e w' ⟨rfl, hg⟩; (first | (replace hG := Nw.trans hG hg; clear hc hf) | have hG := hg); clear hg; obtain ⟨hc, hf⟩ := hG.rules
  go_wp2
  refine wp_loop_rounds 1 ?_
  rw [rounds_succ]
  go_wp2
  go_ret
  exact ⟨rfl, (((Nw.refl _).alloc _).alloc _).trans hG⟩
set_option maxHeartbeats 1000000 in
theorem refUnder_db_b (b1 L : Int) (w : World) (hk : lvl (-1) (-1) = 0) (h' : lvl (-1) b1 = L) (hL : 0 ≤ L) (p : ((-1 : Int) == b1) = false) :
    Calls Tryd.prog 32 #[.agg #[.int .i64 (-1), .int .i64 (-1)], .agg #[.int .i64 (-1), .int .i64 b1]] w fun e w' => e = .returned (.bool false) ∧ Nw w w' := by
  have H := Lib.hid hk
  have H' := Lib.hid h'
  clear hk h'
  go_enter Tryd.func32, Tryd.ntmps32
  go_wp2_with fail
  refine (refLevel_val _ _ _ _ H.out).mono ?_
  rintro e w' ⟨rfl, hg⟩; (first | (replace hG := Nw.trans hG hg; clear hc hf) | have hG := hg); clear hg; obtain ⟨hc, hf⟩ := hG.rules
  go_wp2_with fail
  refine (refLevel_val _ _ _ _ H'.out).mono ?_
  rintro e w' ⟨rfl, hg⟩; (first | (replace hG := Nw.trans hG hg; clear hc hf) | have hG := hg); clear hg; obtain ⟨hc, hf⟩ := hG.rules
  go_wp2_with fail
  refine (refAnc_none _ _ _ (.inl H.out)).mono ?_
  rintro e w' ⟨rfl, hg⟩; (first | (replace hG := Nw.trans hG hg; clear hc hf) | have hG := hg); clear hg; obtain ⟨hc, hf⟩ := hG.rules
  go_wp2
  refine wp_loop_rounds 1 ?_
  rw [rounds_succ]
  go_wp2
  go_ret
  exact ⟨rfl, (((Nw.refl _).alloc _).alloc _).trans hG⟩
set_option maxHeartbeats 1000000 in
theorem refUnder_tab_self (a0 L : Int) (w : World) (hk : lvl a0 (-1) = 1) (h' : lvl a0 (-1) = L) (hL : 0 ≤ L) (x0 : ((-1 : Int) == a0) = false) :
    Calls Tryd.prog 32 #[.agg #[.int .i64 a0, .int .i64 (-1)], .agg #[.int .i64 a0, .int .i64 (-1)]] w fun e w' => e = .returned (.bool true) ∧ Nw w w' := by
  have H := Lib.hid hk
  have H' := Lib.hid h'
  clear hk h'
  go_enter Tryd.func32, Tryd.ntmps32
  go_wp2_with fail
  refine (refLevel_val _ _ _ _ H.out).mono ?_
  rintro e w' ⟨rfl, hg⟩; (first | (replace hG := Nw.trans hG hg; clear hc hf) | have hG := hg); clear hg; obtain ⟨hc, hf⟩ := hG.rules
  go_wp2_with fail
  refine (refLevel_val _ _ _ _ H'.out).mono ?_
  rintro e w' ⟨rfl, hg⟩; (first | (replace hG := Nw.trans hG hg; clear hc hf) | have hG := hg); clear hg; obtain ⟨hc, hf⟩ := hG.rules
  go_wp2_with fail
  refine (refAnc_tab _ _ H.out).mono ?_
  rintro e wa ⟨bb, rfl, hn, hb, hg⟩
  replace hG := Nw.trans hG hg
  clear hc hf hg
  obtain ⟨hc, hf⟩ := hG.rules
  have x0 := (hn.2 0 (by simp)).1
  have y0 := (hn.2 0 (by simp)).2
  simp only [Nat.zero_mul, Nat.zero_add, List.getElem_cons_zero] at x0 y0
  have z0 : wa.cell? ⟨w.heap.size, 0, none⟩ = some (.int .i64 (a0)) := by simp [hc, go_sem]
  have z1 : wa.cell? ⟨w.heap.size, 1, none⟩ = some (.int .i64 ((-1))) := by simp [hc, go_sem]
  have z2 : wa.cell? ⟨w.heap.size + 1, 0, none⟩ = some (.int .i64 (a0)) := by simp [hc, go_sem]
  have z3 : wa.cell? ⟨w.heap.size + 1, 1, none⟩ = some (.int .i64 ((-1))) := by simp [hc, go_sem]
  have hN := (((Nw.refl w).alloc (.cells #[.int .i64 a0, .int .i64 (-1)] 24)).alloc (.cells #[.int .i64 a0, .int .i64 (-1)] 24)).trans hG
  clear hc hf hn hG
  go_wp2
  refine wp_loop_rounds 2 ?_
  rw [rounds_succ]
  go_wp2
  go_quiet (fail)
  go_wp2
  rw [rounds_succ]
  go_wp2
  go_ret
  exact ⟨rfl, hN.drewN _⟩
set_option maxHeartbeats 1000000 in
theorem refUnder_tab_db (a0 L : Int) (w : World) (hk : lvl a0 (-1) = 1) (h' : lvl (-1) (-1) = L) (hL : 0 ≤ L)  :
    Calls Tryd.prog 32 #[.agg #[.int .i64 a0, .int .i64 (-1)], .agg #[.int .i64 (-1), .int .i64 (-1)]] w fun e w' => e = .returned (.bool true) ∧ Nw w w' := by
  have H := Lib.hid hk
  have H' := Lib.hid h'
  clear hk h'
  go_enter Tryd.func32, Tryd.ntmps32
  go_wp2_with fail
  refine (refLevel_val _ _ _ _ H.out).mono ?_
  rintro e w' ⟨rfl, hg⟩; (first | (replace hG := Nw.trans hG hg; clear hc hf) | have hG := hg); clear hg; obtain ⟨hc, hf⟩ := hG.rules
  go_wp2_with fail
  refine (refLevel_val _ _ _ _ H'.out).mono ?_
  rintro e w' ⟨rfl, hg⟩; (first | (replace hG := Nw.trans hG hg; clear hc hf) | have hG := hg); clear hg; obtain ⟨hc, hf⟩ := hG.rules
  go_wp2_with fail
  refine (refAnc_tab _ _ H.out).mono ?_
  rintro e wa ⟨bb, rfl, hn, hb, hg⟩
  replace hG := Nw.trans hG hg
  clear hc hf hg
  obtain ⟨hc, hf⟩ := hG.rules
  have x0 := (hn.2 0 (by simp)).1
  have y0 := (hn.2 0 (by simp)).2
  simp only [Nat.zero_mul, Nat.zero_add, List.getElem_cons_zero] at x0 y0
  have z0 : wa.cell? ⟨w.heap.size, 0, none⟩ = some (.int .i64 (a0)) := by simp [hc, go_sem]
  have z1 : wa.cell? ⟨w.heap.size, 1, none⟩ = some (.int .i64 ((-1))) := by simp [hc, go_sem]
  have z2 : wa.cell? ⟨w.heap.size + 1, 0, none⟩ = some (.int .i64 ((-1))) := by simp [hc, go_sem]
  have z3 : wa.cell? ⟨w.heap.size + 1, 1, none⟩ = some (.int .i64 ((-1))) := by simp [hc, go_sem]
  have hN := (((Nw.refl w).alloc (.cells #[.int .i64 a0, .int .i64 (-1)] 24)).alloc (.cells #[.int .i64 (-1), .int .i64 (-1)] 24)).trans hG
  clear hc hf hn hG
  go_wp2
  refine wp_loop_rounds 2 ?_
  rw [rounds_succ]
  go_wp2
  go_quiet (fail)
  go_wp2
  go_ret
  exact ⟨rfl, hN.drewN _⟩
set_option maxHeartbeats 1000000 in
theorem refUnder_tab_a (a0 a1 b1 L : Int) (w : World) (hk : lvl a0 (-1) = 1) (h' : lvl a1 b1 = L) (hL : 0 ≤ L) (p : ((-1 : Int) == a1) = false) (q : (a0 == a1) = false) :
    Calls Tryd.prog 32 #[.agg #[.int .i64 a0, .int .i64 (-1)], .agg #[.int .i64 a1, .int .i64 b1]] w fun e w' => e = .returned (.bool false) ∧ Nw w w' := by
  have H := Lib.hid hk
  have H' := Lib.hid h'
  clear hk h'
  go_enter Tryd.func32, Tryd.ntmps32
  go_wp2_with fail
  refine (refLevel_val _ _ _ _ H.out).mono ?_
  rintro e w' ⟨rfl, hg⟩; (first | (replace hG := Nw.trans hG hg; clear hc hf) | have hG := hg); clear hg; obtain ⟨hc, hf⟩ := hG.rules
  go_wp2_with fail
  refine (refLevel_val _ _ _ _ H'.out).mono ?_
  rintro e w' ⟨rfl, hg⟩; (first | (replace hG := Nw.trans hG hg; clear hc hf) | have hG := hg); clear hg; obtain ⟨hc, hf⟩ := hG.rules
  go_wp2_with fail
  refine (refAnc_tab _ _ H.out).mono ?_
  rintro e wa ⟨bb, rfl, hn, hb, hg⟩
  replace hG := Nw.trans hG hg
  clear hc hf hg
  obtain ⟨hc, hf⟩ := hG.rules
  have x0 := (hn.2 0 (by simp)).1
  have y0 := (hn.2 0 (by simp)).2
  simp only [Nat.zero_mul, Nat.zero_add, List.getElem_cons_zero] at x0 y0
  have z0 : wa.cell? ⟨w.heap.size, 0, none⟩ = some (.int .i64 (a0)) := by simp [hc, go_sem]
  have z1 : wa.cell? ⟨w.heap.size, 1, none⟩ = some (.int .i64 ((-1))) := by simp [hc, go_sem]
  have z2 : wa.cell? ⟨w.heap.size + 1, 0, none⟩ = some (.int .i64 (a1)) := by simp [hc, go_sem]
  have z3 : wa.cell? ⟨w.heap.size + 1, 1, none⟩ = some (.int .i64 (b1)) := by simp [hc, go_sem]
  have hN := (((Nw.refl w).alloc (.cells #[.int .i64 a0, .int .i64 (-1)] 24)).alloc (.cells #[.int .i64 a1, .int .i64 b1] 24)).trans hG
  clear hc hf hn hG
  go_wp2
  refine wp_loop_rounds 2 ?_
  rw [rounds_succ]
  go_wp2
  go_quiet (fail)
  go_wp2
  rw [rounds_succ]
  go_wp2
  go_ret
  exact ⟨rfl, hN.drewN _⟩
set_option maxHeartbeats 1000000 in
theorem refUnder_tab_b (a0 b1 L : Int) (w : World) (hk : lvl a0 (-1) = 1) (h' : lvl a0 b1 = L) (hL : 0 ≤ L) (x0 : ((-1 : Int) == a0) = false) (q : ((-1 : Int) == b1) = false) :
    Calls Tryd.prog 32 #[.agg #[.int .i64 a0, .int .i64 (-1)], .agg #[.int .i64 a0, .int .i64 b1]] w fun e w' => e = .returned (.bool false) ∧ Nw w w' := by
  have H := Lib.hid hk
  have H' := Lib.hid h'
  clear hk h'
  go_enter Tryd.func32, Tryd.ntmps32
  go_wp2_with fail
  refine (refLevel_val _ _ _ _ H.out).mono ?_
  rintro e w' ⟨rfl, hg⟩; (first | (replace hG := Nw.trans hG hg; clear hc hf) | have hG := hg); clear hg; obtain ⟨hc, hf⟩ := hG.rules
  go_wp2_with fail
  refine (refLevel_val _ _ _ _ H'.out).mono ?_
  rintro e w' ⟨rfl, hg⟩; (first | (replace hG := Nw.trans hG hg; clear hc hf) | have hG := hg); clear hg; obtain ⟨hc, hf⟩ := hG.rules
  go_wp2_with fail
  refine (refAnc_tab _ _ H.out).mono ?_
  rintro e wa ⟨bb, rfl, hn, hb, hg⟩
  replace hG := Nw.trans hG hg
  clear hc hf hg
  obtain ⟨hc, hf⟩ := hG.rules
  have x0 := (hn.2 0 (by simp)).1
  have y0 := (hn.2 0 (by simp)).2
  simp only [Nat.zero_mul, Nat.zero_add, List.getElem_cons_zero] at x0 y0
  have z0 : wa.cell? ⟨w.heap.size, 0, none⟩ = some (.int .i64 (a0)) := by simp [hc, go_sem]
  have z1 : wa.cell? ⟨w.heap.size, 1, none⟩ = some (.int .i64 ((-1))) := by simp [hc, go_sem]
  have z2 : wa.cell? ⟨w.heap.size + 1, 0, none⟩ = some (.int .i64 (a0)) := by simp [hc, go_sem]
  have z3 : wa.cell? ⟨w.heap.size + 1, 1, none⟩ = some (.int .i64 (b1)) := by simp [hc, go_sem]
  have hN := (((Nw.refl w).alloc (.cells #[.int .i64 a0, .int .i64 (-1)] 24)).alloc (.cells #[.int .i64 a0, .int .i64 b1] 24)).trans hG
  clear hc hf hn hG
  go_wp2
  refine wp_loop_rounds 2 ?_
  rw [rounds_succ]
  go_wp2
  go_quiet (fail)
  go_wp2
  rw [rounds_succ]
  go_wp2
  go_ret
  exact ⟨rfl, hN.drewN _⟩
set_option maxHeartbeats 1000000 in
theorem refUnder_tab_c (a0 b1 L : Int) (w : World) (hk : lvl a0 (-1) = 1) (h' : lvl (-1) b1 = L) (hL : 0 ≤ L) (p : ((-1 : Int) == b1) = false) (q : (a0 == -1) = false) :
    Calls Tryd.prog 32 #[.agg #[.int .i64 a0, .int .i64 (-1)], .agg #[.int .i64 (-1), .int .i64 b1]] w fun e w' => e = .returned (.bool false) ∧ Nw w w' := by
  have H := Lib.hid hk
  have H' := Lib.hid h'
  clear hk h'
  go_enter Tryd.func32, Tryd.ntmps32
  go_wp2_with fail
  refine (refLevel_val _ _ _ _ H.out).mono ?_
  rintro e w' ⟨rfl, hg⟩; (first | (replace hG := Nw.trans hG hg; clear hc hf) | have hG := hg); clear hg; obtain ⟨hc, hf⟩ := hG.rules
  go_wp2_with fail
  refine (refLevel_val _ _ _ _ H'.out).mono ?_
  rintro e w' ⟨rfl, hg⟩; (first | (replace hG := Nw.trans hG hg; clear hc hf) | have hG := hg); clear hg; obtain ⟨hc, hf⟩ := hG.rules
  go_wp2_with fail
  refine (refAnc_tab _ _ H.out).mono ?_
  rintro e wa ⟨bb, rfl, hn, hb, hg⟩
  replace hG := Nw.trans hG hg
  clear hc hf hg
  obtain ⟨hc, hf⟩ := hG.rules
  have x0 := (hn.2 0 (by simp)).1
  have y0 := (hn.2 0 (by simp)).2
  simp only [Nat.zero_mul, Nat.zero_add, List.getElem_cons_zero] at x0 y0
  have z0 : wa.cell? ⟨w.heap.size, 0, none⟩ = some (.int .i64 (a0)) := by simp [hc, go_sem]
  have z1 : wa.cell? ⟨w.heap.size, 1, none⟩ = some (.int .i64 ((-1))) := by simp [hc, go_sem]
  have z2 : wa.cell? ⟨w.heap.size + 1, 0, none⟩ = some (.int .i64 ((-1))) := by simp [hc, go_sem]
  have z3 : wa.cell? ⟨w.heap.size + 1, 1, none⟩ = some (.int .i64 (b1)) := by simp [hc, go_sem]
  have hN := (((Nw.refl w).alloc (.cells #[.int .i64 a0, .int .i64 (-1)] 24)).alloc (.cells #[.int .i64 (-1), .int .i64 b1] 24)).trans hG
  clear hc hf hn hG
  go_wp2
  refine wp_loop_rounds 2 ?_
  rw [rounds_succ]
  go_wp2
  go_quiet (fail)
  go_wp2
  rw [rounds_succ]
  go_wp2
  go_ret
  exact ⟨rfl, hN.drewN _⟩
set_option maxHeartbeats 1000000 in
theorem refUnder_rec_self (a0 b0 L : Int) (w : World) (hk : lvl a0 b0 = 2) (h' : lvl a0 b0 = L) (hL : 0 ≤ L) (x0 : ((-1 : Int) == a0) = false) (q : ((-1 : Int) == b0) = false) :
    Calls Tryd.prog 32 #[.agg #[.int .i64 a0, .int .i64 b0], .agg #[.int .i64 a0, .int .i64 b0]] w fun e w' => e = .returned (.bool true) ∧ Nw w w' := by
  have H := Lib.hid hk
  have H' := Lib.hid h'
  clear hk h'
  go_enter Tryd.func32, Tryd.ntmps32
  go_wp2_with fail
  refine (refLevel_val _ _ _ _ H.out).mono ?_
  rintro e w' ⟨rfl, hg⟩; (first | (replace hG := Nw.trans hG hg; clear hc hf) | have hG := hg); clear hg; obtain ⟨hc, hf⟩ := hG.rules
  go_wp2_with fail
  refine (refLevel_val _ _ _ _ H'.out).mono ?_
  rintro e w' ⟨rfl, hg⟩; (first | (replace hG := Nw.trans hG hg; clear hc hf) | have hG := hg); clear hg; obtain ⟨hc, hf⟩ := hG.rules
  go_wp2_with fail
  refine (refAnc_rec _ _ _ H.out).mono ?_
  rintro e wa ⟨bb, rfl, hn, hb, hg⟩
  replace hG := Nw.trans hG hg
  clear hc hf hg
  obtain ⟨hc, hf⟩ := hG.rules
  have x0 := (hn.2 0 (by simp)).1
  have y0 := (hn.2 0 (by simp)).2
  have x1 := (hn.2 1 (by simp)).1
  have y1 := (hn.2 1 (by simp)).2
  simp only [Nat.zero_mul, Nat.one_mul, Nat.zero_add, List.getElem_cons_zero, List.getElem_cons_succ] at x0 y0 x1 y1
  have z0 : wa.cell? ⟨w.heap.size, 0, none⟩ = some (.int .i64 (a0)) := by simp [hc, go_sem]
  have z1 : wa.cell? ⟨w.heap.size, 1, none⟩ = some (.int .i64 (b0)) := by simp [hc, go_sem]
  have z2 : wa.cell? ⟨w.heap.size + 1, 0, none⟩ = some (.int .i64 (a0)) := by simp [hc, go_sem]
  have z3 : wa.cell? ⟨w.heap.size + 1, 1, none⟩ = some (.int .i64 (b0)) := by simp [hc, go_sem]
  have hN := (((Nw.refl w).alloc (.cells #[.int .i64 a0, .int .i64 b0] 24)).alloc (.cells #[.int .i64 a0, .int .i64 b0] 24)).trans hG
  clear hc hf hn hG
  go_wp2
  refine wp_loop_rounds 3 ?_
  rw [rounds_succ]
  go_wp2
  go_quiet (fail)
  go_wp2
  rw [rounds_succ]
  go_wp2
  go_quiet (fail)
  go_wp2
  rw [rounds_succ]
  go_wp2
  go_ret
  first | exact ⟨rfl, hN.drewN _⟩ | exact ⟨rfl, (hN.drewN _).drewN _⟩
set_option maxHeartbeats 1000000 in
theorem refUnder_rec_db (a0 b0 L : Int) (w : World) (hk : lvl a0 b0 = 2) (h' : lvl (-1) (-1) = L) (hL : 0 ≤ L)  :
    Calls Tryd.prog 32 #[.agg #[.int .i64 a0, .int .i64 b0], .agg #[.int .i64 (-1), .int .i64 (-1)]] w fun e w' => e = .returned (.bool true) ∧ Nw w w' := by
  have H := Lib.hid hk
  have H' := Lib.hid h'
  clear hk h'
  go_enter Tryd.func32, Tryd.ntmps32
  go_wp2_with fail
  refine (refLevel_val _ _ _ _ H.out).mono ?_
  rintro e w' ⟨rfl, hg⟩; (first | (replace hG := Nw.trans hG hg; clear hc hf) | have hG := hg); clear hg; obtain ⟨hc, hf⟩ := hG.rules
  go_wp2_with fail
  refine (refLevel_val _ _ _ _ H'.out).mono ?_
  rintro e w' ⟨rfl, hg⟩; (first | (replace hG := Nw.trans hG hg; clear hc hf) | have hG := hg); clear hg; obtain ⟨hc, hf⟩ := hG.rules
  go_wp2_with fail
  refine (refAnc_rec _ _ _ H.out).mono ?_
  rintro e wa ⟨bb, rfl, hn, hb, hg⟩
  replace hG := Nw.trans hG hg
  clear hc hf hg
  obtain ⟨hc, hf⟩ := hG.rules
  have x0 := (hn.2 0 (by simp)).1
  have y0 := (hn.2 0 (by simp)).2
  have x1 := (hn.2 1 (by simp)).1
  have y1 := (hn.2 1 (by simp)).2
  simp only [Nat.zero_mul, Nat.one_mul, Nat.zero_add, List.getElem_cons_zero, List.getElem_cons_succ] at x0 y0 x1 y1
  have z0 : wa.cell? ⟨w.heap.size, 0, none⟩ = some (.int .i64 (a0)) := by simp [hc, go_sem]
  have z1 : wa.cell? ⟨w.heap.size, 1, none⟩ = some (.int .i64 (b0)) := by simp [hc, go_sem]
  have z2 : wa.cell? ⟨w.heap.size + 1, 0, none⟩ = some (.int .i64 ((-1))) := by simp [hc, go_sem]
  have z3 : wa.cell? ⟨w.heap.size + 1, 1, none⟩ = some (.int .i64 ((-1))) := by simp [hc, go_sem]
  have hN := (((Nw.refl w).alloc (.cells #[.int .i64 a0, .int .i64 b0] 24)).alloc (.cells #[.int .i64 (-1), .int .i64 (-1)] 24)).trans hG
  clear hc hf hn hG
  go_wp2
  refine wp_loop_rounds 3 ?_
  rw [rounds_succ]
  go_wp2
  go_quiet (fail)
  go_wp2
  go_ret
  exact ⟨rfl, hN.drewN _⟩
set_option maxHeartbeats 1000000 in
theorem refUnder_rec_tab (a0 b0 L : Int) (w : World) (hk : lvl a0 b0 = 2) (h' : lvl a0 (-1) = L) (hL : 0 ≤ L) (x0 : ((-1 : Int) == a0) = false) :
    Calls Tryd.prog 32 #[.agg #[.int .i64 a0, .int .i64 b0], .agg #[.int .i64 a0, .int .i64 (-1)]] w fun e w' => e = .returned (.bool true) ∧ Nw w w' := by
  have H := Lib.hid hk
  have H' := Lib.hid h'
  clear hk h'
  go_enter Tryd.func32, Tryd.ntmps32
  go_wp2_with fail
  refine (refLevel_val _ _ _ _ H.out).mono ?_
  rintro e w' ⟨rfl, hg⟩; (first | (replace hG := Nw.trans hG hg; clear hc hf) | have hG := hg); clear hg; obtain ⟨hc, hf⟩ := hG.rules
  go_wp2_with fail
  refine (refLevel_val _ _ _ _ H'.out).mono ?_
  rintro e w' ⟨rfl, hg⟩; (first | (replace hG := Nw.trans hG hg; clear hc hf) | have hG := hg); clear hg; obtain ⟨hc, hf⟩ := hG.rules
  go_wp2_with fail
  refine (refAnc_rec _ _ _ H.out).mono ?_
  rintro e wa ⟨bb, rfl, hn, hb, hg⟩
  replace hG := Nw.trans hG hg
  clear hc hf hg
  obtain ⟨hc, hf⟩ := hG.rules
  have x0 := (hn.2 0 (by simp)).1
  have y0 := (hn.2 0 (by simp)).2
  have x1 := (hn.2 1 (by simp)).1
  have y1 := (hn.2 1 (by simp)).2
  simp only [Nat.zero_mul, Nat.one_mul, Nat.zero_add, List.getElem_cons_zero, List.getElem_cons_succ] at x0 y0 x1 y1
  have z0 : wa.cell? ⟨w.heap.size, 0, none⟩ = some (.int .i64 (a0)) := by simp [hc, go_sem]
  have z1 : wa.cell? ⟨w.heap.size, 1, none⟩ = some (.int .i64 (b0)) := by simp [hc, go_sem]
  have z2 : wa.cell? ⟨w.heap.size + 1, 0, none⟩ = some (.int .i64 (a0)) := by simp [hc, go_sem]
  have z3 : wa.cell? ⟨w.heap.size + 1, 1, none⟩ = some (.int .i64 ((-1))) := by simp [hc, go_sem]
  have hN := (((Nw.refl w).alloc (.cells #[.int .i64 a0, .int .i64 b0] 24)).alloc (.cells #[.int .i64 a0, .int .i64 (-1)] 24)).trans hG
  clear hc hf hn hG
  go_wp2
  refine wp_loop_rounds 3 ?_
  rw [rounds_succ]
  go_wp2
  go_quiet (fail)
  go_wp2
  rw [rounds_succ]
  go_wp2
  go_quiet (fail)
  go_wp2
  go_ret
  first | exact ⟨rfl, hN.drewN _⟩ | exact ⟨rfl, (hN.drewN _).drewN _⟩
set_option maxHeartbeats 1000000 in
theorem refUnder_rec_a (a0 b0 a1 b1 L : Int) (w : World) (hk : lvl a0 b0 = 2) (h' : lvl a1 b1 = L) (hL : 0 ≤ L) (p : ((-1 : Int) == a1) = false) (q : (a0 == a1) = false) :
    Calls Tryd.prog 32 #[.agg #[.int .i64 a0, .int .i64 b0], .agg #[.int .i64 a1, .int .i64 b1]] w fun e w' => e = .returned (.bool false) ∧ Nw w w' := by
  have H := Lib.hid hk
  have H' := Lib.hid h'
  clear hk h'
  go_enter Tryd.func32, Tryd.ntmps32
  go_wp2_with fail
  refine (refLevel_val _ _ _ _ H.out).mono ?_
  rintro e w' ⟨rfl, hg⟩; (first | (replace hG := Nw.trans hG hg; clear hc hf) | have hG := hg); clear hg; obtain ⟨hc, hf⟩ := hG.rules
  go_wp2_with fail
  refine (refLevel_val _ _ _ _ H'.out).mono ?_
  rintro e w' ⟨rfl, hg⟩; (first | (replace hG := Nw.trans hG hg; clear hc hf) | have hG := hg); clear hg; obtain ⟨hc, hf⟩ := hG.rules
  go_wp2_with fail
  refine (refAnc_rec _ _ _ H.out).mono ?_
  rintro e wa ⟨bb, rfl, hn, hb, hg⟩
  replace hG := Nw.trans hG hg
  clear hc hf hg
  obtain ⟨hc, hf⟩ := hG.rules
  have x0 := (hn.2 0 (by simp)).1
  have y0 := (hn.2 0 (by simp)).2
  have x1 := (hn.2 1 (by simp)).1
  have y1 := (hn.2 1 (by simp)).2
  simp only [Nat.zero_mul, Nat.one_mul, Nat.zero_add, List.getElem_cons_zero, List.getElem_cons_succ] at x0 y0 x1 y1
  have z0 : wa.cell? ⟨w.heap.size, 0, none⟩ = some (.int .i64 (a0)) := by simp [hc, go_sem]
  have z1 : wa.cell? ⟨w.heap.size, 1, none⟩ = some (.int .i64 (b0)) := by simp [hc, go_sem]
  have z2 : wa.cell? ⟨w.heap.size + 1, 0, none⟩ = some (.int .i64 (a1)) := by simp [hc, go_sem]
  have z3 : wa.cell? ⟨w.heap.size + 1, 1, none⟩ = some (.int .i64 (b1)) := by simp [hc, go_sem]
  have hN := (((Nw.refl w).alloc (.cells #[.int .i64 a0, .int .i64 b0] 24)).alloc (.cells #[.int .i64 a1, .int .i64 b1] 24)).trans hG
  clear hc hf hn hG
  go_wp2
  refine wp_loop_rounds 3 ?_
  rw [rounds_succ]
  go_wp2
  go_quiet (fail)
  go_wp2
  rw [rounds_succ]
  go_wp2
  go_quiet (fail)
  go_wp2
  rw [rounds_succ]
  go_wp2
  go_ret
  first | exact ⟨rfl, hN.drewN _⟩ | exact ⟨rfl, (hN.drewN _).drewN _⟩
set_option maxHeartbeats 1000000 in
theorem refUnder_rec_b (a0 b0 b1 L : Int) (w : World) (hk : lvl a0 b0 = 2) (h' : lvl a0 b1 = L) (hL : 0 ≤ L) (x0 : ((-1 : Int) == a0) = false) (p : ((-1 : Int) == b1) = false) (q : (b0 == b1) = false) :
    Calls Tryd.prog 32 #[.agg #[.int .i64 a0, .int .i64 b0], .agg #[.int .i64 a0, .int .i64 b1]] w fun e w' => e = .returned (.bool false) ∧ Nw w w' := by
  have H := Lib.hid hk
  have H' := Lib.hid h'
  clear hk h'
  go_enter Tryd.func32, Tryd.ntmps32
  go_wp2_with fail
  refine (refLevel_val _ _ _ _ H.out).mono ?_
  rintro e w' ⟨rfl, hg⟩; (first | (replace hG := Nw.trans hG hg; clear hc hf) | have hG := hg); clear hg; obtain ⟨hc, hf⟩ := hG.rules
  go_wp2_with fail
  refine (refLevel_val _ _ _ _ H'.out).mono ?_
  rintro e w' ⟨rfl, hg⟩; (first | (replace hG := Nw.trans hG hg; clear hc hf) | have hG := hg); clear hg; obtain ⟨hc, hf⟩ := hG.rules
  go_wp2_with fail
  refine (refAnc_rec _ _ _ H.out).mono ?_
  rintro e wa ⟨bb, rfl, hn, hb, hg⟩
  replace hG := Nw.trans hG hg
  clear hc hf hg
  obtain ⟨hc, hf⟩ := hG.rules
  have x0 := (hn.2 0 (by simp)).1
  have y0 := (hn.2 0 (by simp)).2
  have x1 := (hn.2 1 (by simp)).1
  have y1 := (hn.2 1 (by simp)).2
  simp only [Nat.zero_mul, Nat.one_mul, Nat.zero_add, List.getElem_cons_zero, List.getElem_cons_succ] at x0 y0 x1 y1
  have z0 : wa.cell? ⟨w.heap.size, 0, none⟩ = some (.int .i64 (a0)) := by simp [hc, go_sem]
  have z1 : wa.cell? ⟨w.heap.size, 1, none⟩ = some (.int .i64 (b0)) := by simp [hc, go_sem]
  have z2 : wa.cell? ⟨w.heap.size + 1, 0, none⟩ = some (.int .i64 (a0)) := by simp [hc, go_sem]
  have z3 : wa.cell? ⟨w.heap.size + 1, 1, none⟩ = some (.int .i64 (b1)) := by simp [hc, go_sem]
  have hN := (((Nw.refl w).alloc (.cells #[.int .i64 a0, .int .i64 b0] 24)).alloc (.cells #[.int .i64 a0, .int .i64 b1] 24)).trans hG
  clear hc hf hn hG
  go_wp2
  refine wp_loop_rounds 3 ?_
  rw [rounds_succ]
  go_wp2
  go_quiet (fail)
  go_wp2
  rw [rounds_succ]
  go_wp2
  go_quiet (fail)
  go_wp2
  rw [rounds_succ]
  go_wp2
  go_ret
  first | exact ⟨rfl, hN.drewN _⟩ | exact ⟨rfl, (hN.drewN _).drewN _⟩
set_option maxHeartbeats 1000000 in
theorem refUnder_rec_c (a0 b0 b1 L : Int) (w : World) (hk : lvl a0 b0 = 2) (h' : lvl (-1) b1 = L) (hL : 0 ≤ L) (p : ((-1 : Int) == b1) = false) (q : (a0 == -1) = false) :
    Calls Tryd.prog 32 #[.agg #[.int .i64 a0, .int .i64 b0], .agg #[.int .i64 (-1), .int .i64 b1]] w fun e w' => e = .returned (.bool false) ∧ Nw w w' := by
  have H := Lib.hid hk
  have H' := Lib.hid h'
  clear hk h'
  go_enter Tryd.func32, Tryd.ntmps32
  go_wp2_with fail
  refine (refLevel_val _ _ _ _ H.out).mono ?_
  rintro e w' ⟨rfl, hg⟩; (first | (replace hG := Nw.trans hG hg; clear hc hf) | have hG := hg); clear hg; obtain ⟨hc, hf⟩ := hG.rules
  go_wp2_with fail
  refine (refLevel_val _ _ _ _ H'.out).mono ?_
  rintro e w' ⟨rfl, hg⟩; (first | (replace hG := Nw.trans hG hg; clear hc hf) | have hG := hg); clear hg; obtain ⟨hc, hf⟩ := hG.rules
  go_wp2_with fail
  refine (refAnc_rec _ _ _ H.out).mono ?_
  rintro e wa ⟨bb, rfl, hn, hb, hg⟩
  replace hG := Nw.trans hG hg
  clear hc hf hg
  obtain ⟨hc, hf⟩ := hG.rules
  have x0 := (hn.2 0 (by simp)).1
  have y0 := (hn.2 0 (by simp)).2
  have x1 := (hn.2 1 (by simp)).1
  have y1 := (hn.2 1 (by simp)).2
  simp only [Nat.zero_mul, Nat.one_mul, Nat.zero_add, List.getElem_cons_zero, List.getElem_cons_succ] at x0 y0 x1 y1
  have z0 : wa.cell? ⟨w.heap.size, 0, none⟩ = some (.int .i64 (a0)) := by simp [hc, go_sem]
  have z1 : wa.cell? ⟨w.heap.size, 1, none⟩ = some (.int .i64 (b0)) := by simp [hc, go_sem]
  have z2 : wa.cell? ⟨w.heap.size + 1, 0, none⟩ = some (.int .i64 ((-1))) := by simp [hc, go_sem]
  have z3 : wa.cell? ⟨w.heap.size + 1, 1, none⟩ = some (.int .i64 (b1)) := by simp [hc, go_sem]
  have hN := (((Nw.refl w).alloc (.cells #[.int .i64 a0, .int .i64 b0] 24)).alloc (.cells #[.int .i64 (-1), .int .i64 b1] 24)).trans hG
  clear hc hf hn hG
  go_wp2
  refine wp_loop_rounds 3 ?_
  rw [rounds_succ]
  go_wp2
  go_quiet (fail)
  go_wp2
  rw [rounds_succ]
  go_wp2
  go_quiet (fail)
  go_wp2
  rw [rounds_succ]
  go_wp2
  go_ret
  first | exact ⟨rfl, hN.drewN _⟩ | exact ⟨rfl, (hN.drewN _).drewN _⟩

theorem und_tt {t r t' r' : Int} (h : lvl t r ≠ -1 ∧ lvl t' r' ≠ -1 ∧ ((t' = -1 ∧ r' = -1) ∨ (t' = t ∧ (r' = -1 ∨ r' = r)))) : und t r t' r' = true := decide_eq_true h
theorem und_ff {t r t' r' : Int} (h : ¬ (lvl t r ≠ -1 ∧ lvl t' r' ≠ -1 ∧ ((t' = -1 ∧ r' = -1) ∨ (t' = t ∧ (r' = -1 ∨ r' = r))))) : und t r t' r' = false := decide_eq_false h
theorem refUnder_any (a0 b0 a1 b1 : Int) (w : World) :
    Calls Tryd.prog 32 #[.agg #[.int .i64 a0, .int .i64 b0], .agg #[.int .i64 a1, .int .i64 b1]] w fun e w' => e = .returned (.bool (und a0 b0 a1 b1)) ∧ Nw w w' := by
  have ne : ∀ {x y : Int}, x ≠ y → (x == y) = false := fun h => beq_eq_false_iff_ne.2 h
  by_cases hA : lvl a0 b0 = -1
  · rw [und_ff (fun h => h.1 hA)]; exact refUnder_bad1 a0 b0 a1 b1 w hA
  by_cases hB : lvl a1 b1 = -1
  · rw [und_ff (fun h => h.2.1 hB)]; exact refUnder_bad2 a0 b0 a1 b1 _ w rfl (lvl_ge _ _ hA) hB
  have hL := lvl_ge _ _ hB
  rcases kinds a0 b0 with ⟨rfl, rfl⟩ | ⟨h0, h1, rfl⟩ | ⟨h0, h1, h2, h3⟩ | h
  · by_cases e1 : a1 = -1
    · subst e1
      by_cases e2 : b1 = -1
      · subst e2; rw [und_tt ⟨hA, hA, .inl ⟨rfl, rfl⟩⟩]; exact refUnder_db_self _ w lvl_db rfl hL
      · rw [und_ff (fun ⟨_, _, h⟩ => by omega)]; exact refUnder_db_b b1 _ w lvl_db rfl hL (ne (by omega))
    · rw [und_ff (fun ⟨_, _, h⟩ => by omega)]; exact refUnder_db_a a1 b1 _ w lvl_db rfl hL (ne (by omega))
  · have hk := lvl_tab a0 h0 h1
    by_cases e1 : a1 = a0
    · subst e1
      by_cases e2 : b1 = -1
      · subst e2; rw [und_tt ⟨hA, hA, .inr ⟨rfl, .inl rfl⟩⟩]; exact refUnder_tab_self a1 _ w hk rfl hL (ne (by omega))
      · rw [und_ff (fun ⟨_, _, h⟩ => by omega)]; exact refUnder_tab_b a1 b1 _ w hk rfl hL (ne (by omega)) (ne (by omega))
    · by_cases e3 : a1 = -1
      · subst e3
        by_cases e2 : b1 = -1
        · subst e2; rw [und_tt ⟨hA, hB, .inl ⟨rfl, rfl⟩⟩]; exact refUnder_tab_db a0 _ w hk rfl hL
        · rw [und_ff (fun ⟨_, _, h⟩ => by omega)]; exact refUnder_tab_c a0 b1 _ w hk rfl hL (ne (by omega)) (ne (by omega))
      · rw [und_ff (fun ⟨_, _, h⟩ => by omega)]; exact refUnder_tab_a a0 a1 b1 _ w hk rfl hL (ne (by omega)) (ne (by omega))
  · have hk := lvl_rec a0 b0 h0 h1 h2 h3
    by_cases e1 : a1 = a0
    · subst e1
      by_cases e2 : b1 = b0
      · subst e2; rw [und_tt ⟨hA, hA, .inr ⟨rfl, .inr rfl⟩⟩]; exact refUnder_rec_self a1 b1 _ w hk rfl hL (ne (by omega)) (ne (by omega))
      · by_cases e3 : b1 = -1
        · subst e3; rw [und_tt ⟨hA, hB, .inr ⟨rfl, .inl rfl⟩⟩]; exact refUnder_rec_tab a1 b0 _ w hk rfl hL (ne (by omega))
        · rw [und_ff (fun ⟨_, _, h⟩ => by omega)]; exact refUnder_rec_b a1 b0 b1 _ w hk rfl hL (ne (by omega)) (ne (by omega)) (ne (by omega))
    · by_cases e3 : a1 = -1
      · subst e3
        by_cases e2 : b1 = -1
        · subst e2; rw [und_tt ⟨hA, hB, .inl ⟨rfl, rfl⟩⟩]; exact refUnder_rec_db a0 b0 _ w hk rfl hL
        · rw [und_ff (fun ⟨_, _, h⟩ => by omega)]; exact refUnder_rec_c a0 b0 b1 _ w hk rfl hL (ne (by omega)) (ne (by omega))
      · rw [und_ff (fun ⟨_, _, h⟩ => by omega)]; exact refUnder_rec_a a0 b0 a1 b1 _ w hk rfl hL (ne (by omega)) (ne (by omega))
  · exact absurd h hA
end Go.Proofs.YtdcjhjmbfpkigaaDoor
