/- Contracts of the reference's functions on names, first part: Database, Level, Check, Table, Record, Parent, Ancestors, Compare. -/
import Derived.Test.YtdcjhjmbfpkigaaDoorNameD
namespace Go.Proofs.YtdcjhjmbfpkigaaDoor
open Go.ChangeShapes Go.WideShapes Go.ChangeAt Go.RowKit

theorem refDatabase_any (w : World) :
    Calls Tryd.prog 35 #[] w fun e w' => e = .returned (.agg #[.int .i64 (-1), .int .i64 (-1)]) ∧ Nw w w' := by
  go_enter Tryd.func35, Tryd.ntmps35
  go_wp2
  exact bodyPost_ret (v := .agg #[.int .i64 (-1), .int .i64 (-1)]) (by simp [results, Tryd.results35, go_sem]) rfl ⟨rfl, (Nw.refl _).alloc _⟩
theorem refLevel_db (w : World) :
    Calls Tryd.prog 29 #[.agg #[.int .i64 (-1), .int .i64 (-1)]] w fun e w' => e = .returned (.int .i64 (0)) ∧ Nw w w' := by
  go_enter Tryd.func29, Tryd.ntmps29
  go_wp2
  go_region_held3 (fun w' => w'.cell? ⟨w.heap.size, 0, none⟩ = some (.int .i64 (-1)) ∧ w'.cell? ⟨w.heap.size, 1, none⟩ = some (.int .i64 (-1)) ∧ (w.heap.size < w'.heap.size ∧ Nw w w')) (first | exact box_start _ _ _ _ | exact box_step (by assumption) (by assumption))
    (first | (go_at_call 35; refine (refDatabase_any _).mono ?_; rintro e w' ⟨rfl, hg⟩))
  all_goals
    rename_i hS
    obtain ⟨hc0, hc1, _, hG⟩ := hS
    clear hg
    go_wp2
    go_ret
    exact ⟨rfl, hG⟩
theorem refLevel_tab (t : Int) (w : World) (h0 : 0 ≤ t) (h1 : t < 100) :
    Calls Tryd.prog 29 #[.agg #[.int .i64 t, .int .i64 (-1)]] w fun e w' => e = .returned (.int .i64 (1)) ∧ Nw w w' := by
  have e0 : (t == -1) = false := by simp; omega
  go_enter Tryd.func29, Tryd.ntmps29
  go_wp2
  go_region_held3 (fun w' => w'.cell? ⟨w.heap.size, 0, none⟩ = some (.int .i64 t) ∧ w'.cell? ⟨w.heap.size, 1, none⟩ = some (.int .i64 (-1)) ∧ (w.heap.size < w'.heap.size ∧ Nw w w')) (first | exact box_start _ _ _ _ | exact box_step (by assumption) (by assumption))
    (first | (go_at_call 35; refine (refDatabase_any _).mono ?_; rintro e w' ⟨rfl, hg⟩))
  all_goals
    rename_i hS
    obtain ⟨hc0, hc1, _, hG⟩ := hS
    clear hg
    go_wp2
    go_ret
    exact ⟨rfl, hG⟩
theorem refLevel_rec (t r : Int) (w : World) (h0 : 0 ≤ t) (h1 : t < 100) (h2 : 0 ≤ r) (h3 : r < 100) :
    Calls Tryd.prog 29 #[.agg #[.int .i64 t, .int .i64 r]] w fun e w' => e = .returned (.int .i64 (2)) ∧ Nw w w' := by
  have e0 : (t == -1) = false := by simp; omega
  have e1 : (r == -1) = false := by simp; omega
  have d2 : decide (r < -1) = false := by simp; omega
  go_enter Tryd.func29, Tryd.ntmps29
  go_wp2
  go_region_held3 (fun w' => w'.cell? ⟨w.heap.size, 0, none⟩ = some (.int .i64 t) ∧ w'.cell? ⟨w.heap.size, 1, none⟩ = some (.int .i64 r) ∧ (w.heap.size < w'.heap.size ∧ Nw w w')) (first | exact box_start _ _ _ _ | exact box_step (by assumption) (by assumption))
    (first | (go_at_call 35; refine (refDatabase_any _).mono ?_; rintro e w' ⟨rfl, hg⟩))
  all_goals
    rename_i hS
    obtain ⟨hc0, hc1, _, hG⟩ := hS
    clear hg
    go_wp2
    go_ret
    exact ⟨rfl, hG⟩
theorem refLevel_b1 (r : Int) (w : World) (h : r < -1 ∨ -1 < r) :
    Calls Tryd.prog 29 #[.agg #[.int .i64 (-1), .int .i64 r]] w fun e w' => e = .returned (.int .i64 (-1)) ∧ Nw w w' := by
  have e1 : (r == -1) = false := by simp; omega
  go_enter Tryd.func29, Tryd.ntmps29
  go_wp2
  go_region_held3 (fun w' => w'.cell? ⟨w.heap.size, 0, none⟩ = some (.int .i64 (-1)) ∧ w'.cell? ⟨w.heap.size, 1, none⟩ = some (.int .i64 r) ∧ (w.heap.size < w'.heap.size ∧ Nw w w')) (first | exact box_start _ _ _ _ | exact box_step (by assumption) (by assumption))
    (first | (go_at_call 35; refine (refDatabase_any _).mono ?_; rintro e w' ⟨rfl, hg⟩))
  all_goals
    rename_i hS
    obtain ⟨hc0, hc1, _, hG⟩ := hS
    clear hg
    go_wp2
    go_ret
    exact ⟨rfl, hG⟩
theorem refLevel_b2 (t r : Int) (w : World) (h : t < -1) :
    Calls Tryd.prog 29 #[.agg #[.int .i64 t, .int .i64 r]] w fun e w' => e = .returned (.int .i64 (-1)) ∧ Nw w w' := by
  have e0 : (t == -1) = false := by simp; omega
  have d0 : decide (t < 0) = true := by simp; omega
  go_enter Tryd.func29, Tryd.ntmps29
  go_wp2
  go_region_held3 (fun w' => w'.cell? ⟨w.heap.size, 0, none⟩ = some (.int .i64 t) ∧ w'.cell? ⟨w.heap.size, 1, none⟩ = some (.int .i64 r) ∧ (w.heap.size < w'.heap.size ∧ Nw w w')) (first | exact box_start _ _ _ _ | exact box_step (by assumption) (by assumption))
    (first | (go_at_call 35; refine (refDatabase_any _).mono ?_; rintro e w' ⟨rfl, hg⟩))
  all_goals
    rename_i hS
    obtain ⟨hc0, hc1, _, hG⟩ := hS
    clear hg
    go_wp2
    go_ret
    exact ⟨rfl, hG⟩
theorem refLevel_b3 (t r : Int) (w : World) (h : 100 ≤ t) :
    Calls Tryd.prog 29 #[.agg #[.int .i64 t, .int .i64 r]] w fun e w' => e = .returned (.int .i64 (-1)) ∧ Nw w w' := by
  have e0 : (t == -1) = false := by simp; omega
  have h0 : 0 ≤ t := by omega
  have d1 : decide (t < 100) = false := by simp; omega
  go_enter Tryd.func29, Tryd.ntmps29
  go_wp2
  go_region_held3 (fun w' => w'.cell? ⟨w.heap.size, 0, none⟩ = some (.int .i64 t) ∧ w'.cell? ⟨w.heap.size, 1, none⟩ = some (.int .i64 r) ∧ (w.heap.size < w'.heap.size ∧ Nw w w')) (first | exact box_start _ _ _ _ | exact box_step (by assumption) (by assumption))
    (first | (go_at_call 35; refine (refDatabase_any _).mono ?_; rintro e w' ⟨rfl, hg⟩))
  all_goals
    rename_i hS
    obtain ⟨hc0, hc1, _, hG⟩ := hS
    clear hg
    go_wp2
    go_ret
    exact ⟨rfl, hG⟩
theorem refLevel_b4 (t r : Int) (w : World) (h0 : 0 ≤ t) (h1 : t < 100) (h : r < -1) :
    Calls Tryd.prog 29 #[.agg #[.int .i64 t, .int .i64 r]] w fun e w' => e = .returned (.int .i64 (-1)) ∧ Nw w w' := by
  have e0 : (t == -1) = false := by simp; omega
  have e1 : (r == -1) = false := by simp; omega
  have d2 : decide (r < -1) = true := by simp; omega
  go_enter Tryd.func29, Tryd.ntmps29
  go_wp2
  go_region_held3 (fun w' => w'.cell? ⟨w.heap.size, 0, none⟩ = some (.int .i64 t) ∧ w'.cell? ⟨w.heap.size, 1, none⟩ = some (.int .i64 r) ∧ (w.heap.size < w'.heap.size ∧ Nw w w')) (first | exact box_start _ _ _ _ | exact box_step (by assumption) (by assumption))
    (first | (go_at_call 35; refine (refDatabase_any _).mono ?_; rintro e w' ⟨rfl, hg⟩))
  all_goals
    rename_i hS
    obtain ⟨hc0, hc1, _, hG⟩ := hS
    clear hg
    go_wp2
    go_ret
    exact ⟨rfl, hG⟩
theorem refLevel_b5 (t r : Int) (w : World) (h0 : 0 ≤ t) (h1 : t < 100) (h : 100 ≤ r) :
    Calls Tryd.prog 29 #[.agg #[.int .i64 t, .int .i64 r]] w fun e w' => e = .returned (.int .i64 (-1)) ∧ Nw w w' := by
  have e0 : (t == -1) = false := by simp; omega
  have e1 : (r == -1) = false := by simp; omega
  have d2 : decide (r < -1) = false := by simp; omega
  have d3 : decide (r < 100) = false := by simp; omega
  go_enter Tryd.func29, Tryd.ntmps29
  go_wp2
  go_region_held3 (fun w' => w'.cell? ⟨w.heap.size, 0, none⟩ = some (.int .i64 t) ∧ w'.cell? ⟨w.heap.size, 1, none⟩ = some (.int .i64 r) ∧ (w.heap.size < w'.heap.size ∧ Nw w w')) (first | exact box_start _ _ _ _ | exact box_step (by assumption) (by assumption))
    (first | (go_at_call 35; refine (refDatabase_any _).mono ?_; rintro e w' ⟨rfl, hg⟩))
  all_goals
    rename_i hS
    obtain ⟨hc0, hc1, _, hG⟩ := hS
    clear hg
    go_wp2
    go_ret
    exact ⟨rfl, hG⟩
theorem refLevel_any (t r : Int) (w : World) :
    Calls Tryd.prog 29 #[.agg #[.int .i64 t, .int .i64 r]] w fun e w' => e = .returned (.int .i64 (lvl t r)) ∧ Nw w w' := by
  by_cases h1 : t = -1
  · subst h1
    by_cases h2 : r = -1
    · subst h2; exact refLevel_db w
    · have e : lvl (-1) r = -1 := by unfold lvl; rw [if_neg (by omega), if_neg (by omega)]
      rw [e]; exact refLevel_b1 r w (by omega)
  · by_cases h3 : 0 ≤ t ∧ t < 100
    · obtain ⟨h3, h4⟩ := h3
      by_cases h2 : r = -1
      · subst h2; rw [lvl_tab t h3 h4]; exact refLevel_tab t w h3 h4
      · by_cases h5 : 0 ≤ r ∧ r < 100
        · rw [lvl_rec t r h3 h4 h5.1 h5.2]; exact refLevel_rec t r w h3 h4 h5.1 h5.2
        · have e : lvl t r = -1 := by unfold lvl; rw [if_neg (by omega), if_pos ⟨h3, h4⟩, if_neg h2, if_neg h5]
          rw [e]
          by_cases h6 : r < -1
          · exact refLevel_b4 t r w h3 h4 h6
          · exact refLevel_b5 t r w h3 h4 (by omega)
    · have e : lvl t r = -1 := by unfold lvl; rw [if_neg (by omega), if_neg h3]
      rw [e]
      by_cases h6 : t < -1
      · exact refLevel_b2 t r w h6
      · exact refLevel_b3 t r w (by omega)
theorem refLevel_val (t r L : Int) (w : World) (h : lvl t r = L) :
    Calls Tryd.prog 29 #[.agg #[.int .i64 t, .int .i64 r]] w fun e w' => e = .returned (.int .i64 L) ∧ Nw w w' := by
  subst h; exact refLevel_any t r w
theorem lvl_ge (t r : Int) (h : lvl t r ≠ -1) : 0 ≤ lvl t r := by
  rcases kinds t r with ⟨rfl, rfl⟩ | ⟨h0, h1, rfl⟩ | ⟨h0, h1, h2, h3⟩ | h0
  · rw [lvl_db]; decide
  · rw [lvl_tab t h0 h1]; decide
  · rw [lvl_rec t r h0 h1 h2 h3]; decide
  · exact absurd h0 h
theorem refCheck_ok (t r : Int) (w : World) (h : lvl t r ≠ -1) :
    Calls Tryd.prog 28 #[.agg #[.int .i64 t, .int .i64 r]] w fun e w' => e = .returned (.int .i64 0) ∧ Nw w w' := by
  have hL := lvl_ge t r h
  have H := refLevel_any t r
  generalize lvl t r = L at *
  have H2 := Lib.hid H
  clear H h
  go_enter Tryd.func28, Tryd.ntmps28
  go_wp2_with (go_at_call 29; refine (H2.out _).mono ?_; rintro e w' ⟨rfl, hg⟩)
  go_ret
  exact ⟨rfl, ((Nw.refl _).alloc _).trans hg⟩
theorem refCheck_no (t r : Int) (w : World) (h : lvl t r = -1) :
    Calls Tryd.prog 28 #[.agg #[.int .i64 t, .int .i64 r]] w fun e w' => e = .returned (.int .i64 2) ∧ Nw w w' := by
  have H2 := Lib.hid h
  clear h
  go_enter Tryd.func28, Tryd.ntmps28
  go_wp2_with (go_at_call 29; refine (refLevel_val _ _ _ _ H2.out).mono ?_; rintro e w' ⟨rfl, hg⟩)
  go_ret
  exact ⟨rfl, ((Nw.refl _).alloc _).trans hg⟩
theorem refTable_ok (t : Int) (w : World) (h : lvl t (-1) = 1) :
    Calls Tryd.prog 24 #[.int .i64 t] w fun e w' => e = .returned (.tuple #[.agg #[.int .i64 t, .int .i64 (-1)], .int .i64 0]) ∧ Nw w w' := by
  have H2 := Lib.hid h
  clear h
  go_enter Tryd.func24, Tryd.ntmps24
  go_wp2_with (go_at_call 29; refine (refLevel_val _ _ _ _ H2.out).mono ?_; rintro e w' ⟨rfl, hg⟩; (first | (replace hG := Nw.trans hG hg; clear hc hf) | have hG := hg); clear hg; obtain ⟨hc, hf⟩ := hG.rules)
  have x0 : w'.cell? ⟨w.heap.size, 0, none⟩ = some (.int .i64 0) := by simp [hc, go_sem]
  have x1 : w'.cell? ⟨w.heap.size, 1, none⟩ = some (.int .i64 0) := by simp [hc, go_sem]
  clear hc hf
  exact bodyPost_ret (v := .tuple #[.agg #[.int .i64 t, .int .i64 (-1)], .int .i64 0]) (by simp [results, Tryd.results24, go_sem, *]) rfl ⟨rfl, ((((((Nw.refl _).alloc _).alloc _).trans hG).set (by simp <;> omega) _).set (by simp <;> omega) _)⟩
theorem refTable_no (t : Int) (w : World) (h : lvl t (-1) ≠ 1) :
    Calls Tryd.prog 24 #[.int .i64 t] w fun e w' => e = .returned (.tuple #[.agg #[.int .i64 0, .int .i64 0], .int .i64 2]) ∧ Nw w w' := by
  have hL : (lvl t (-1) == 1) = false := by simpa using h
  have H := refLevel_any t (-1)
  generalize lvl t (-1) = L at *
  have H2 := Lib.hid H
  clear H h
  go_enter Tryd.func24, Tryd.ntmps24
  go_wp2_with (go_at_call 29; refine (H2.out _).mono ?_; rintro e w' ⟨rfl, hg⟩; (first | (replace hG := Nw.trans hG hg; clear hc hf) | have hG := hg); clear hg; obtain ⟨hc, hf⟩ := hG.rules)
  have x0 : w'.cell? ⟨w.heap.size, 0, none⟩ = some (.int .i64 0) := by simp [hc, go_sem]
  have x1 : w'.cell? ⟨w.heap.size, 1, none⟩ = some (.int .i64 0) := by simp [hc, go_sem]
  clear hc hf
  exact bodyPost_ret (v := .tuple #[.agg #[.int .i64 0, .int .i64 0], .int .i64 2]) (by simp [results, Tryd.results24, go_sem, *]) rfl ⟨rfl, ((((((Nw.refl _).alloc _).alloc _).trans hG).set (by simp <;> omega) _).set (by simp <;> omega) _)⟩
theorem refRecord_ok (t r : Int) (w : World) (h : lvl t r = 2) :
    Calls Tryd.prog 25 #[.int .i64 t, .int .i64 r] w fun e w' => e = .returned (.tuple #[.agg #[.int .i64 t, .int .i64 r], .int .i64 0]) ∧ Nw w w' := by
  have H2 := Lib.hid h
  clear h
  go_enter Tryd.func25, Tryd.ntmps25
  go_wp2_with (go_at_call 29; refine (refLevel_val _ _ _ _ H2.out).mono ?_; rintro e w' ⟨rfl, hg⟩; (first | (replace hG := Nw.trans hG hg; clear hc hf) | have hG := hg); clear hg; obtain ⟨hc, hf⟩ := hG.rules)
  have x0 : w'.cell? ⟨w.heap.size, 0, none⟩ = some (.int .i64 0) := by simp [hc, go_sem]
  have x1 : w'.cell? ⟨w.heap.size, 1, none⟩ = some (.int .i64 0) := by simp [hc, go_sem]
  clear hc hf
  exact bodyPost_ret (v := .tuple #[.agg #[.int .i64 t, .int .i64 r], .int .i64 0]) (by simp [results, Tryd.results25, go_sem, *]) rfl ⟨rfl, ((((((Nw.refl _).alloc _).alloc _).trans hG).set (by simp <;> omega) _).set (by simp <;> omega) _)⟩
theorem refRecord_no (t r : Int) (w : World) (h : lvl t r ≠ 2) :
    Calls Tryd.prog 25 #[.int .i64 t, .int .i64 r] w fun e w' => e = .returned (.tuple #[.agg #[.int .i64 0, .int .i64 0], .int .i64 2]) ∧ Nw w w' := by
  have hL : (lvl t r == 2) = false := by simpa using h
  have H := refLevel_any t r
  generalize lvl t r = L at *
  have H2 := Lib.hid H
  clear H h
  go_enter Tryd.func25, Tryd.ntmps25
  go_wp2_with (go_at_call 29; refine (H2.out _).mono ?_; rintro e w' ⟨rfl, hg⟩; (first | (replace hG := Nw.trans hG hg; clear hc hf) | have hG := hg); clear hg; obtain ⟨hc, hf⟩ := hG.rules)
  have x0 : w'.cell? ⟨w.heap.size, 0, none⟩ = some (.int .i64 0) := by simp [hc, go_sem]
  have x1 : w'.cell? ⟨w.heap.size, 1, none⟩ = some (.int .i64 0) := by simp [hc, go_sem]
  clear hc hf
  exact bodyPost_ret (v := .tuple #[.agg #[.int .i64 0, .int .i64 0], .int .i64 2]) (by simp [results, Tryd.results25, go_sem, *]) rfl ⟨rfl, ((((((Nw.refl _).alloc _).alloc _).trans hG).set (by simp <;> omega) _).set (by simp <;> omega) _)⟩
theorem refParent_tab (t : Int) (w : World) (h : lvl t (-1) = 1) :
    Calls Tryd.prog 26 #[.agg #[.int .i64 t, .int .i64 (-1)]] w fun e w' => e = .returned (.tuple #[.agg #[.int .i64 (-1), .int .i64 (-1)], .bool true]) ∧ Nw w w' := by
  have H2 := Lib.hid h
  clear h
  go_enter Tryd.func26, Tryd.ntmps26
  go_wp2_with (go_at_call 29; fail)
  refine (refLevel_val _ _ _ _ H2.out).mono ?_
  rintro e w' ⟨rfl, hg⟩; (first | (replace hG := Nw.trans hG hg; clear hc hf) | have hG := hg); clear hg; obtain ⟨hc, hf⟩ := hG.rules
  go_wp2_with (go_at_call 35; refine (refDatabase_any _).mono ?_; rintro e w' ⟨rfl, hg⟩; (first | (replace hG := Nw.trans hG hg; clear hc hf) | have hG := hg); clear hg; obtain ⟨hc, hf⟩ := hG.rules)
  exact bodyPost_ret (v := .tuple #[.agg #[.int .i64 (-1), .int .i64 (-1)], .bool true]) (by simp [results, Tryd.results26, go_sem, *]) rfl ⟨rfl, ((((((Nw.refl _).alloc _).alloc _).trans hG).set (by simp <;> omega) _).set (by simp <;> omega) _)⟩
theorem refParent_rec (t r : Int) (w : World) (h : lvl t r = 2) :
    Calls Tryd.prog 26 #[.agg #[.int .i64 t, .int .i64 r]] w fun e w' => e = .returned (.tuple #[.agg #[.int .i64 t, .int .i64 (-1)], .bool true]) ∧ Nw w w' := by
  have H2 := Lib.hid h
  clear h
  go_enter Tryd.func26, Tryd.ntmps26
  go_wp2_with (go_at_call 29; fail)
  refine (refLevel_val _ _ _ _ H2.out).mono ?_
  rintro e w' ⟨rfl, hg⟩; (first | (replace hG := Nw.trans hG hg; clear hc hf) | have hG := hg); clear hg; obtain ⟨hc, hf⟩ := hG.rules
  go_wp2
  exact bodyPost_ret (v := .tuple #[.agg #[.int .i64 t, .int .i64 (-1)], .bool true]) (by simp [results, Tryd.results26, go_sem, *]) rfl ⟨rfl, ((((((Nw.refl _).alloc _).alloc _).trans hG).set (by simp <;> omega) _).set (by simp <;> omega) _)⟩
theorem refParent_none (t r : Int) (w : World) (h : lvl t r = 0 ∨ lvl t r = -1) :
    Calls Tryd.prog 26 #[.agg #[.int .i64 t, .int .i64 r]] w fun e w' => e = .returned (.tuple #[.agg #[.int .i64 0, .int .i64 0], .bool false]) ∧ Nw w w' := by
  rcases h with h | h
  all_goals
    have H2 := Lib.hid h
    clear h
    go_enter Tryd.func26, Tryd.ntmps26
    go_wp2_with (go_at_call 29; fail)
    refine (refLevel_val _ _ _ _ H2.out).mono ?_
    rintro e w' ⟨rfl, hg⟩; (first | (replace hG := Nw.trans hG hg; clear hc hf) | have hG := hg); clear hg; obtain ⟨hc, hf⟩ := hG.rules
    go_wp2
    exact bodyPost_ret (v := .tuple #[.agg #[.int .i64 0, .int .i64 0], .bool false]) (by simp [results, Tryd.results26, go_sem, *]) rfl ⟨rfl, ((((((Nw.refl _).alloc _).alloc _).trans hG).set (by simp <;> omega) _).set (by simp <;> omega) _)⟩
theorem refAnc_none (t r : Int) (w : World) (h : lvl t r = 0 ∨ lvl t r = -1) :
    Calls Tryd.prog 31 #[.agg #[.int .i64 t, .int .i64 r]] w fun e w' => e = .returned (.slice none 0 0) ∧ Nw w w' := by
  rcases h with h | h
  all_goals
    have H2 := Lib.hid h
    clear h
    go_enter Tryd.func31, Tryd.ntmps31
    go_wp2_with (go_at_call 29; fail)
    refine (refLevel_val _ _ _ _ H2.out).mono ?_
    rintro e w' ⟨rfl, hg⟩; (first | (replace hG := Nw.trans hG hg; clear hc hf) | have hG := hg); clear hg; obtain ⟨hc, hf⟩ := hG.rules
    go_wp2
    go_ret
    exact ⟨rfl, ((Nw.refl _).alloc _).trans hG⟩
theorem refAnc_tab (t : Int) (w : World) (h : lvl t (-1) = 1) :
    Calls Tryd.prog 31 #[.agg #[.int .i64 t, .int .i64 (-1)]] w (NewNames w [(-1, -1)]) := by
  have H2 := Lib.hid h
  clear h
  go_enter Tryd.func31, Tryd.ntmps31
  go_wp2_with (go_at_call 29; fail)
  refine (refLevel_val _ _ _ _ H2.out).mono ?_
  rintro e w' ⟨rfl, hg⟩; (first | (replace hG := Nw.trans hG hg; clear hc hf) | have hG := hg); clear hg; obtain ⟨hc, hf⟩ := hG.rules
  go_wp2_with (go_at_call 35; refine (refDatabase_any _).mono ?_; rintro e w' ⟨rfl, hg⟩; (first | (replace hG := Nw.trans hG hg; clear hc hf) | have hG := hg); clear hg; obtain ⟨hc, hf⟩ := hG.rules)
  go_ret
  exact ⟨_, rfl, ncells_new _ [(-1, -1)] _, by simp at *; have := hG.sz; simp at this; omega, (((Nw.refl _).alloc _).trans hG).alloc _⟩
theorem refAnc_rec (t r : Int) (w : World) (h : lvl t r = 2) :
    Calls Tryd.prog 31 #[.agg #[.int .i64 t, .int .i64 r]] w (NewNames w [(-1, -1), (t, -1)]) := by
  have H2 := Lib.hid h
  clear h
  go_enter Tryd.func31, Tryd.ntmps31
  go_wp2_with (go_at_call 29; fail)
  refine (refLevel_val _ _ _ _ H2.out).mono ?_
  rintro e w' ⟨rfl, hg⟩; (first | (replace hG := Nw.trans hG hg; clear hc hf) | have hG := hg); clear hg; obtain ⟨hc, hf⟩ := hG.rules
  have hS := box_step hG (box_start' w t r 24)
  clear hc hf
  go_wp2
  go_region_held3 (fun w' => w'.cell? ⟨w.heap.size, 0, none⟩ = some (.int .i64 t) ∧ w'.cell? ⟨w.heap.size, 1, none⟩ = some (.int .i64 r) ∧ (w.heap.size < w'.heap.size ∧ Nw w w')) (first | assumption | exact box_step (Nw.refl _).drew1 hS | exact box_step (by assumption) (by assumption) | exact box_step ((Nw.refl _).alloc _) (by assumption))
    (first | (go_at_call 35; refine (refDatabase_any _).mono ?_; rintro e w' ⟨rfl, hg⟩))
  all_goals
    rename_i hS2
    have hz := hS2.2.2.1
    go_wp2
    go_ret
    exact ⟨_, rfl, ncells_new _ [(-1, -1), (t, -1)] _, by simp at hz; omega, hS2.2.2.2⟩
theorem refCmp_lt1 (t r t' r' : Int) (w : World) (h : t < t') :
    Calls Tryd.prog 33 #[.agg #[.int .i64 t, .int .i64 r], .agg #[.int .i64 t', .int .i64 r']] w fun e w' => e = .returned (.int .i64 (-1)) ∧ Nw w w' := by
  have d0 : decide (t < t') = true := by simp <;> omega
  go_enter Tryd.func33, Tryd.ntmps33
  go_wp2
  go_ret
  exact ⟨rfl, ((Nw.refl _).alloc _).alloc _⟩
theorem refCmp_lt2 (t r r' : Int) (w : World) (h : r < r') :
    Calls Tryd.prog 33 #[.agg #[.int .i64 t, .int .i64 r], .agg #[.int .i64 t, .int .i64 r']] w fun e w' => e = .returned (.int .i64 (-1)) ∧ Nw w w' := by
  have d1 : decide (r < r') = true := by simp <;> omega
  go_enter Tryd.func33, Tryd.ntmps33
  go_wp2
  go_ret
  exact ⟨rfl, ((Nw.refl _).alloc _).alloc _⟩
theorem refCmp_eq (t r : Int) (w : World) :
    Calls Tryd.prog 33 #[.agg #[.int .i64 t, .int .i64 r], .agg #[.int .i64 t, .int .i64 r]] w fun e w' => e = .returned (.int .i64 (0)) ∧ Nw w w' := by
  go_enter Tryd.func33, Tryd.ntmps33
  go_wp2
  go_ret
  exact ⟨rfl, ((Nw.refl _).alloc _).alloc _⟩
theorem refCmp_gt2 (t r r' : Int) (w : World) (h : r' < r) :
    Calls Tryd.prog 33 #[.agg #[.int .i64 t, .int .i64 r], .agg #[.int .i64 t, .int .i64 r']] w fun e w' => e = .returned (.int .i64 (1)) ∧ Nw w w' := by
  have d1 : decide (r < r') = false := by simp <;> omega
  have d2 : (r == r') = false := by simp <;> omega
  go_enter Tryd.func33, Tryd.ntmps33
  go_wp2
  go_ret
  exact ⟨rfl, ((Nw.refl _).alloc _).alloc _⟩
theorem refCmp_gt1 (t r t' r' : Int) (w : World) (h : t' < t) :
    Calls Tryd.prog 33 #[.agg #[.int .i64 t, .int .i64 r], .agg #[.int .i64 t', .int .i64 r']] w fun e w' => e = .returned (.int .i64 (1)) ∧ Nw w w' := by
  have d0 : decide (t < t') = false := by simp <;> omega
  have d2 : (t == t') = false := by simp <;> omega
  go_enter Tryd.func33, Tryd.ntmps33
  go_wp2
  go_ret
  exact ⟨rfl, ((Nw.refl _).alloc _).alloc _⟩
theorem refCompare_any (t r t' r' : Int) (w : World) :
    Calls Tryd.prog 33 #[.agg #[.int .i64 t, .int .i64 r], .agg #[.int .i64 t', .int .i64 r']] w fun e w' => e = .returned ((.int .i64 (or2 (c3 t t') (c3 r r')))) ∧ Nw w w' := by
  rcases Int.lt_trichotomy t t' with h | h | h
  · rw [c3_lt t t' h]; exact refCmp_lt1 t r t' r' w h
  · subst h
    rw [c3_eq]
    rcases Int.lt_trichotomy r r' with h | h | h
    · rw [c3_lt r r' h]; exact refCmp_lt2 t r r' w h
    · subst h; rw [c3_eq]; exact refCmp_eq t r w
    · rw [c3_gt r r' h]; exact refCmp_gt2 t r r' w h
  · rw [c3_gt t t' h]; exact refCmp_gt1 t r t' r' w h
end Go.Proofs.YtdcjhjmbfpkigaaDoor
