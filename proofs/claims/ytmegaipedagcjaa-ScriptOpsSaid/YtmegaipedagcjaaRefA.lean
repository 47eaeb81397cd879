
/- Contracts of the reference's functions on names, first part: Database, Level, Check, Table, Record, Parent, Ancestors, Compare. -/
import Derived.Test.YtmegaipedagcjaaNameD
namespace Go.Proofs.Ytmegaipedagcjaa
open Go.ChangeShapes Go.WideShapes Go.ChangeAt Go.RowKit

theorem refDatabase_any (w : World) :
    Calls Try.prog 61 #[] w fun e w' => e = .returned (.agg #[.int .i64 (-1), .int .i64 (-1)]) ∧ Nw w w' := by
  go_enter Try.func61, Try.ntmps61
  go_wp2
  exact bodyPost_ret (v := .agg #[.int .i64 (-1), .int .i64 (-1)]) (by simp [results, Try.results61, go_sem]) rfl ⟨rfl, (Nw.refl _).alloc _⟩
theorem refLevel_db (w : World) :
    Calls Try.prog 48 #[.agg #[.int .i64 (-1), .int .i64 (-1)]] w fun e w' => e = .returned (.int .i64 (0)) ∧ Nw w w' := by
  go_enter Try.func48, Try.ntmps48
  go_wp2
  go_region_held3 (fun w' => w'.cell? ⟨w.heap.size, 0, none⟩ = some (.int .i64 (-1)) ∧ w'.cell? ⟨w.heap.size, 1, none⟩ = some (.int .i64 (-1)) ∧ (w.heap.size < w'.heap.size ∧ Nw w w')) (first | exact box_start _ _ _ _ | exact box_step (by assumption) (by assumption))
    (first | (go_at_call 61; refine (refDatabase_any _).mono ?_; rintro e w' ⟨rfl, hg⟩))
  all_goals
    rename_i hS
    obtain ⟨hc0, hc1, _, hG⟩ := hS
    clear hg
    go_wp2
    go_ret
    exact ⟨rfl, hG⟩
theorem refLevel_tab (t : Int) (w : World) (h0 : 0 ≤ t) (h1 : t < 100) :
    Calls Try.prog 48 #[.agg #[.int .i64 t, .int .i64 (-1)]] w fun e w' => e = .returned (.int .i64 (1)) ∧ Nw w w' := by
  have e0 : (t == -1) = false := by simp; omega
  go_enter Try.func48, Try.ntmps48
  go_wp2
  go_region_held3 (fun w' => w'.cell? ⟨w.heap.size, 0, none⟩ = some (.int .i64 t) ∧ w'.cell? ⟨w.heap.size, 1, none⟩ = some (.int .i64 (-1)) ∧ (w.heap.size < w'.heap.size ∧ Nw w w')) (first | exact box_start _ _ _ _ | exact box_step (by assumption) (by assumption))
    (first | (go_at_call 61; refine (refDatabase_any _).mono ?_; rintro e w' ⟨rfl, hg⟩))
  all_goals
    rename_i hS
    obtain ⟨hc0, hc1, _, hG⟩ := hS
    clear hg
    go_wp2
    go_ret
    exact ⟨rfl, hG⟩
theorem refLevel_rec (t r : Int) (w : World) (h0 : 0 ≤ t) (h1 : t < 100) (h2 : 0 ≤ r) (h3 : r < 100) :
    Calls Try.prog 48 #[.agg #[.int .i64 t, .int .i64 r]] w fun e w' => e = .returned (.int .i64 (2)) ∧ Nw w w' := by
  have e0 : (t == -1) = false := by simp; omega
  have e1 : (r == -1) = false := by simp; omega
  have d2 : decide (r < -1) = false := by simp; omega
  go_enter Try.func48, Try.ntmps48
  go_wp2
  go_region_held3 (fun w' => w'.cell? ⟨w.heap.size, 0, none⟩ = some (.int .i64 t) ∧ w'.cell? ⟨w.heap.size, 1, none⟩ = some (.int .i64 r) ∧ (w.heap.size < w'.heap.size ∧ Nw w w')) (first | exact box_start _ _ _ _ | exact box_step (by assumption) (by assumption))
    (first | (go_at_call 61; refine (refDatabase_any _).mono ?_; rintro e w' ⟨rfl, hg⟩))
  all_goals
    rename_i hS
    obtain ⟨hc0, hc1, _, hG⟩ := hS
    clear hg
    go_wp2
    go_ret
    exact ⟨rfl, hG⟩
theorem refLevel_b1 (r : Int) (w : World) (h : r < -1 ∨ -1 < r) :
    Calls Try.prog 48 #[.agg #[.int .i64 (-1), .int .i64 r]] w fun e w' => e = .returned (.int .i64 (-1)) ∧ Nw w w' := by
  have e1 : (r == -1) = false := by simp; omega
  go_enter Try.func48, Try.ntmps48
  go_wp2
  go_region_held3 (fun w' => w'.cell? ⟨w.heap.size, 0, none⟩ = some (.int .i64 (-1)) ∧ w'.cell? ⟨w.heap.size, 1, none⟩ = some (.int .i64 r) ∧ (w.heap.size < w'.heap.size ∧ Nw w w')) (first | exact box_start _ _ _ _ | exact box_step (by assumption) (by assumption))
    (first | (go_at_call 61; refine (refDatabase_any _).mono ?_; rintro e w' ⟨rfl, hg⟩))
  all_goals
    rename_i hS
    obtain ⟨hc0, hc1, _, hG⟩ := hS
    clear hg
    go_wp2
    go_ret
    exact ⟨rfl, hG⟩
theorem refLevel_b2 (t r : Int) (w : World) (h : t < -1) :
    Calls Try.prog 48 #[.agg #[.int .i64 t, .int .i64 r]] w fun e w' => e = .returned (.int .i64 (-1)) ∧ Nw w w' := by
  have e0 : (t == -1) = false := by simp; omega
  have d0 : decide (t < 0) = true := by simp; omega
  go_enter Try.func48, Try.ntmps48
  go_wp2
  go_region_held3 (fun w' => w'.cell? ⟨w.heap.size, 0, none⟩ = some (.int .i64 t) ∧ w'.cell? ⟨w.heap.size, 1, none⟩ = some (.int .i64 r) ∧ (w.heap.size < w'.heap.size ∧ Nw w w')) (first | exact box_start _ _ _ _ | exact box_step (by assumption) (by assumption))
    (first | (go_at_call 61; refine (refDatabase_any _).mono ?_; rintro e w' ⟨rfl, hg⟩))
  all_goals
    rename_i hS
    obtain ⟨hc0, hc1, _, hG⟩ := hS
    clear hg
    go_wp2
    go_ret
    exact ⟨rfl, hG⟩
theorem refLevel_b3 (t r : Int) (w : World) (h : 100 ≤ t) :
    Calls Try.prog 48 #[.agg #[.int .i64 t, .int .i64 r]] w fun e w' => e = .returned (.int .i64 (-1)) ∧ Nw w w' := by
  have e0 : (t == -1) = false := by simp; omega
  have h0 : 0 ≤ t := by omega
  have d1 : decide (t < 100) = false := by simp; omega
  go_enter Try.func48, Try.ntmps48
  go_wp2
  go_region_held3 (fun w' => w'.cell? ⟨w.heap.size, 0, none⟩ = some (.int .i64 t) ∧ w'.cell? ⟨w.heap.size, 1, none⟩ = some (.int .i64 r) ∧ (w.heap.size < w'.heap.size ∧ Nw w w')) (first | exact box_start _ _ _ _ | exact box_step (by assumption) (by assumption))
    (first | (go_at_call 61; refine (refDatabase_any _).mono ?_; rintro e w' ⟨rfl, hg⟩))
  all_goals
    rename_i hS
    obtain ⟨hc0, hc1, _, hG⟩ := hS
    clear hg
    go_wp2
    go_ret
    exact ⟨rfl, hG⟩
theorem refLevel_b4 (t r : Int) (w : World) (h0 : 0 ≤ t) (h1 : t < 100) (h : r < -1) :
    Calls Try.prog 48 #[.agg #[.int .i64 t, .int .i64 r]] w fun e w' => e = .returned (.int .i64 (-1)) ∧ Nw w w' := by
  have e0 : (t == -1) = false := by simp; omega
  have e1 : (r == -1) = false := by simp; omega
  have d2 : decide (r < -1) = true := by simp; omega
  go_enter Try.func48, Try.ntmps48
  go_wp2
  go_region_held3 (fun w' => w'.cell? ⟨w.heap.size, 0, none⟩ = some (.int .i64 t) ∧ w'.cell? ⟨w.heap.size, 1, none⟩ = some (.int .i64 r) ∧ (w.heap.size < w'.heap.size ∧ Nw w w')) (first | exact box_start _ _ _ _ | exact box_step (by assumption) (by assumption))
    (first | (go_at_call 61; refine (refDatabase_any _).mono ?_; rintro e w' ⟨rfl, hg⟩))
  all_goals
    rename_i hS
    obtain ⟨hc0, hc1, _, hG⟩ := hS
    clear hg
    go_wp2
    go_ret
    exact ⟨rfl, hG⟩
theorem refLevel_b5 (t r : Int) (w : World) (h0 : 0 ≤ t) (h1 : t < 100) (h : 100 ≤ r) :
    Calls Try.prog 48 #[.agg #[.int .i64 t, .int .i64 r]] w fun e w' => e = .returned (.int .i64 (-1)) ∧ Nw w w' := by
  have e0 : (t == -1) = false := by simp; omega
  have e1 : (r == -1) = false := by simp; omega
  have d2 : decide (r < -1) = false := by simp; omega
  have d3 : decide (r < 100) = false := by simp; omega
  go_enter Try.func48, Try.ntmps48
  go_wp2
  go_region_held3 (fun w' => w'.cell? ⟨w.heap.size, 0, none⟩ = some (.int .i64 t) ∧ w'.cell? ⟨w.heap.size, 1, none⟩ = some (.int .i64 r) ∧ (w.heap.size < w'.heap.size ∧ Nw w w')) (first | exact box_start _ _ _ _ | exact box_step (by assumption) (by assumption))
    (first | (go_at_call 61; refine (refDatabase_any _).mono ?_; rintro e w' ⟨rfl, hg⟩))
  all_goals
    rename_i hS
    obtain ⟨hc0, hc1, _, hG⟩ := hS
    clear hg
    go_wp2
    go_ret
    exact ⟨rfl, hG⟩
theorem refLevel_any (t r : Int) (w : World) :
    Calls Try.prog 48 #[.agg #[.int .i64 t, .int .i64 r]] w fun e w' => e = .returned (.int .i64 (lvl t r)) ∧ Nw w w' := by
  by_cases h1 : t = -1
  · subst h1
    by_cases h2 : r = -1
    · subst h2; exact refLevel_db w
    · have e : lvl (-1) r = -1 := by unfold lvl; rw [if_neg (by omega), if_neg (by omega)]
      rw [e]; exact refLevel_b1 r w (by omega)
  · by_cases h3 : 0 ≤ t ∧ t < 100
    · obtain ⟨h3, h4⟩ := h3
      by_cases h2 : r = -1
      · subst h2; rw [lvl_tab t h3 h4]; exact refLevel_tab t w h3 h4
      · by_cases h5 : 0 ≤ r ∧ r < 100
        · rw [lvl_rec t r h3 h4 h5.1 h5.2]; exact refLevel_rec t r w h3 h4 h5.1 h5.2
        · have e : lvl t r = -1 := by unfold lvl; rw [if_neg (by omega), if_pos ⟨h3, h4⟩, if_neg h2, if_neg h5]
          rw [e]
          by_cases h6 : r < -1
          · exact refLevel_b4 t r w h3 h4 h6
          · exact refLevel_b5 t r w h3 h4 (by omega)
    · have e : lvl t r = -1 := by unfold lvl; rw [if_neg (by omega), if_neg h3]
      rw [e]
      by_cases h6 : t < -1
      · exact refLevel_b2 t r w h6
      · exact refLevel_b3 t r w (by omega)
theorem refLevel_val (t r L : Int) (w : World) (h : lvl t r = L) :
    Calls Try.prog 48 #[.agg #[.int .i64 t, .int .i64 r]] w fun e w' => e = .returned (.int .i64 L) ∧ Nw w w' := by
  subst h; exact refLevel_any t r w
theorem lvl_ge (t r : Int) (h : lvl t r ≠ -1) : 0 ≤ lvl t r := by
  rcases kinds t r with ⟨rfl, rfl⟩ | ⟨h0, h1, rfl⟩ | ⟨h0, h1, h2, h3⟩ | h0
  · rw [lvl_db]; decide
  · rw [lvl_tab t h0 h1]; decide
  · rw [lvl_rec t r h0 h1 h2 h3]; decide
  · exact absurd h0 h
theorem refCheck_ok (t r : Int) (w : World) (h : lvl t r ≠ -1) :
    Calls Try.prog 23 #[.agg #[.int .i64 t, .int .i64 r]] w fun e w' => e = .returned (.int .i64 0) ∧ Nw w w' := by
  have hL := lvl_ge t r h
  have H := refLevel_any t r
  generalize lvl t r = L at *
  have H2 := Lib.hid H
  clear H h
  go_enter Try.func23, Try.ntmps23
  go_wp2_with (go_at_call 48; refine (H2.out _).mono ?_; rintro e w' ⟨rfl, hg⟩)
  go_ret
  exact ⟨rfl, ((Nw.refl _).alloc _).trans hg⟩
theorem refCheck_no (t r : Int) (w : World) (h : lvl t r = -1) :
    Calls Try.prog 23 #[.agg #[.int .i64 t, .int .i64 r]] w fun e w' => e = .returned (.int .i64 2) ∧ Nw w w' := by
  have H2 := Lib.hid h
  clear h
  go_enter Try.func23, Try.ntmps23
  go_wp2_with (go_at_call 48; refine (refLevel_val _ _ _ _ H2.out).mono ?_; rintro e w' ⟨rfl, hg⟩)
  go_ret
  exact ⟨rfl, ((Nw.refl _).alloc _).trans hg⟩
end Go.Proofs.Ytmegaipedagcjaa
