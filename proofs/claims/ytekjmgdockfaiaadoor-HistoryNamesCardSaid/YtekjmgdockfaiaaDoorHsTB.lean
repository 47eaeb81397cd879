
/- Texts of events: the replies, and the box of an event. -/
import Derived.Test.YtekjmgdockfaiaaDoorHsTA
import Derived.Test.YtekjmgdockfaiaaDoorNameE
namespace Go.Proofs.YtekjmgdockfaiaaDoor
open Go.ChangeShapes Go.WideShapes Go.ChangeAt Go.RowKit
set_option linter.unusedVariables false      -- a contract need not use every name

theorem it_0 (w : World) : Calls Tryd.prog 23 #[.int .i64 0] w fun e w' => e = .returned (.string ⟨#[48]⟩) ∧ w = w' := by
  have hd : dig 0 = [48] := Lib.decDigits_one (by decide)
  exact (itoa_small 0 w (by decide) (by decide)).mono fun _ _ ⟨he, hw⟩ => ⟨by rw [he, hd], hw⟩
theorem it_4 (w : World) : Calls Tryd.prog 23 #[.int .i64 4] w fun e w' => e = .returned (.string ⟨#[52]⟩) ∧ w = w' := by
  have hd : dig 4 = [52] := Lib.decDigits_one (by decide)
  exact (itoa_small 4 w (by decide) (by decide)).mono fun _ _ ⟨he, hw⟩ => ⟨by rw [he, hd], hw⟩
theorem name_t1 (w : World) : Calls Tryd.prog 26 #[.agg #[.int .i64 1, .int .i64 (-1)]] w fun e w' => e = .returned (.string ⟨#[116, 49]⟩) ∧ Nw w w' := by
  have hd : dig 1 = [49] := Lib.decDigits_one (by decide)
  exact (text_tab 1 w (by decide) (by decide)).mono fun _ _ ⟨he, hw⟩ => ⟨by rw [he, hd], hw⟩
theorem ebox_start (w : World) (c t : Int) (i : Bool) (k x tb rc m co : Int) (ty : TypeId) :
    ((w.alloc (.cells #[.int .i64 c, .int .i64 t, .bool i, .int .i64 k, .int .i64 x, .int .i64 tb, .int .i64 rc, .int .i64 m, .int .i64 co] ty)).cell? ⟨w.heap.size, 0, none⟩ = some (.int .i64 c) ∧ (w.alloc (.cells #[.int .i64 c, .int .i64 t, .bool i, .int .i64 k, .int .i64 x, .int .i64 tb, .int .i64 rc, .int .i64 m, .int .i64 co] ty)).cell? ⟨w.heap.size, 1, none⟩ = some (.int .i64 t) ∧ (w.alloc (.cells #[.int .i64 c, .int .i64 t, .bool i, .int .i64 k, .int .i64 x, .int .i64 tb, .int .i64 rc, .int .i64 m, .int .i64 co] ty)).cell? ⟨w.heap.size, 2, none⟩ = some (.bool i) ∧ (w.alloc (.cells #[.int .i64 c, .int .i64 t, .bool i, .int .i64 k, .int .i64 x, .int .i64 tb, .int .i64 rc, .int .i64 m, .int .i64 co] ty)).cell? ⟨w.heap.size, 3, none⟩ = some (.int .i64 k) ∧ (w.alloc (.cells #[.int .i64 c, .int .i64 t, .bool i, .int .i64 k, .int .i64 x, .int .i64 tb, .int .i64 rc, .int .i64 m, .int .i64 co] ty)).cell? ⟨w.heap.size, 4, none⟩ = some (.int .i64 x) ∧ (w.alloc (.cells #[.int .i64 c, .int .i64 t, .bool i, .int .i64 k, .int .i64 x, .int .i64 tb, .int .i64 rc, .int .i64 m, .int .i64 co] ty)).cell? ⟨w.heap.size, 5, none⟩ = some (.int .i64 tb) ∧ (w.alloc (.cells #[.int .i64 c, .int .i64 t, .bool i, .int .i64 k, .int .i64 x, .int .i64 tb, .int .i64 rc, .int .i64 m, .int .i64 co] ty)).cell? ⟨w.heap.size, 6, none⟩ = some (.int .i64 rc) ∧ (w.alloc (.cells #[.int .i64 c, .int .i64 t, .bool i, .int .i64 k, .int .i64 x, .int .i64 tb, .int .i64 rc, .int .i64 m, .int .i64 co] ty)).cell? ⟨w.heap.size, 7, none⟩ = some (.int .i64 m) ∧ (w.alloc (.cells #[.int .i64 c, .int .i64 t, .bool i, .int .i64 k, .int .i64 x, .int .i64 tb, .int .i64 rc, .int .i64 m, .int .i64 co] ty)).cell? ⟨w.heap.size, 8, none⟩ = some (.int .i64 co) ∧ (w.heap.size < (w.alloc (.cells #[.int .i64 c, .int .i64 t, .bool i, .int .i64 k, .int .i64 x, .int .i64 tb, .int .i64 rc, .int .i64 m, .int .i64 co] ty)).heap.size ∧ Nw w (w.alloc (.cells #[.int .i64 c, .int .i64 t, .bool i, .int .i64 k, .int .i64 x, .int .i64 tb, .int .i64 rc, .int .i64 m, .int .i64 co] ty)))) :=
  ⟨cell_of_row _ _ 0 _ ty (0, 0) (heap_alloc_last w _), cell_of_row _ _ 1 _ ty (0, 0) (heap_alloc_last w _), cell_of_row _ _ 2 _ ty (0, 0) (heap_alloc_last w _), cell_of_row _ _ 3 _ ty (0, 0) (heap_alloc_last w _), cell_of_row _ _ 4 _ ty (0, 0) (heap_alloc_last w _), cell_of_row _ _ 5 _ ty (0, 0) (heap_alloc_last w _), cell_of_row _ _ 6 _ ty (0, 0) (heap_alloc_last w _), cell_of_row _ _ 7 _ ty (0, 0) (heap_alloc_last w _), cell_of_row _ _ 8 _ ty (0, 0) (heap_alloc_last w _), by show _ < (w.heap.push _).size; simp, (Nw.refl w).alloc _⟩
theorem ebox_step {w a b : World} {c t : Int} {i : Bool} {k x tb rc m co : Int} (g : Nw a b) (h : (a.cell? ⟨w.heap.size, 0, none⟩ = some (.int .i64 c) ∧ a.cell? ⟨w.heap.size, 1, none⟩ = some (.int .i64 t) ∧ a.cell? ⟨w.heap.size, 2, none⟩ = some (.bool i) ∧ a.cell? ⟨w.heap.size, 3, none⟩ = some (.int .i64 k) ∧ a.cell? ⟨w.heap.size, 4, none⟩ = some (.int .i64 x) ∧ a.cell? ⟨w.heap.size, 5, none⟩ = some (.int .i64 tb) ∧ a.cell? ⟨w.heap.size, 6, none⟩ = some (.int .i64 rc) ∧ a.cell? ⟨w.heap.size, 7, none⟩ = some (.int .i64 m) ∧ a.cell? ⟨w.heap.size, 8, none⟩ = some (.int .i64 co) ∧ (w.heap.size < a.heap.size ∧ Nw w a))) : (b.cell? ⟨w.heap.size, 0, none⟩ = some (.int .i64 c) ∧ b.cell? ⟨w.heap.size, 1, none⟩ = some (.int .i64 t) ∧ b.cell? ⟨w.heap.size, 2, none⟩ = some (.bool i) ∧ b.cell? ⟨w.heap.size, 3, none⟩ = some (.int .i64 k) ∧ b.cell? ⟨w.heap.size, 4, none⟩ = some (.int .i64 x) ∧ b.cell? ⟨w.heap.size, 5, none⟩ = some (.int .i64 tb) ∧ b.cell? ⟨w.heap.size, 6, none⟩ = some (.int .i64 rc) ∧ b.cell? ⟨w.heap.size, 7, none⟩ = some (.int .i64 m) ∧ b.cell? ⟨w.heap.size, 8, none⟩ = some (.int .i64 co) ∧ (w.heap.size < b.heap.size ∧ Nw w b)) :=
  have hl : w.heap.size < a.heap.size := h.2.2.2.2.2.2.2.2.2.1
  ⟨(g.cell hl).trans h.1, (g.cell hl).trans h.2.1, (g.cell hl).trans h.2.2.1, (g.cell hl).trans h.2.2.2.1, (g.cell hl).trans h.2.2.2.2.1, (g.cell hl).trans h.2.2.2.2.2.1, (g.cell hl).trans h.2.2.2.2.2.2.1, (g.cell hl).trans h.2.2.2.2.2.2.2.1, (g.cell hl).trans h.2.2.2.2.2.2.2.2.1, Nat.lt_of_lt_of_le hl g.sz, h.2.2.2.2.2.2.2.2.2.2.trans g⟩
set_option maxHeartbeats 4000000 in
set_option maxRecDepth 100000 in
theorem text_reply1 (w : World) : Calls Tryd.prog 15 #[evV ⟨0, 0, false, ⟨0, 0, 0, 0, 0, 1⟩⟩] w fun e w' => e = .returned (.string ⟨#[116, 48, 32, 99, 48, 32, 103, 114, 97, 110, 116, 101, 100]⟩) ∧ Nw w w' := by
  have hS := ebox_start w 0 0 false 0 0 0 0 0 1 31
  go_enter Tryd.func15, Tryd.ntmps15
  go_wp2
  go_region_held3 (fun w' => (w'.cell? ⟨w.heap.size, 0, none⟩ = some (.int .i64 0) ∧ w'.cell? ⟨w.heap.size, 1, none⟩ = some (.int .i64 0) ∧ w'.cell? ⟨w.heap.size, 2, none⟩ = some (.bool false) ∧ w'.cell? ⟨w.heap.size, 3, none⟩ = some (.int .i64 0) ∧ w'.cell? ⟨w.heap.size, 4, none⟩ = some (.int .i64 0) ∧ w'.cell? ⟨w.heap.size, 5, none⟩ = some (.int .i64 0) ∧ w'.cell? ⟨w.heap.size, 6, none⟩ = some (.int .i64 0) ∧ w'.cell? ⟨w.heap.size, 7, none⟩ = some (.int .i64 0) ∧ w'.cell? ⟨w.heap.size, 8, none⟩ = some (.int .i64 1) ∧ (w.heap.size < w'.heap.size ∧ Nw w w'))) (first | assumption | exact ebox_step (Nw.refl _).drew1 (by assumption) | exact ebox_step (by assumption) (by assumption))
    (first | (go_at_call 23; refine (it_0 _).mono ?_; rintro e w' ⟨rfl, rfl⟩))
  all_goals
    rename_i hS2
    clear hS
    have hN := hS2.2.2.2.2.2.2.2.2.2.2
    go_wp2_with (go_at_call 24; refine (codeText_1 _).mono ?_; rintro e w' ⟨rfl, hg⟩)
    go_ret
    exact ⟨rfl, hN.trans hg⟩
set_option maxHeartbeats 4000000 in
set_option maxRecDepth 100000 in
theorem text_reply9 (w : World) : Calls Tryd.prog 15 #[evV ⟨0, 0, false, ⟨0, 0, 0, 0, 0, 9⟩⟩] w fun e w' => e = .returned (.string ⟨#[116, 48, 32, 99, 48, 32, 63]⟩) ∧ Nw w w' := by
  have hS := ebox_start w 0 0 false 0 0 0 0 0 9 31
  go_enter Tryd.func15, Tryd.ntmps15
  go_wp2
  go_region_held3 (fun w' => (w'.cell? ⟨w.heap.size, 0, none⟩ = some (.int .i64 0) ∧ w'.cell? ⟨w.heap.size, 1, none⟩ = some (.int .i64 0) ∧ w'.cell? ⟨w.heap.size, 2, none⟩ = some (.bool false) ∧ w'.cell? ⟨w.heap.size, 3, none⟩ = some (.int .i64 0) ∧ w'.cell? ⟨w.heap.size, 4, none⟩ = some (.int .i64 0) ∧ w'.cell? ⟨w.heap.size, 5, none⟩ = some (.int .i64 0) ∧ w'.cell? ⟨w.heap.size, 6, none⟩ = some (.int .i64 0) ∧ w'.cell? ⟨w.heap.size, 7, none⟩ = some (.int .i64 0) ∧ w'.cell? ⟨w.heap.size, 8, none⟩ = some (.int .i64 9) ∧ (w.heap.size < w'.heap.size ∧ Nw w w'))) (first | assumption | exact ebox_step (Nw.refl _).drew1 (by assumption) | exact ebox_step (by assumption) (by assumption))
    (first | (go_at_call 23; refine (it_0 _).mono ?_; rintro e w' ⟨rfl, rfl⟩))
  all_goals
    rename_i hS2
    clear hS
    have hN := hS2.2.2.2.2.2.2.2.2.2.2
    go_wp2_with (go_at_call 24; refine (codeText_9 _).mono ?_; rintro e w' ⟨rfl, hg⟩)
    go_ret
    exact ⟨rfl, hN.trans hg⟩
end Go.Proofs.YtekjmgdockfaiaaDoor
