
/- Contracts of package name, first part: Database, numbered, Level, Check. -/
import Derived.Test.YtekjmgdockfaiaaDoorNw
import Derived.ProofKit
import Derived.OpenShut
import Derived.ShutString
import Derived.Outline
import Derived.Deep.QuietTactic
import Derived.BigQuiet
import Derived.Deep.RegionHeld3
import Derived.Deep.WholeRow
namespace Go.Proofs.YtekjmgdockfaiaaDoor
open Go.ChangeShapes Go.WideShapes Go.ChangeAt Go.RowKit

/-- A name as a value. -/
def nm (t r : Int) : Value := .agg #[.int .i64 t, .int .i64 r]

theorem database_any (w : World) :
    Calls Tryd.prog 39 #[] w fun e w' => e = .returned (.agg #[.int .i64 (-1), .int .i64 (-1)]) ∧ Nw w w' := by
  go_enter Tryd.func39, Tryd.ntmps39
  go_wp2
  exact bodyPost_ret (v := .agg #[.int .i64 (-1), .int .i64 (-1)]) (by simp [results, Tryd.results39, go_sem]) rfl ⟨rfl, (Nw.refl _).alloc _⟩

theorem numbered_yes (i : Int) (w : World) (h0 : 0 ≤ i) (h1 : i < 100) :
    Calls Tryd.prog 40 #[.int .i64 i] w fun e w' => e = .returned (.bool true) ∧ w = w' := by
  go_enter Tryd.func40, Tryd.ntmps40
  go_wp2
  go_ret
  exact ⟨rfl, rfl⟩
theorem numbered_no (i : Int) (w : World) (h : i < 0 ∨ 100 ≤ i) :
    Calls Tryd.prog 40 #[.int .i64 i] w fun e w' => e = .returned (.bool false) ∧ w = w' := by
  rcases h with h | h
  · go_enter Tryd.func40, Tryd.ntmps40
    go_wp2
    go_ret
    exact ⟨rfl, rfl⟩
  · have h0 : 0 ≤ i := by omega
    have hd : decide (i < 100) = false := by simp; omega
    go_enter Tryd.func40, Tryd.ntmps40
    go_wp2
    go_ret
    exact ⟨rfl, rfl⟩

/-- The box of a name lies in the first new block; nothing that was there has changed. -/
theorem box_start (w : World) (t r : Int) (ty : TypeId) :
    (w.alloc (.cells #[.int .i64 t, .int .i64 r] ty)).drew.cell? ⟨w.heap.size, 0, none⟩ = some (.int .i64 t) ∧ (w.alloc (.cells #[.int .i64 t, .int .i64 r] ty)).drew.cell? ⟨w.heap.size, 1, none⟩ = some (.int .i64 r) ∧ (w.heap.size < (w.alloc (.cells #[.int .i64 t, .int .i64 r] ty)).drew.heap.size ∧ Nw w (w.alloc (.cells #[.int .i64 t, .int .i64 r] ty)).drew) :=
  ⟨cell_of_row _ _ 0 _ ty (0, 0) (heap_alloc_last w _), cell_of_row _ _ 1 _ ty (0, 0) (heap_alloc_last w _), by show _ < (w.heap.push _).size; simp, ((Nw.refl w).alloc _).drewN 1⟩
theorem box_step {w a b : World} {t r : Int} (g : Nw a b)
    (h : a.cell? ⟨w.heap.size, 0, none⟩ = some (.int .i64 t) ∧ a.cell? ⟨w.heap.size, 1, none⟩ = some (.int .i64 r) ∧ (w.heap.size < a.heap.size ∧ Nw w a)) :
    b.cell? ⟨w.heap.size, 0, none⟩ = some (.int .i64 t) ∧ b.cell? ⟨w.heap.size, 1, none⟩ = some (.int .i64 r) ∧ (w.heap.size < b.heap.size ∧ Nw w b) :=
  ⟨(g.cell h.2.2.1).trans h.1, (g.cell h.2.2.1).trans h.2.1, Nat.lt_of_lt_of_le h.2.2.1 g.sz, h.2.2.2.trans g⟩

theorem level_db (w : World) :
    Calls Tryd.prog 32 #[.agg #[.int .i64 (-1), .int .i64 (-1)]] w fun e w' => e = .returned (.int .i64 0) ∧ Nw w w' := by
  go_enter Tryd.func32, Tryd.ntmps32
  go_wp2
  go_region_held3 (fun w' => w'.cell? ⟨w.heap.size, 0, none⟩ = some (.int .i64 (-1)) ∧ w'.cell? ⟨w.heap.size, 1, none⟩ = some (.int .i64 (-1)) ∧ (w.heap.size < w'.heap.size ∧ Nw w w')) (first | exact box_start _ _ _ _ | exact box_step (by assumption) (by assumption))
    (first | (go_at_call 39; refine (database_any _).mono ?_; rintro e w' ⟨rfl, hg⟩))
  all_goals
    rename_i hS
    obtain ⟨hc0, hc1, _, hG⟩ := hS
    clear hg
    go_wp2_with (first | (go_at_call 40; refine (numbered_yes _ _ (by omega) (by omega)).mono ?_; rintro e w' ⟨rfl, rfl⟩) | (go_at_call 40; refine (numbered_no _ _ (by omega)).mono ?_; rintro e w' ⟨rfl, rfl⟩))
    go_ret
    exact ⟨rfl, hG⟩

theorem level_tab (t : Int) (w : World) (h0 : 0 ≤ t) (h1 : t < 100) :
    Calls Tryd.prog 32 #[.agg #[.int .i64 t, .int .i64 (-1)]] w fun e w' => e = .returned (.int .i64 1) ∧ Nw w w' := by
  have e0 : (t == -1) = false := by simp; omega
  go_enter Tryd.func32, Tryd.ntmps32
  go_wp2
  go_region_held3 (fun w' => w'.cell? ⟨w.heap.size, 0, none⟩ = some (.int .i64 (t)) ∧ w'.cell? ⟨w.heap.size, 1, none⟩ = some (.int .i64 (-1)) ∧ (w.heap.size < w'.heap.size ∧ Nw w w')) (first | exact box_start _ _ _ _ | exact box_step (by assumption) (by assumption))
    (first | (go_at_call 39; refine (database_any _).mono ?_; rintro e w' ⟨rfl, hg⟩))
  all_goals
    rename_i hS
    obtain ⟨hc0, hc1, _, hG⟩ := hS
    clear hg
    go_wp2_with (first | (go_at_call 40; refine (numbered_yes _ _ (by omega) (by omega)).mono ?_; rintro e w' ⟨rfl, rfl⟩) | (go_at_call 40; refine (numbered_no _ _ (by omega)).mono ?_; rintro e w' ⟨rfl, rfl⟩))
    go_ret
    exact ⟨rfl, hG⟩

theorem level_rec (t r : Int) (w : World) (h0 : 0 ≤ t) (h1 : t < 100) (h2 : 0 ≤ r) (h3 : r < 100) :
    Calls Tryd.prog 32 #[.agg #[.int .i64 t, .int .i64 r]] w fun e w' => e = .returned (.int .i64 2) ∧ Nw w w' := by
  have e0 : (t == -1) = false := by simp; omega
  have e1 : (r == -1) = false := by simp; omega
  go_enter Tryd.func32, Tryd.ntmps32
  go_wp2
  go_region_held3 (fun w' => w'.cell? ⟨w.heap.size, 0, none⟩ = some (.int .i64 (t)) ∧ w'.cell? ⟨w.heap.size, 1, none⟩ = some (.int .i64 (r)) ∧ (w.heap.size < w'.heap.size ∧ Nw w w')) (first | exact box_start _ _ _ _ | exact box_step (by assumption) (by assumption))
    (first | (go_at_call 39; refine (database_any _).mono ?_; rintro e w' ⟨rfl, hg⟩))
  all_goals
    rename_i hS
    obtain ⟨hc0, hc1, _, hG⟩ := hS
    clear hg
    go_wp2_with (first | (go_at_call 40; refine (numbered_yes _ _ (by omega) (by omega)).mono ?_; rintro e w' ⟨rfl, rfl⟩) | (go_at_call 40; refine (numbered_no _ _ (by omega)).mono ?_; rintro e w' ⟨rfl, rfl⟩))
    go_ret
    exact ⟨rfl, hG⟩

theorem level_bad1 (r : Int) (w : World) (h : r < -1 ∨ -1 < r) :
    Calls Tryd.prog 32 #[.agg #[.int .i64 (-1), .int .i64 r]] w fun e w' => e = .returned (.int .i64 (-1)) ∧ Nw w w' := by
  have e1 : (r == -1) = false := by simp; omega
  go_enter Tryd.func32, Tryd.ntmps32
  go_wp2
  go_region_held3 (fun w' => w'.cell? ⟨w.heap.size, 0, none⟩ = some (.int .i64 (-1)) ∧ w'.cell? ⟨w.heap.size, 1, none⟩ = some (.int .i64 (r)) ∧ (w.heap.size < w'.heap.size ∧ Nw w w')) (first | exact box_start _ _ _ _ | exact box_step (by assumption) (by assumption))
    (first | (go_at_call 39; refine (database_any _).mono ?_; rintro e w' ⟨rfl, hg⟩))
  all_goals
    rename_i hS
    obtain ⟨hc0, hc1, _, hG⟩ := hS
    clear hg
    go_wp2_with (first | (go_at_call 40; refine (numbered_yes _ _ (by omega) (by omega)).mono ?_; rintro e w' ⟨rfl, rfl⟩) | (go_at_call 40; refine (numbered_no _ _ (by omega)).mono ?_; rintro e w' ⟨rfl, rfl⟩))
    go_ret
    exact ⟨rfl, hG⟩

theorem level_bad2 (t r : Int) (w : World) (h : t < -1 ∨ 100 ≤ t) :
    Calls Tryd.prog 32 #[.agg #[.int .i64 t, .int .i64 r]] w fun e w' => e = .returned (.int .i64 (-1)) ∧ Nw w w' := by
  have e0 : (t == -1) = false := by simp; omega
  go_enter Tryd.func32, Tryd.ntmps32
  go_wp2
  go_region_held3 (fun w' => w'.cell? ⟨w.heap.size, 0, none⟩ = some (.int .i64 (t)) ∧ w'.cell? ⟨w.heap.size, 1, none⟩ = some (.int .i64 (r)) ∧ (w.heap.size < w'.heap.size ∧ Nw w w')) (first | exact box_start _ _ _ _ | exact box_step (by assumption) (by assumption))
    (first | (go_at_call 39; refine (database_any _).mono ?_; rintro e w' ⟨rfl, hg⟩))
  all_goals
    rename_i hS
    obtain ⟨hc0, hc1, _, hG⟩ := hS
    clear hg
    go_wp2_with (first | (go_at_call 40; refine (numbered_yes _ _ (by omega) (by omega)).mono ?_; rintro e w' ⟨rfl, rfl⟩) | (go_at_call 40; refine (numbered_no _ _ (by omega)).mono ?_; rintro e w' ⟨rfl, rfl⟩))
    go_ret
    exact ⟨rfl, hG⟩

theorem level_bad3 (t r : Int) (w : World) (h0 : 0 ≤ t) (h1 : t < 100) (h : r < -1 ∨ 100 ≤ r) :
    Calls Tryd.prog 32 #[.agg #[.int .i64 t, .int .i64 r]] w fun e w' => e = .returned (.int .i64 (-1)) ∧ Nw w w' := by
  have e0 : (t == -1) = false := by simp; omega
  have e1 : (r == -1) = false := by simp; omega
  go_enter Tryd.func32, Tryd.ntmps32
  go_wp2
  go_region_held3 (fun w' => w'.cell? ⟨w.heap.size, 0, none⟩ = some (.int .i64 (t)) ∧ w'.cell? ⟨w.heap.size, 1, none⟩ = some (.int .i64 (r)) ∧ (w.heap.size < w'.heap.size ∧ Nw w w')) (first | exact box_start _ _ _ _ | exact box_step (by assumption) (by assumption))
    (first | (go_at_call 39; refine (database_any _).mono ?_; rintro e w' ⟨rfl, hg⟩))
  all_goals
    rename_i hS
    obtain ⟨hc0, hc1, _, hG⟩ := hS
    clear hg
    go_wp2_with (first | (go_at_call 40; refine (numbered_yes _ _ (by omega) (by omega)).mono ?_; rintro e w' ⟨rfl, rfl⟩) | (go_at_call 40; refine (numbered_no _ _ (by omega)).mono ?_; rintro e w' ⟨rfl, rfl⟩))
    go_ret
    exact ⟨rfl, hG⟩

end Go.Proofs.YtekjmgdockfaiaaDoor
