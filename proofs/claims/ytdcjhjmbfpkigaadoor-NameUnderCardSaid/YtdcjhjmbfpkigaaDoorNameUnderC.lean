/- Ways of NameUnder. -/
import Derived.Test.YtdcjhjmbfpkigaaDoorNameUnderB
namespace Go.Proofs.YtdcjhjmbfpkigaaDoor.nameUnder
open Go.ChangeShapes Go.WideShapes Go.ChangeAt Go.RowKit
set_option linter.unusedVariables false      -- a walk need not use every fact

set_option maxHeartbeats 2000000 in
theorem way1_A1 (a0 b0 a1 b1 a2 b2 a3 a4 : Int) (w : World) (hk : Hid (lvl a0 b0 ≠ -1)) (h1 : Hid (und a0 b0 a0 b0 = true)) (h2 : Hid (und a0 b0 (-1) (-1) = true)) (h3 : Hid (und a0 b0 a1 b1 = false)) (hq : a3 < 0) (ht : Hid (lvl a3 (-1) ≠ 1)) (hr : Hid (lvl a3 a4 ≠ 2)) :
    Calls Tryd.prog 8 #[.agg #[.int .i64 a0, .int .i64 b0], .agg #[.int .i64 a1, .int .i64 b1], .agg #[.int .i64 a2, .int .i64 b2], .int .i64 a3, .int .i64 a4] w fun e w' => e = .returned (.bool true) ∧ Nw w w' := by
  go_enter Tryd.func8, Tryd.ntmps8
  go_wp2_with fail
  refine (lives_ok _).mono ?_
  rintro e w' ⟨rfl, hg⟩
  (first | (replace hG := Nw.trans hG hg; clear hc hf) | have hG := hg)
  clear hg
  obtain ⟨hc, hf⟩ := hG.rules
  go_wp2_with fail
  refine (check_ok _ _ _ hk.out).mono ?_
  rintro e w' ⟨rfl, hg⟩
  (first | (replace hG := Nw.trans hG hg; clear hc hf) | have hG := hg)
  clear hg
  obtain ⟨hc, hf⟩ := hG.rules
  have hB := Box3.step _ _ (Box3.start w a0 b0 a1 b1 a2 b2 24) hG
  clear hc hf hG
  go_wp2
  refine region_in (Box3 w a0 b0 a1 b1 a2 b2) (by kernel_rfl) (by kernel_rfl) (Box3.step _ _ hB (Nw.refl _).drew1) ?_
  have c0 : ∀ d : Wd (Box3 w a0 b0 a1 b1 a2 b2), d.w.cell? ⟨w.heap.size, 0, none⟩ = some (.int .i64 a0) := fun d => d.h.1.1
  have c1 : ∀ d : Wd (Box3 w a0 b0 a1 b1 a2 b2), d.w.cell? ⟨w.heap.size, 1, none⟩ = some (.int .i64 b0) := fun d => d.h.1.2
  have c2 : ∀ d : Wd (Box3 w a0 b0 a1 b1 a2 b2), d.w.cell? ⟨w.heap.size + 1, 0, none⟩ = some (.int .i64 a1) := fun d => d.h.2.1.1
  have c3 : ∀ d : Wd (Box3 w a0 b0 a1 b1 a2 b2), d.w.cell? ⟨w.heap.size + 1, 1, none⟩ = some (.int .i64 b1) := fun d => d.h.2.1.2
  have c4 : ∀ d : Wd (Box3 w a0 b0 a1 b1 a2 b2), d.w.cell? ⟨w.heap.size + 1 + 1, 0, none⟩ = some (.int .i64 a2) := fun d => d.h.2.2.1.1
  have c5 : ∀ d : Wd (Box3 w a0 b0 a1 b1 a2 b2), d.w.cell? ⟨w.heap.size + 1 + 1, 1, none⟩ = some (.int .i64 b2) := fun d => d.h.2.2.1.2
  have hne : Nonempty (Wd (Box3 w a0 b0 a1 b1 a2 b2)) := ⟨⟨_, hB⟩⟩
  repeat (first | go_big_quiet_step ((first | exact quietN Box3.step (under_val _ _ _ _ _ _ h1.out) | exact quietN Box3.step (under_val _ _ _ _ _ _ h2.out) | exact quietN Box3.step (under_val _ _ _ _ _ _ h3.out) | exact quietN Box3.step (kitDB_any _))) | quiet_step ((first | exact quietN Box3.step (under_val _ _ _ _ _ _ h1.out) | exact quietN Box3.step (under_val _ _ _ _ _ _ h2.out) | exact quietN Box3.step (under_val _ _ _ _ _ _ h3.out) | exact quietN Box3.step (kitDB_any _))))
  refine wpQuiet_nil ?_
  intro d
  have h5 := d.h.2.2.2
  clear c0 c1 c2 c3 c4 c5 hne hB
  revert h5
  generalize d.w = w5
  intro h5
  go_wp2_with fail
  refine (table_no _ _ ht.out).mono ?_
  rintro e w6 ⟨rfl, h6⟩
  go_wp2_with fail
  refine (record_no _ _ _ hr.out).mono ?_
  rintro e w7 ⟨rfl, h7⟩
  go_wp2
  all_goals
    go_ret
    exact ⟨rfl, ((((h5.trans h6).alloc _).trans h7).alloc _)⟩

set_option maxHeartbeats 2000000 in
theorem way1_A2 (a0 b0 a1 b1 a2 b2 a3 a4 : Int) (w : World) (hk : Hid (lvl a0 b0 ≠ -1)) (h1 : Hid (und a0 b0 a0 b0 = true)) (h2 : Hid (und a0 b0 (-1) (-1) = true)) (h3 : Hid (und a0 b0 a1 b1 = false)) (hq0 : 0 ≤ a3) (hq : 100 ≤ a3) (ht : Hid (lvl a3 (-1) ≠ 1)) (hr : Hid (lvl a3 a4 ≠ 2)) :
    Calls Tryd.prog 8 #[.agg #[.int .i64 a0, .int .i64 b0], .agg #[.int .i64 a1, .int .i64 b1], .agg #[.int .i64 a2, .int .i64 b2], .int .i64 a3, .int .i64 a4] w fun e w' => e = .returned (.bool true) ∧ Nw w w' := by
  go_enter Tryd.func8, Tryd.ntmps8
  go_wp2_with fail
  refine (lives_ok _).mono ?_
  rintro e w' ⟨rfl, hg⟩
  (first | (replace hG := Nw.trans hG hg; clear hc hf) | have hG := hg)
  clear hg
  obtain ⟨hc, hf⟩ := hG.rules
  go_wp2_with fail
  refine (check_ok _ _ _ hk.out).mono ?_
  rintro e w' ⟨rfl, hg⟩
  (first | (replace hG := Nw.trans hG hg; clear hc hf) | have hG := hg)
  clear hg
  obtain ⟨hc, hf⟩ := hG.rules
  have hB := Box3.step _ _ (Box3.start w a0 b0 a1 b1 a2 b2 24) hG
  clear hc hf hG
  go_wp2
  refine region_in (Box3 w a0 b0 a1 b1 a2 b2) (by kernel_rfl) (by kernel_rfl) (Box3.step _ _ hB (Nw.refl _).drew1) ?_
  have c0 : ∀ d : Wd (Box3 w a0 b0 a1 b1 a2 b2), d.w.cell? ⟨w.heap.size, 0, none⟩ = some (.int .i64 a0) := fun d => d.h.1.1
  have c1 : ∀ d : Wd (Box3 w a0 b0 a1 b1 a2 b2), d.w.cell? ⟨w.heap.size, 1, none⟩ = some (.int .i64 b0) := fun d => d.h.1.2
  have c2 : ∀ d : Wd (Box3 w a0 b0 a1 b1 a2 b2), d.w.cell? ⟨w.heap.size + 1, 0, none⟩ = some (.int .i64 a1) := fun d => d.h.2.1.1
  have c3 : ∀ d : Wd (Box3 w a0 b0 a1 b1 a2 b2), d.w.cell? ⟨w.heap.size + 1, 1, none⟩ = some (.int .i64 b1) := fun d => d.h.2.1.2
  have c4 : ∀ d : Wd (Box3 w a0 b0 a1 b1 a2 b2), d.w.cell? ⟨w.heap.size + 1 + 1, 0, none⟩ = some (.int .i64 a2) := fun d => d.h.2.2.1.1
  have c5 : ∀ d : Wd (Box3 w a0 b0 a1 b1 a2 b2), d.w.cell? ⟨w.heap.size + 1 + 1, 1, none⟩ = some (.int .i64 b2) := fun d => d.h.2.2.1.2
  have hne : Nonempty (Wd (Box3 w a0 b0 a1 b1 a2 b2)) := ⟨⟨_, hB⟩⟩
  repeat (first | go_big_quiet_step ((first | exact quietN Box3.step (under_val _ _ _ _ _ _ h1.out) | exact quietN Box3.step (under_val _ _ _ _ _ _ h2.out) | exact quietN Box3.step (under_val _ _ _ _ _ _ h3.out) | exact quietN Box3.step (kitDB_any _))) | quiet_step ((first | exact quietN Box3.step (under_val _ _ _ _ _ _ h1.out) | exact quietN Box3.step (under_val _ _ _ _ _ _ h2.out) | exact quietN Box3.step (under_val _ _ _ _ _ _ h3.out) | exact quietN Box3.step (kitDB_any _))))
  refine wpQuiet_nil ?_
  intro d
  have h5 := d.h.2.2.2
  clear c0 c1 c2 c3 c4 c5 hne hB
  revert h5
  generalize d.w = w5
  intro h5
  go_wp2_with fail
  refine (table_no _ _ ht.out).mono ?_
  rintro e w6 ⟨rfl, h6⟩
  go_wp2_with fail
  refine (record_no _ _ _ hr.out).mono ?_
  rintro e w7 ⟨rfl, h7⟩
  go_wp2
  all_goals
    go_ret
    exact ⟨rfl, ((((h5.trans h6).alloc _).trans h7).alloc _)⟩

set_option maxHeartbeats 2000000 in
theorem way1_B1 (a0 b0 a1 b1 a2 b2 a3 a4 : Int) (w : World) (hk : Hid (lvl a0 b0 ≠ -1)) (h1 : Hid (und a0 b0 a0 b0 = true)) (h2 : Hid (und a0 b0 (-1) (-1) = true)) (h3 : Hid (und a0 b0 a1 b1 = false)) (hq0 : 0 ≤ a3) (hq1 : a3 < 100) (hq2 : a4 < 0) (ht : Hid (lvl a3 (-1) = 1)) (hr : Hid (lvl a3 a4 ≠ 2)) :
    Calls Tryd.prog 8 #[.agg #[.int .i64 a0, .int .i64 b0], .agg #[.int .i64 a1, .int .i64 b1], .agg #[.int .i64 a2, .int .i64 b2], .int .i64 a3, .int .i64 a4] w fun e w' => e = .returned (.bool true) ∧ Nw w w' := by
  go_enter Tryd.func8, Tryd.ntmps8
  go_wp2_with fail
  refine (lives_ok _).mono ?_
  rintro e w' ⟨rfl, hg⟩
  (first | (replace hG := Nw.trans hG hg; clear hc hf) | have hG := hg)
  clear hg
  obtain ⟨hc, hf⟩ := hG.rules
  go_wp2_with fail
  refine (check_ok _ _ _ hk.out).mono ?_
  rintro e w' ⟨rfl, hg⟩
  (first | (replace hG := Nw.trans hG hg; clear hc hf) | have hG := hg)
  clear hg
  obtain ⟨hc, hf⟩ := hG.rules
  have hB := Box3.step _ _ (Box3.start w a0 b0 a1 b1 a2 b2 24) hG
  clear hc hf hG
  go_wp2
  refine region_in (Box3 w a0 b0 a1 b1 a2 b2) (by kernel_rfl) (by kernel_rfl) (Box3.step _ _ hB (Nw.refl _).drew1) ?_
  have c0 : ∀ d : Wd (Box3 w a0 b0 a1 b1 a2 b2), d.w.cell? ⟨w.heap.size, 0, none⟩ = some (.int .i64 a0) := fun d => d.h.1.1
  have c1 : ∀ d : Wd (Box3 w a0 b0 a1 b1 a2 b2), d.w.cell? ⟨w.heap.size, 1, none⟩ = some (.int .i64 b0) := fun d => d.h.1.2
  have c2 : ∀ d : Wd (Box3 w a0 b0 a1 b1 a2 b2), d.w.cell? ⟨w.heap.size + 1, 0, none⟩ = some (.int .i64 a1) := fun d => d.h.2.1.1
  have c3 : ∀ d : Wd (Box3 w a0 b0 a1 b1 a2 b2), d.w.cell? ⟨w.heap.size + 1, 1, none⟩ = some (.int .i64 b1) := fun d => d.h.2.1.2
  have c4 : ∀ d : Wd (Box3 w a0 b0 a1 b1 a2 b2), d.w.cell? ⟨w.heap.size + 1 + 1, 0, none⟩ = some (.int .i64 a2) := fun d => d.h.2.2.1.1
  have c5 : ∀ d : Wd (Box3 w a0 b0 a1 b1 a2 b2), d.w.cell? ⟨w.heap.size + 1 + 1, 1, none⟩ = some (.int .i64 b2) := fun d => d.h.2.2.1.2
  have hne : Nonempty (Wd (Box3 w a0 b0 a1 b1 a2 b2)) := ⟨⟨_, hB⟩⟩
  repeat (first | go_big_quiet_step ((first | exact quietN Box3.step (under_val _ _ _ _ _ _ h1.out) | exact quietN Box3.step (under_val _ _ _ _ _ _ h2.out) | exact quietN Box3.step (under_val _ _ _ _ _ _ h3.out) | exact quietN Box3.step (kitDB_any _))) | quiet_step ((first | exact quietN Box3.step (under_val _ _ _ _ _ _ h1.out) | exact quietN Box3.step (under_val _ _ _ _ _ _ h2.out) | exact quietN Box3.step (under_val _ _ _ _ _ _ h3.out) | exact quietN Box3.step (kitDB_any _))))
  refine wpQuiet_nil ?_
  intro d
  have h5 := d.h.2.2.2
  clear c0 c1 c2 c3 c4 c5 hne hB
  revert h5
  generalize d.w = w5
  intro h5
  go_wp2_with fail
  refine (table_ok _ _ ht.out).mono ?_
  rintro e w6 ⟨rfl, h6⟩
  go_wp2_with fail
  refine (record_no _ _ _ hr.out).mono ?_
  rintro e w7 ⟨rfl, h7⟩
  have n0 : w7.cell? ⟨w6.heap.size, 0, none⟩ = some (.int .i64 a3) := h7.keep (by simp [go_sem])
  have n1 : w7.cell? ⟨w6.heap.size, 1, none⟩ = some (.int .i64 (-1)) := h7.keep (by simp [go_sem])
  have p0 : ∀ o, (w7.alloc o).cell? ⟨w6.heap.size, 0, none⟩ = some (.int .i64 a3) := fun _ => ((Nw.refl _).alloc _).keep n0
  have p1 : ∀ o, (w7.alloc o).cell? ⟨w6.heap.size, 1, none⟩ = some (.int .i64 (-1)) := fun _ => ((Nw.refl _).alloc _).keep n1
  go_wp2_with fail
  refine (level_val _ _ _ _ ht.out).mono ?_
  rintro e w8 ⟨rfl, h8⟩
  go_wp2
  all_goals
    go_ret
    exact ⟨rfl, (((((h5.trans h6).alloc _).trans h7).alloc _).trans h8)⟩

set_option maxHeartbeats 2000000 in
theorem way1_B2 (a0 b0 a1 b1 a2 b2 a3 a4 : Int) (w : World) (hk : Hid (lvl a0 b0 ≠ -1)) (h1 : Hid (und a0 b0 a0 b0 = true)) (h2 : Hid (und a0 b0 (-1) (-1) = true)) (h3 : Hid (und a0 b0 a1 b1 = false)) (hq0 : 0 ≤ a3) (hq1 : a3 < 100) (hq2 : 0 ≤ a4) (hq3 : 100 ≤ a4) (ht : Hid (lvl a3 (-1) = 1)) (hr : Hid (lvl a3 a4 ≠ 2)) :
    Calls Tryd.prog 8 #[.agg #[.int .i64 a0, .int .i64 b0], .agg #[.int .i64 a1, .int .i64 b1], .agg #[.int .i64 a2, .int .i64 b2], .int .i64 a3, .int .i64 a4] w fun e w' => e = .returned (.bool true) ∧ Nw w w' := by
  go_enter Tryd.func8, Tryd.ntmps8
  go_wp2_with fail
  refine (lives_ok _).mono ?_
  rintro e w' ⟨rfl, hg⟩
  (first | (replace hG := Nw.trans hG hg; clear hc hf) | have hG := hg)
  clear hg
  obtain ⟨hc, hf⟩ := hG.rules
  go_wp2_with fail
  refine (check_ok _ _ _ hk.out).mono ?_
  rintro e w' ⟨rfl, hg⟩
  (first | (replace hG := Nw.trans hG hg; clear hc hf) | have hG := hg)
  clear hg
  obtain ⟨hc, hf⟩ := hG.rules
  have hB := Box3.step _ _ (Box3.start w a0 b0 a1 b1 a2 b2 24) hG
  clear hc hf hG
  go_wp2
  refine region_in (Box3 w a0 b0 a1 b1 a2 b2) (by kernel_rfl) (by kernel_rfl) (Box3.step _ _ hB (Nw.refl _).drew1) ?_
  have c0 : ∀ d : Wd (Box3 w a0 b0 a1 b1 a2 b2), d.w.cell? ⟨w.heap.size, 0, none⟩ = some (.int .i64 a0) := fun d => d.h.1.1
  have c1 : ∀ d : Wd (Box3 w a0 b0 a1 b1 a2 b2), d.w.cell? ⟨w.heap.size, 1, none⟩ = some (.int .i64 b0) := fun d => d.h.1.2
  have c2 : ∀ d : Wd (Box3 w a0 b0 a1 b1 a2 b2), d.w.cell? ⟨w.heap.size + 1, 0, none⟩ = some (.int .i64 a1) := fun d => d.h.2.1.1
  have c3 : ∀ d : Wd (Box3 w a0 b0 a1 b1 a2 b2), d.w.cell? ⟨w.heap.size + 1, 1, none⟩ = some (.int .i64 b1) := fun d => d.h.2.1.2
  have c4 : ∀ d : Wd (Box3 w a0 b0 a1 b1 a2 b2), d.w.cell? ⟨w.heap.size + 1 + 1, 0, none⟩ = some (.int .i64 a2) := fun d => d.h.2.2.1.1
  have c5 : ∀ d : Wd (Box3 w a0 b0 a1 b1 a2 b2), d.w.cell? ⟨w.heap.size + 1 + 1, 1, none⟩ = some (.int .i64 b2) := fun d => d.h.2.2.1.2
  have hne : Nonempty (Wd (Box3 w a0 b0 a1 b1 a2 b2)) := ⟨⟨_, hB⟩⟩
  repeat (first | go_big_quiet_step ((first | exact quietN Box3.step (under_val _ _ _ _ _ _ h1.out) | exact quietN Box3.step (under_val _ _ _ _ _ _ h2.out) | exact quietN Box3.step (under_val _ _ _ _ _ _ h3.out) | exact quietN Box3.step (kitDB_any _))) | quiet_step ((first | exact quietN Box3.step (under_val _ _ _ _ _ _ h1.out) | exact quietN Box3.step (under_val _ _ _ _ _ _ h2.out) | exact quietN Box3.step (under_val _ _ _ _ _ _ h3.out) | exact quietN Box3.step (kitDB_any _))))
  refine wpQuiet_nil ?_
  intro d
  have h5 := d.h.2.2.2
  clear c0 c1 c2 c3 c4 c5 hne hB
  revert h5
  generalize d.w = w5
  intro h5
  go_wp2_with fail
  refine (table_ok _ _ ht.out).mono ?_
  rintro e w6 ⟨rfl, h6⟩
  go_wp2_with fail
  refine (record_no _ _ _ hr.out).mono ?_
  rintro e w7 ⟨rfl, h7⟩
  have n0 : w7.cell? ⟨w6.heap.size, 0, none⟩ = some (.int .i64 a3) := h7.keep (by simp [go_sem])
  have n1 : w7.cell? ⟨w6.heap.size, 1, none⟩ = some (.int .i64 (-1)) := h7.keep (by simp [go_sem])
  have p0 : ∀ o, (w7.alloc o).cell? ⟨w6.heap.size, 0, none⟩ = some (.int .i64 a3) := fun _ => ((Nw.refl _).alloc _).keep n0
  have p1 : ∀ o, (w7.alloc o).cell? ⟨w6.heap.size, 1, none⟩ = some (.int .i64 (-1)) := fun _ => ((Nw.refl _).alloc _).keep n1
  go_wp2_with fail
  refine (level_val _ _ _ _ ht.out).mono ?_
  rintro e w8 ⟨rfl, h8⟩
  go_wp2
  all_goals
    go_ret
    exact ⟨rfl, (((((h5.trans h6).alloc _).trans h7).alloc _).trans h8)⟩

set_option maxHeartbeats 2000000 in
theorem way1_C (a0 b0 a1 b1 a2 b2 a3 a4 : Int) (w : World) (hk : Hid (lvl a0 b0 ≠ -1)) (h1 : Hid (und a0 b0 a0 b0 = true)) (h2 : Hid (und a0 b0 (-1) (-1) = true)) (h3 : Hid (und a0 b0 a1 b1 = false)) (hq0 : 0 ≤ a3) (hq1 : a3 < 100) (hq2 : 0 ≤ a4) (hq3 : a4 < 100) (ht : Hid (lvl a3 (-1) = 1)) (hr : Hid (lvl a3 a4 = 2)) (hu : Hid (und a3 a4 a3 (-1) = true)) (hv : Hid (und a3 (-1) a3 a4 = false)) :
    Calls Tryd.prog 8 #[.agg #[.int .i64 a0, .int .i64 b0], .agg #[.int .i64 a1, .int .i64 b1], .agg #[.int .i64 a2, .int .i64 b2], .int .i64 a3, .int .i64 a4] w fun e w' => e = .returned (.bool true) ∧ Nw w w' := by
  go_enter Tryd.func8, Tryd.ntmps8
  go_wp2_with fail
  refine (lives_ok _).mono ?_
  rintro e w' ⟨rfl, hg⟩
  (first | (replace hG := Nw.trans hG hg; clear hc hf) | have hG := hg)
  clear hg
  obtain ⟨hc, hf⟩ := hG.rules
  go_wp2_with fail
  refine (check_ok _ _ _ hk.out).mono ?_
  rintro e w' ⟨rfl, hg⟩
  (first | (replace hG := Nw.trans hG hg; clear hc hf) | have hG := hg)
  clear hg
  obtain ⟨hc, hf⟩ := hG.rules
  have hB := Box3.step _ _ (Box3.start w a0 b0 a1 b1 a2 b2 24) hG
  clear hc hf hG
  go_wp2
  refine region_in (Box3 w a0 b0 a1 b1 a2 b2) (by kernel_rfl) (by kernel_rfl) (Box3.step _ _ hB (Nw.refl _).drew1) ?_
  have c0 : ∀ d : Wd (Box3 w a0 b0 a1 b1 a2 b2), d.w.cell? ⟨w.heap.size, 0, none⟩ = some (.int .i64 a0) := fun d => d.h.1.1
  have c1 : ∀ d : Wd (Box3 w a0 b0 a1 b1 a2 b2), d.w.cell? ⟨w.heap.size, 1, none⟩ = some (.int .i64 b0) := fun d => d.h.1.2
  have c2 : ∀ d : Wd (Box3 w a0 b0 a1 b1 a2 b2), d.w.cell? ⟨w.heap.size + 1, 0, none⟩ = some (.int .i64 a1) := fun d => d.h.2.1.1
  have c3 : ∀ d : Wd (Box3 w a0 b0 a1 b1 a2 b2), d.w.cell? ⟨w.heap.size + 1, 1, none⟩ = some (.int .i64 b1) := fun d => d.h.2.1.2
  have c4 : ∀ d : Wd (Box3 w a0 b0 a1 b1 a2 b2), d.w.cell? ⟨w.heap.size + 1 + 1, 0, none⟩ = some (.int .i64 a2) := fun d => d.h.2.2.1.1
  have c5 : ∀ d : Wd (Box3 w a0 b0 a1 b1 a2 b2), d.w.cell? ⟨w.heap.size + 1 + 1, 1, none⟩ = some (.int .i64 b2) := fun d => d.h.2.2.1.2
  have hne : Nonempty (Wd (Box3 w a0 b0 a1 b1 a2 b2)) := ⟨⟨_, hB⟩⟩
  repeat (first | go_big_quiet_step ((first | exact quietN Box3.step (under_val _ _ _ _ _ _ h1.out) | exact quietN Box3.step (under_val _ _ _ _ _ _ h2.out) | exact quietN Box3.step (under_val _ _ _ _ _ _ h3.out) | exact quietN Box3.step (kitDB_any _))) | quiet_step ((first | exact quietN Box3.step (under_val _ _ _ _ _ _ h1.out) | exact quietN Box3.step (under_val _ _ _ _ _ _ h2.out) | exact quietN Box3.step (under_val _ _ _ _ _ _ h3.out) | exact quietN Box3.step (kitDB_any _))))
  refine wpQuiet_nil ?_
  intro d
  have h5 := d.h.2.2.2
  clear c0 c1 c2 c3 c4 c5 hne hB
  revert h5
  generalize d.w = w5
  intro h5
  go_wp2_with fail
  refine (table_ok _ _ ht.out).mono ?_
  rintro e w6 ⟨rfl, h6⟩
  go_wp2_with fail
  refine (record_ok _ _ _ hr.out).mono ?_
  rintro e w7 ⟨rfl, h7⟩
  have n0 : w7.cell? ⟨w6.heap.size, 0, none⟩ = some (.int .i64 a3) := h7.keep (by simp [go_sem])
  have n1 : w7.cell? ⟨w6.heap.size, 1, none⟩ = some (.int .i64 (-1)) := h7.keep (by simp [go_sem])
  have p0 : ∀ o, (w7.alloc o).cell? ⟨w6.heap.size, 0, none⟩ = some (.int .i64 a3) := fun _ => ((Nw.refl _).alloc _).keep n0
  have p1 : ∀ o, (w7.alloc o).cell? ⟨w6.heap.size, 1, none⟩ = some (.int .i64 (-1)) := fun _ => ((Nw.refl _).alloc _).keep n1
  go_wp2_with fail
  refine (level_val _ _ _ _ ht.out).mono ?_
  rintro e w8 ⟨rfl, h8⟩
  have q0 := h8.keep (p0 _)
  have q1 := h8.keep (p1 _)
  have r0 : w8.cell? ⟨w7.heap.size, 0, none⟩ = some (.int .i64 a3) := h8.keep (by simp [go_sem])
  have r1 : w8.cell? ⟨w7.heap.size, 1, none⟩ = some (.int .i64 a4) := h8.keep (by simp [go_sem])
  clear p0 p1 n0 n1
  go_wp2_with fail
  refine (under_val _ _ _ _ _ _ hu.out).mono ?_
  rintro e w9 ⟨rfl, h9⟩
  replace q0 := h9.keep q0
  replace q1 := h9.keep q1
  replace r0 := h9.keep r0
  replace r1 := h9.keep r1
  go_wp2_with fail
  refine (level_val _ _ _ _ hr.out).mono ?_
  rintro e w10 ⟨rfl, h10⟩
  replace q0 := h10.keep q0
  replace q1 := h10.keep q1
  replace r0 := h10.keep r0
  replace r1 := h10.keep r1
  go_wp2_with fail
  refine (under_val _ _ _ _ _ _ hv.out).mono ?_
  rintro e w11 ⟨rfl, h11⟩
  go_wp2
  all_goals
    go_ret
    exact ⟨rfl, ((((((((h5.trans h6).alloc _).trans h7).alloc _).trans h8).trans h9).trans h10).trans h11)⟩

set_option maxHeartbeats 2000000 in
theorem way0_A1 (a0 b0 a1 b1 a2 b2 a3 a4 : Int) (w : World) (hk : Hid (lvl a0 b0 = -1)) (h1 : Hid (und a0 b0 a0 b0 = false)) (h2 : Hid (und a0 b0 (-1) (-1) = false)) (h3 : Hid (und a0 b0 a1 b1 = false)) (hq : a3 < 0) (ht : Hid (lvl a3 (-1) ≠ 1)) (hr : Hid (lvl a3 a4 ≠ 2)) :
    Calls Tryd.prog 8 #[.agg #[.int .i64 a0, .int .i64 b0], .agg #[.int .i64 a1, .int .i64 b1], .agg #[.int .i64 a2, .int .i64 b2], .int .i64 a3, .int .i64 a4] w fun e w' => e = .returned (.bool true) ∧ Nw w w' := by
  go_enter Tryd.func8, Tryd.ntmps8
  go_wp2_with fail
  refine (lives_ok _).mono ?_
  rintro e w' ⟨rfl, hg⟩
  (first | (replace hG := Nw.trans hG hg; clear hc hf) | have hG := hg)
  clear hg
  obtain ⟨hc, hf⟩ := hG.rules
  go_wp2_with fail
  refine (check_no _ _ _ hk.out).mono ?_
  rintro e w' ⟨rfl, hg⟩
  (first | (replace hG := Nw.trans hG hg; clear hc hf) | have hG := hg)
  clear hg
  obtain ⟨hc, hf⟩ := hG.rules
  have hB := Box3.step _ _ (Box3.start w a0 b0 a1 b1 a2 b2 24) hG
  clear hc hf hG
  go_wp2
  refine region_in (Box3 w a0 b0 a1 b1 a2 b2) (by kernel_rfl) (by kernel_rfl) (Box3.step _ _ hB (Nw.refl _).drew1) ?_
  have c0 : ∀ d : Wd (Box3 w a0 b0 a1 b1 a2 b2), d.w.cell? ⟨w.heap.size, 0, none⟩ = some (.int .i64 a0) := fun d => d.h.1.1
  have c1 : ∀ d : Wd (Box3 w a0 b0 a1 b1 a2 b2), d.w.cell? ⟨w.heap.size, 1, none⟩ = some (.int .i64 b0) := fun d => d.h.1.2
  have c2 : ∀ d : Wd (Box3 w a0 b0 a1 b1 a2 b2), d.w.cell? ⟨w.heap.size + 1, 0, none⟩ = some (.int .i64 a1) := fun d => d.h.2.1.1
  have c3 : ∀ d : Wd (Box3 w a0 b0 a1 b1 a2 b2), d.w.cell? ⟨w.heap.size + 1, 1, none⟩ = some (.int .i64 b1) := fun d => d.h.2.1.2
  have c4 : ∀ d : Wd (Box3 w a0 b0 a1 b1 a2 b2), d.w.cell? ⟨w.heap.size + 1 + 1, 0, none⟩ = some (.int .i64 a2) := fun d => d.h.2.2.1.1
  have c5 : ∀ d : Wd (Box3 w a0 b0 a1 b1 a2 b2), d.w.cell? ⟨w.heap.size + 1 + 1, 1, none⟩ = some (.int .i64 b2) := fun d => d.h.2.2.1.2
  have hne : Nonempty (Wd (Box3 w a0 b0 a1 b1 a2 b2)) := ⟨⟨_, hB⟩⟩
  repeat (first | go_big_quiet_step ((first | exact quietN Box3.step (under_val _ _ _ _ _ _ h1.out) | exact quietN Box3.step (under_val _ _ _ _ _ _ h2.out) | exact quietN Box3.step (under_val _ _ _ _ _ _ h3.out) | exact quietN Box3.step (kitDB_any _))) | quiet_step ((first | exact quietN Box3.step (under_val _ _ _ _ _ _ h1.out) | exact quietN Box3.step (under_val _ _ _ _ _ _ h2.out) | exact quietN Box3.step (under_val _ _ _ _ _ _ h3.out) | exact quietN Box3.step (kitDB_any _))))
  refine wpQuiet_nil ?_
  intro d
  have h5 := d.h.2.2.2
  clear c0 c1 c2 c3 c4 c5 hne hB
  revert h5
  generalize d.w = w5
  intro h5
  go_wp2_with fail
  refine (table_no _ _ ht.out).mono ?_
  rintro e w6 ⟨rfl, h6⟩
  go_wp2_with fail
  refine (record_no _ _ _ hr.out).mono ?_
  rintro e w7 ⟨rfl, h7⟩
  go_wp2
  all_goals
    go_ret
    exact ⟨rfl, ((((h5.trans h6).alloc _).trans h7).alloc _)⟩

set_option maxHeartbeats 2000000 in
theorem way0_A2 (a0 b0 a1 b1 a2 b2 a3 a4 : Int) (w : World) (hk : Hid (lvl a0 b0 = -1)) (h1 : Hid (und a0 b0 a0 b0 = false)) (h2 : Hid (und a0 b0 (-1) (-1) = false)) (h3 : Hid (und a0 b0 a1 b1 = false)) (hq0 : 0 ≤ a3) (hq : 100 ≤ a3) (ht : Hid (lvl a3 (-1) ≠ 1)) (hr : Hid (lvl a3 a4 ≠ 2)) :
    Calls Tryd.prog 8 #[.agg #[.int .i64 a0, .int .i64 b0], .agg #[.int .i64 a1, .int .i64 b1], .agg #[.int .i64 a2, .int .i64 b2], .int .i64 a3, .int .i64 a4] w fun e w' => e = .returned (.bool true) ∧ Nw w w' := by
  go_enter Tryd.func8, Tryd.ntmps8
  go_wp2_with fail
  refine (lives_ok _).mono ?_
  rintro e w' ⟨rfl, hg⟩
  (first | (replace hG := Nw.trans hG hg; clear hc hf) | have hG := hg)
  clear hg
  obtain ⟨hc, hf⟩ := hG.rules
  go_wp2_with fail
  refine (check_no _ _ _ hk.out).mono ?_
  rintro e w' ⟨rfl, hg⟩
  (first | (replace hG := Nw.trans hG hg; clear hc hf) | have hG := hg)
  clear hg
  obtain ⟨hc, hf⟩ := hG.rules
  have hB := Box3.step _ _ (Box3.start w a0 b0 a1 b1 a2 b2 24) hG
  clear hc hf hG
  go_wp2
  refine region_in (Box3 w a0 b0 a1 b1 a2 b2) (by kernel_rfl) (by kernel_rfl) (Box3.step _ _ hB (Nw.refl _).drew1) ?_
  have c0 : ∀ d : Wd (Box3 w a0 b0 a1 b1 a2 b2), d.w.cell? ⟨w.heap.size, 0, none⟩ = some (.int .i64 a0) := fun d => d.h.1.1
  have c1 : ∀ d : Wd (Box3 w a0 b0 a1 b1 a2 b2), d.w.cell? ⟨w.heap.size, 1, none⟩ = some (.int .i64 b0) := fun d => d.h.1.2
  have c2 : ∀ d : Wd (Box3 w a0 b0 a1 b1 a2 b2), d.w.cell? ⟨w.heap.size + 1, 0, none⟩ = some (.int .i64 a1) := fun d => d.h.2.1.1
  have c3 : ∀ d : Wd (Box3 w a0 b0 a1 b1 a2 b2), d.w.cell? ⟨w.heap.size + 1, 1, none⟩ = some (.int .i64 b1) := fun d => d.h.2.1.2
  have c4 : ∀ d : Wd (Box3 w a0 b0 a1 b1 a2 b2), d.w.cell? ⟨w.heap.size + 1 + 1, 0, none⟩ = some (.int .i64 a2) := fun d => d.h.2.2.1.1
  have c5 : ∀ d : Wd (Box3 w a0 b0 a1 b1 a2 b2), d.w.cell? ⟨w.heap.size + 1 + 1, 1, none⟩ = some (.int .i64 b2) := fun d => d.h.2.2.1.2
  have hne : Nonempty (Wd (Box3 w a0 b0 a1 b1 a2 b2)) := ⟨⟨_, hB⟩⟩
  repeat (first | go_big_quiet_step ((first | exact quietN Box3.step (under_val _ _ _ _ _ _ h1.out) | exact quietN Box3.step (under_val _ _ _ _ _ _ h2.out) | exact quietN Box3.step (under_val _ _ _ _ _ _ h3.out) | exact quietN Box3.step (kitDB_any _))) | quiet_step ((first | exact quietN Box3.step (under_val _ _ _ _ _ _ h1.out) | exact quietN Box3.step (under_val _ _ _ _ _ _ h2.out) | exact quietN Box3.step (under_val _ _ _ _ _ _ h3.out) | exact quietN Box3.step (kitDB_any _))))
  refine wpQuiet_nil ?_
  intro d
  have h5 := d.h.2.2.2
  clear c0 c1 c2 c3 c4 c5 hne hB
  revert h5
  generalize d.w = w5
  intro h5
  go_wp2_with fail
  refine (table_no _ _ ht.out).mono ?_
  rintro e w6 ⟨rfl, h6⟩
  go_wp2_with fail
  refine (record_no _ _ _ hr.out).mono ?_
  rintro e w7 ⟨rfl, h7⟩
  go_wp2
  all_goals
    go_ret
    exact ⟨rfl, ((((h5.trans h6).alloc _).trans h7).alloc _)⟩

set_option maxHeartbeats 2000000 in
theorem way0_B1 (a0 b0 a1 b1 a2 b2 a3 a4 : Int) (w : World) (hk : Hid (lvl a0 b0 = -1)) (h1 : Hid (und a0 b0 a0 b0 = false)) (h2 : Hid (und a0 b0 (-1) (-1) = false)) (h3 : Hid (und a0 b0 a1 b1 = false)) (hq0 : 0 ≤ a3) (hq1 : a3 < 100) (hq2 : a4 < 0) (ht : Hid (lvl a3 (-1) = 1)) (hr : Hid (lvl a3 a4 ≠ 2)) :
    Calls Tryd.prog 8 #[.agg #[.int .i64 a0, .int .i64 b0], .agg #[.int .i64 a1, .int .i64 b1], .agg #[.int .i64 a2, .int .i64 b2], .int .i64 a3, .int .i64 a4] w fun e w' => e = .returned (.bool true) ∧ Nw w w' := by
  go_enter Tryd.func8, Tryd.ntmps8
  go_wp2_with fail
  refine (lives_ok _).mono ?_
  rintro e w' ⟨rfl, hg⟩
  (first | (replace hG := Nw.trans hG hg; clear hc hf) | have hG := hg)
  clear hg
  obtain ⟨hc, hf⟩ := hG.rules
  go_wp2_with fail
  refine (check_no _ _ _ hk.out).mono ?_
  rintro e w' ⟨rfl, hg⟩
  (first | (replace hG := Nw.trans hG hg; clear hc hf) | have hG := hg)
  clear hg
  obtain ⟨hc, hf⟩ := hG.rules
  have hB := Box3.step _ _ (Box3.start w a0 b0 a1 b1 a2 b2 24) hG
  clear hc hf hG
  go_wp2
  refine region_in (Box3 w a0 b0 a1 b1 a2 b2) (by kernel_rfl) (by kernel_rfl) (Box3.step _ _ hB (Nw.refl _).drew1) ?_
  have c0 : ∀ d : Wd (Box3 w a0 b0 a1 b1 a2 b2), d.w.cell? ⟨w.heap.size, 0, none⟩ = some (.int .i64 a0) := fun d => d.h.1.1
  have c1 : ∀ d : Wd (Box3 w a0 b0 a1 b1 a2 b2), d.w.cell? ⟨w.heap.size, 1, none⟩ = some (.int .i64 b0) := fun d => d.h.1.2
  have c2 : ∀ d : Wd (Box3 w a0 b0 a1 b1 a2 b2), d.w.cell? ⟨w.heap.size + 1, 0, none⟩ = some (.int .i64 a1) := fun d => d.h.2.1.1
  have c3 : ∀ d : Wd (Box3 w a0 b0 a1 b1 a2 b2), d.w.cell? ⟨w.heap.size + 1, 1, none⟩ = some (.int .i64 b1) := fun d => d.h.2.1.2
  have c4 : ∀ d : Wd (Box3 w a0 b0 a1 b1 a2 b2), d.w.cell? ⟨w.heap.size + 1 + 1, 0, none⟩ = some (.int .i64 a2) := fun d => d.h.2.2.1.1
  have c5 : ∀ d : Wd (Box3 w a0 b0 a1 b1 a2 b2), d.w.cell? ⟨w.heap.size + 1 + 1, 1, none⟩ = some (.int .i64 b2) := fun d => d.h.2.2.1.2
  have hne : Nonempty (Wd (Box3 w a0 b0 a1 b1 a2 b2)) := ⟨⟨_, hB⟩⟩
  repeat (first | go_big_quiet_step ((first | exact quietN Box3.step (under_val _ _ _ _ _ _ h1.out) | exact quietN Box3.step (under_val _ _ _ _ _ _ h2.out) | exact quietN Box3.step (under_val _ _ _ _ _ _ h3.out) | exact quietN Box3.step (kitDB_any _))) | quiet_step ((first | exact quietN Box3.step (under_val _ _ _ _ _ _ h1.out) | exact quietN Box3.step (under_val _ _ _ _ _ _ h2.out) | exact quietN Box3.step (under_val _ _ _ _ _ _ h3.out) | exact quietN Box3.step (kitDB_any _))))
  refine wpQuiet_nil ?_
  intro d
  have h5 := d.h.2.2.2
  clear c0 c1 c2 c3 c4 c5 hne hB
  revert h5
  generalize d.w = w5
  intro h5
  go_wp2_with fail
  refine (table_ok _ _ ht.out).mono ?_
  rintro e w6 ⟨rfl, h6⟩
  go_wp2_with fail
  refine (record_no _ _ _ hr.out).mono ?_
  rintro e w7 ⟨rfl, h7⟩
  have n0 : w7.cell? ⟨w6.heap.size, 0, none⟩ = some (.int .i64 a3) := h7.keep (by simp [go_sem])
  have n1 : w7.cell? ⟨w6.heap.size, 1, none⟩ = some (.int .i64 (-1)) := h7.keep (by simp [go_sem])
  have p0 : ∀ o, (w7.alloc o).cell? ⟨w6.heap.size, 0, none⟩ = some (.int .i64 a3) := fun _ => ((Nw.refl _).alloc _).keep n0
  have p1 : ∀ o, (w7.alloc o).cell? ⟨w6.heap.size, 1, none⟩ = some (.int .i64 (-1)) := fun _ => ((Nw.refl _).alloc _).keep n1
  go_wp2_with fail
  refine (level_val _ _ _ _ ht.out).mono ?_
  rintro e w8 ⟨rfl, h8⟩
  go_wp2
  all_goals
    go_ret
    exact ⟨rfl, (((((h5.trans h6).alloc _).trans h7).alloc _).trans h8)⟩

set_option maxHeartbeats 2000000 in
theorem way0_B2 (a0 b0 a1 b1 a2 b2 a3 a4 : Int) (w : World) (hk : Hid (lvl a0 b0 = -1)) (h1 : Hid (und a0 b0 a0 b0 = false)) (h2 : Hid (und a0 b0 (-1) (-1) = false)) (h3 : Hid (und a0 b0 a1 b1 = false)) (hq0 : 0 ≤ a3) (hq1 : a3 < 100) (hq2 : 0 ≤ a4) (hq3 : 100 ≤ a4) (ht : Hid (lvl a3 (-1) = 1)) (hr : Hid (lvl a3 a4 ≠ 2)) :
    Calls Tryd.prog 8 #[.agg #[.int .i64 a0, .int .i64 b0], .agg #[.int .i64 a1, .int .i64 b1], .agg #[.int .i64 a2, .int .i64 b2], .int .i64 a3, .int .i64 a4] w fun e w' => e = .returned (.bool true) ∧ Nw w w' := by
  go_enter Tryd.func8, Tryd.ntmps8
  go_wp2_with fail
  refine (lives_ok _).mono ?_
  rintro e w' ⟨rfl, hg⟩
  (first | (replace hG := Nw.trans hG hg; clear hc hf) | have hG := hg)
  clear hg
  obtain ⟨hc, hf⟩ := hG.rules
  go_wp2_with fail
  refine (check_no _ _ _ hk.out).mono ?_
  rintro e w' ⟨rfl, hg⟩
  (first | (replace hG := Nw.trans hG hg; clear hc hf) | have hG := hg)
  clear hg
  obtain ⟨hc, hf⟩ := hG.rules
  have hB := Box3.step _ _ (Box3.start w a0 b0 a1 b1 a2 b2 24) hG
  clear hc hf hG
  go_wp2
  refine region_in (Box3 w a0 b0 a1 b1 a2 b2) (by kernel_rfl) (by kernel_rfl) (Box3.step _ _ hB (Nw.refl _).drew1) ?_
  have c0 : ∀ d : Wd (Box3 w a0 b0 a1 b1 a2 b2), d.w.cell? ⟨w.heap.size, 0, none⟩ = some (.int .i64 a0) := fun d => d.h.1.1
  have c1 : ∀ d : Wd (Box3 w a0 b0 a1 b1 a2 b2), d.w.cell? ⟨w.heap.size, 1, none⟩ = some (.int .i64 b0) := fun d => d.h.1.2
  have c2 : ∀ d : Wd (Box3 w a0 b0 a1 b1 a2 b2), d.w.cell? ⟨w.heap.size + 1, 0, none⟩ = some (.int .i64 a1) := fun d => d.h.2.1.1
  have c3 : ∀ d : Wd (Box3 w a0 b0 a1 b1 a2 b2), d.w.cell? ⟨w.heap.size + 1, 1, none⟩ = some (.int .i64 b1) := fun d => d.h.2.1.2
  have c4 : ∀ d : Wd (Box3 w a0 b0 a1 b1 a2 b2), d.w.cell? ⟨w.heap.size + 1 + 1, 0, none⟩ = some (.int .i64 a2) := fun d => d.h.2.2.1.1
  have c5 : ∀ d : Wd (Box3 w a0 b0 a1 b1 a2 b2), d.w.cell? ⟨w.heap.size + 1 + 1, 1, none⟩ = some (.int .i64 b2) := fun d => d.h.2.2.1.2
  have hne : Nonempty (Wd (Box3 w a0 b0 a1 b1 a2 b2)) := ⟨⟨_, hB⟩⟩
  repeat (first | go_big_quiet_step ((first | exact quietN Box3.step (under_val _ _ _ _ _ _ h1.out) | exact quietN Box3.step (under_val _ _ _ _ _ _ h2.out) | exact quietN Box3.step (under_val _ _ _ _ _ _ h3.out) | exact quietN Box3.step (kitDB_any _))) | quiet_step ((first | exact quietN Box3.step (under_val _ _ _ _ _ _ h1.out) | exact quietN Box3.step (under_val _ _ _ _ _ _ h2.out) | exact quietN Box3.step (under_val _ _ _ _ _ _ h3.out) | exact quietN Box3.step (kitDB_any _))))
  refine wpQuiet_nil ?_
  intro d
  have h5 := d.h.2.2.2
  clear c0 c1 c2 c3 c4 c5 hne hB
  revert h5
  generalize d.w = w5
  intro h5
  go_wp2_with fail
  refine (table_ok _ _ ht.out).mono ?_
  rintro e w6 ⟨rfl, h6⟩
  go_wp2_with fail
  refine (record_no _ _ _ hr.out).mono ?_
  rintro e w7 ⟨rfl, h7⟩
  have n0 : w7.cell? ⟨w6.heap.size, 0, none⟩ = some (.int .i64 a3) := h7.keep (by simp [go_sem])
  have n1 : w7.cell? ⟨w6.heap.size, 1, none⟩ = some (.int .i64 (-1)) := h7.keep (by simp [go_sem])
  have p0 : ∀ o, (w7.alloc o).cell? ⟨w6.heap.size, 0, none⟩ = some (.int .i64 a3) := fun _ => ((Nw.refl _).alloc _).keep n0
  have p1 : ∀ o, (w7.alloc o).cell? ⟨w6.heap.size, 1, none⟩ = some (.int .i64 (-1)) := fun _ => ((Nw.refl _).alloc _).keep n1
  go_wp2_with fail
  refine (level_val _ _ _ _ ht.out).mono ?_
  rintro e w8 ⟨rfl, h8⟩
  go_wp2
  all_goals
    go_ret
    exact ⟨rfl, (((((h5.trans h6).alloc _).trans h7).alloc _).trans h8)⟩

set_option maxHeartbeats 2000000 in
theorem way0_C (a0 b0 a1 b1 a2 b2 a3 a4 : Int) (w : World) (hk : Hid (lvl a0 b0 = -1)) (h1 : Hid (und a0 b0 a0 b0 = false)) (h2 : Hid (und a0 b0 (-1) (-1) = false)) (h3 : Hid (und a0 b0 a1 b1 = false)) (hq0 : 0 ≤ a3) (hq1 : a3 < 100) (hq2 : 0 ≤ a4) (hq3 : a4 < 100) (ht : Hid (lvl a3 (-1) = 1)) (hr : Hid (lvl a3 a4 = 2)) (hu : Hid (und a3 a4 a3 (-1) = true)) (hv : Hid (und a3 (-1) a3 a4 = false)) :
    Calls Tryd.prog 8 #[.agg #[.int .i64 a0, .int .i64 b0], .agg #[.int .i64 a1, .int .i64 b1], .agg #[.int .i64 a2, .int .i64 b2], .int .i64 a3, .int .i64 a4] w fun e w' => e = .returned (.bool true) ∧ Nw w w' := by
  go_enter Tryd.func8, Tryd.ntmps8
  go_wp2_with fail
  refine (lives_ok _).mono ?_
  rintro e w' ⟨rfl, hg⟩
  (first | (replace hG := Nw.trans hG hg; clear hc hf) | have hG := hg)
  clear hg
  obtain ⟨hc, hf⟩ := hG.rules
  go_wp2_with fail
  refine (check_no _ _ _ hk.out).mono ?_
  rintro e w' ⟨rfl, hg⟩
  (first | (replace hG := Nw.trans hG hg; clear hc hf) | have hG := hg)
  clear hg
  obtain ⟨hc, hf⟩ := hG.rules
  have hB := Box3.step _ _ (Box3.start w a0 b0 a1 b1 a2 b2 24) hG
  clear hc hf hG
  go_wp2
  refine region_in (Box3 w a0 b0 a1 b1 a2 b2) (by kernel_rfl) (by kernel_rfl) (Box3.step _ _ hB (Nw.refl _).drew1) ?_
  have c0 : ∀ d : Wd (Box3 w a0 b0 a1 b1 a2 b2), d.w.cell? ⟨w.heap.size, 0, none⟩ = some (.int .i64 a0) := fun d => d.h.1.1
  have c1 : ∀ d : Wd (Box3 w a0 b0 a1 b1 a2 b2), d.w.cell? ⟨w.heap.size, 1, none⟩ = some (.int .i64 b0) := fun d => d.h.1.2
  have c2 : ∀ d : Wd (Box3 w a0 b0 a1 b1 a2 b2), d.w.cell? ⟨w.heap.size + 1, 0, none⟩ = some (.int .i64 a1) := fun d => d.h.2.1.1
  have c3 : ∀ d : Wd (Box3 w a0 b0 a1 b1 a2 b2), d.w.cell? ⟨w.heap.size + 1, 1, none⟩ = some (.int .i64 b1) := fun d => d.h.2.1.2
  have c4 : ∀ d : Wd (Box3 w a0 b0 a1 b1 a2 b2), d.w.cell? ⟨w.heap.size + 1 + 1, 0, none⟩ = some (.int .i64 a2) := fun d => d.h.2.2.1.1
  have c5 : ∀ d : Wd (Box3 w a0 b0 a1 b1 a2 b2), d.w.cell? ⟨w.heap.size + 1 + 1, 1, none⟩ = some (.int .i64 b2) := fun d => d.h.2.2.1.2
  have hne : Nonempty (Wd (Box3 w a0 b0 a1 b1 a2 b2)) := ⟨⟨_, hB⟩⟩
  repeat (first | go_big_quiet_step ((first | exact quietN Box3.step (under_val _ _ _ _ _ _ h1.out) | exact quietN Box3.step (under_val _ _ _ _ _ _ h2.out) | exact quietN Box3.step (under_val _ _ _ _ _ _ h3.out) | exact quietN Box3.step (kitDB_any _))) | quiet_step ((first | exact quietN Box3.step (under_val _ _ _ _ _ _ h1.out) | exact quietN Box3.step (under_val _ _ _ _ _ _ h2.out) | exact quietN Box3.step (under_val _ _ _ _ _ _ h3.out) | exact quietN Box3.step (kitDB_any _))))
  refine wpQuiet_nil ?_
  intro d
  have h5 := d.h.2.2.2
  clear c0 c1 c2 c3 c4 c5 hne hB
  revert h5
  generalize d.w = w5
  intro h5
  go_wp2_with fail
  refine (table_ok _ _ ht.out).mono ?_
  rintro e w6 ⟨rfl, h6⟩
  go_wp2_with fail
  refine (record_ok _ _ _ hr.out).mono ?_
  rintro e w7 ⟨rfl, h7⟩
  have n0 : w7.cell? ⟨w6.heap.size, 0, none⟩ = some (.int .i64 a3) := h7.keep (by simp [go_sem])
  have n1 : w7.cell? ⟨w6.heap.size, 1, none⟩ = some (.int .i64 (-1)) := h7.keep (by simp [go_sem])
  have p0 : ∀ o, (w7.alloc o).cell? ⟨w6.heap.size, 0, none⟩ = some (.int .i64 a3) := fun _ => ((Nw.refl _).alloc _).keep n0
  have p1 : ∀ o, (w7.alloc o).cell? ⟨w6.heap.size, 1, none⟩ = some (.int .i64 (-1)) := fun _ => ((Nw.refl _).alloc _).keep n1
  go_wp2_with fail
  refine (level_val _ _ _ _ ht.out).mono ?_
  rintro e w8 ⟨rfl, h8⟩
  have q0 := h8.keep (p0 _)
  have q1 := h8.keep (p1 _)
  have r0 : w8.cell? ⟨w7.heap.size, 0, none⟩ = some (.int .i64 a3) := h8.keep (by simp [go_sem])
  have r1 : w8.cell? ⟨w7.heap.size, 1, none⟩ = some (.int .i64 a4) := h8.keep (by simp [go_sem])
  clear p0 p1 n0 n1
  go_wp2_with fail
  refine (under_val _ _ _ _ _ _ hu.out).mono ?_
  rintro e w9 ⟨rfl, h9⟩
  replace q0 := h9.keep q0
  replace q1 := h9.keep q1
  replace r0 := h9.keep r0
  replace r1 := h9.keep r1
  go_wp2_with fail
  refine (level_val _ _ _ _ hr.out).mono ?_
  rintro e w10 ⟨rfl, h10⟩
  replace q0 := h10.keep q0
  replace q1 := h10.keep q1
  replace r0 := h10.keep r0
  replace r1 := h10.keep r1
  go_wp2_with fail
  refine (under_val _ _ _ _ _ _ hv.out).mono ?_
  rintro e w11 ⟨rfl, h11⟩
  go_wp2
  all_goals
    go_ret
    exact ⟨rfl, ((((((((h5.trans h6).alloc _).trans h7).alloc _).trans h8).trans h9).trans h10).trans h11)⟩
end Go.Proofs.YtdcjhjmbfpkigaaDoor.nameUnder
