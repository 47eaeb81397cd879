/- The walk of NameNames. -/
import Derived.Test.YtdcjhjmbfpkigaaDoorNameT
import Derived.Test.YtdcjhjmbfpkigaaDoorNameAboveB
import Derived.Test.YtdcjhjmbfpkigaaDoorLex
namespace Go.Proofs.YtdcjhjmbfpkigaaDoor.nameNames
open Go.ChangeShapes Go.WideShapes Go.ChangeAt Go.RowKit
open Go.Proofs.YtdcjhjmbfpkigaaDoor.nameAbove (CL CL.step CL.cons CL.at)
set_option linter.unusedVariables false      -- a walk need not use every fact

/-- A text whose parts make no such text is no valid name's. -/
theorem miss_of (l : List UInt8) (hd : l ≠ [100, 98]) (h : prB l = false ∨ txtL (prT l) (prR l) ≠ l) : ∀ t r, lvl t r ≠ -1 → l ≠ txtL t r := by
  intro t r hv e
  rcases kinds t r with ⟨rfl, rfl⟩ | ⟨h0, h1, rfl⟩ | ⟨h0, h1, h2, h3⟩ | h0
  · exact hd (e.trans (by decide +kernel))
  · have hp := pr_tab t h0 h1
    rw [← txtL_tab t h0 h1, ← e] at hp
    rcases h with h | h
    · rw [hp.2.2] at h; cases h
    · rw [hp.1, hp.2.1] at h; exact h e.symm
  · have hp := pr_rec t r h0 h1 h2 h3
    rw [← txtL_rec t r h0 h1 h2 h3, ← e] at hp
    rcases h with h | h
    · rw [hp.2.2] at h; cases h
    · rw [hp.1, hp.2.1] at h; exact h e.symm
  · exact hv h0
theorem no_t012 : ∀ t r, lvl t r ≠ -1 → [116, 48, 49, 50] ≠ txtL t r := by
  refine miss_of _ (by decide) (.inr ?_)
  have e1 : prT [116, 48, 49, 50] = 12 := by decide +kernel
  have e2 : prR [116, 48, 49, 50] = -1 := by decide +kernel
  rw [e1, e2, txtL_tab 12 (by decide) (by decide)]
  show 116 :: Lib.decDigits 12 ≠ _
  rw [Lib.decDigits_two (by decide) (by decide)]
  decide
theorem no_t1r : ∀ t r, lvl t r ≠ -1 → [116, 49, 46, 114] ≠ txtL t r := miss_of _ (by decide) (.inl (by decide +kernel))
theorem no_t1x : ∀ t r, lvl t r ≠ -1 → [116, 49, 120] ≠ txtL t r := miss_of _ (by decide) (.inl (by decide +kernel))
theorem no_t100 : ∀ t r, lvl t r ≠ -1 → [116, 49, 48, 48] ≠ txtL t r := by
  refine miss_of _ (by decide) (.inr ?_)
  have e1 : prT [116, 49, 48, 48] = 100 := by decide +kernel
  have e2 : prR [116, 49, 48, 48] = -1 := by decide +kernel
  rw [e1, e2]
  decide +kernel
theorem is_t12r0 : [116, 49, 50, 46, 114, 48] = txtL 12 0 := by
  rw [txtL_rec 12 0 (by decide) (by decide) (by decide) (by decide)]
  show _ = 116 :: (Lib.decDigits 12 ++ 46 :: 114 :: Lib.decDigits 0)
  rw [Lib.decDigits_two (by decide) (by decide), Lib.decDigits_one (by decide)]
  decide
theorem is_db : [100, 98] = txtL (-1) (-1) := by decide +kernel

set_option maxRecDepth 100000 in
set_option maxHeartbeats 8000000 in
theorem walk (w : World) (hsh : w.ShapedOpen Tryd.prog) (hL : laidMetH Tryd.prog Rows.nameNamesRow.laid w) :
    Calls Tryd.prog 3 #[] w fun e w' => e = .returned (.bool true) ∧ Nw w w' := by
  have hl := libs_of hsh hL
  have hG := Nw.refl w
  clear hsh hL
  go_enter Tryd.func3, Tryd.ntmps3
  go_wp2_with fail
  refine (lives_ok _).mono ?_
  rintro e w' ⟨rfl, hg⟩
  replace hG := hG.trans hg
  clear hg
  go_wp2_with fail
  refine (table_no _ _ (by decide)).mono ?_
  rintro e w' ⟨rfl, hg⟩
  replace hG := hG.trans hg
  clear hg
  replace hG := hG.alloc (.cells #[.int .i64 (0), .int .i64 (0)] 24)
  go_wp2_with fail
  refine (record_no _ _ _ (by decide)).mono ?_
  rintro e w' ⟨rfl, hg⟩
  replace hG := hG.trans hg
  clear hg
  replace hG := hG.alloc (.cells #[.int .i64 (0), .int .i64 (0)] 24)
  go_wp2_with fail
  refine (table_no _ _ (by decide)).mono ?_
  rintro e w' ⟨rfl, hg⟩
  replace hG := hG.trans hg
  clear hg
  replace hG := hG.alloc (.cells #[.int .i64 (0), .int .i64 (0)] 24)
  go_wp2_with fail
  refine (read_hit 12 0 _ _ (hl.grown hG) (by decide) (by decide) is_t12r0).mono ?_
  rintro e wa ⟨rfl, hg⟩
  replace hG := hG.trans hg
  clear hg
  have a0 : (wa.alloc (.cells #[.int .i64 (12), .int .i64 (0)] 24)).cell? ⟨wa.heap.size, 0, none⟩ = some (.int .i64 (12)) := by simp [go_sem]
  have a1 : (wa.alloc (.cells #[.int .i64 (12), .int .i64 (0)] 24)).cell? ⟨wa.heap.size, 1, none⟩ = some (.int .i64 (0)) := by simp [go_sem]
  replace hG := hG.alloc (.cells #[.int .i64 (12), .int .i64 (0)] 24)
  go_wp2_with fail
  refine (read_miss _ _ (hl.grown hG) (by decide) no_t012).mono ?_
  rintro e w' ⟨rfl, hg⟩
  replace hG := hG.trans hg
  replace a0 := hg.keep a0
  replace a1 := hg.keep a1
  clear hg
  replace a0 := ((Nw.refl _).alloc (.cells #[.int .i64 (0), .int .i64 (0)] 24)).keep a0
  replace a1 := ((Nw.refl _).alloc (.cells #[.int .i64 (0), .int .i64 (0)] 24)).keep a1
  replace hG := hG.alloc (.cells #[.int .i64 (0), .int .i64 (0)] 24)
  go_wp2_with fail
  refine (read_miss _ _ (hl.grown hG) (by decide) no_t1r).mono ?_
  rintro e w' ⟨rfl, hg⟩
  replace hG := hG.trans hg
  replace a0 := hg.keep a0
  replace a1 := hg.keep a1
  clear hg
  replace a0 := ((Nw.refl _).alloc (.cells #[.int .i64 (0), .int .i64 (0)] 24)).keep a0
  replace a1 := ((Nw.refl _).alloc (.cells #[.int .i64 (0), .int .i64 (0)] 24)).keep a1
  replace hG := hG.alloc (.cells #[.int .i64 (0), .int .i64 (0)] 24)
  go_wp2_with fail
  refine (read_miss _ _ (hl.grown hG) (by decide) no_t1x).mono ?_
  rintro e w' ⟨rfl, hg⟩
  replace hG := hG.trans hg
  replace a0 := hg.keep a0
  replace a1 := hg.keep a1
  clear hg
  replace a0 := ((Nw.refl _).alloc (.cells #[.int .i64 (0), .int .i64 (0)] 24)).keep a0
  replace a1 := ((Nw.refl _).alloc (.cells #[.int .i64 (0), .int .i64 (0)] 24)).keep a1
  replace hG := hG.alloc (.cells #[.int .i64 (0), .int .i64 (0)] 24)
  go_wp2_with fail
  refine (read_miss _ _ (hl.grown hG) (by decide) no_t100).mono ?_
  rintro e w' ⟨rfl, hg⟩
  replace hG := hG.trans hg
  replace a0 := hg.keep a0
  replace a1 := hg.keep a1
  clear hg
  replace a0 := ((Nw.refl _).alloc (.cells #[.int .i64 (0), .int .i64 (0)] 24)).keep a0
  replace a1 := ((Nw.refl _).alloc (.cells #[.int .i64 (0), .int .i64 (0)] 24)).keep a1
  replace hG := hG.alloc (.cells #[.int .i64 (0), .int .i64 (0)] 24)
  go_wp2_with fail
  refine (read_hit (-1) (-1) _ _ (hl.grown hG) (by decide) (by decide) is_db).mono ?_
  rintro e wb ⟨rfl, hg⟩
  replace hG := hG.trans hg
  replace a0 := hg.keep a0
  replace a1 := hg.keep a1
  clear hg
  replace a0 := ((Nw.refl _).alloc (.cells #[.int .i64 (-1), .int .i64 (-1)] 24)).keep a0
  replace a1 := ((Nw.refl _).alloc (.cells #[.int .i64 (-1), .int .i64 (-1)] 24)).keep a1
  have b0 : (wb.alloc (.cells #[.int .i64 (-1), .int .i64 (-1)] 24)).cell? ⟨wb.heap.size, 0, none⟩ = some (.int .i64 (-1)) := by simp [go_sem]
  have b1 : (wb.alloc (.cells #[.int .i64 (-1), .int .i64 (-1)] 24)).cell? ⟨wb.heap.size, 1, none⟩ = some (.int .i64 (-1)) := by simp [go_sem]
  replace hG := hG.alloc (.cells #[.int .i64 (-1), .int .i64 (-1)] 24)
  go_wp2_with fail
  refine (kitT_any 5 _).mono ?_
  rintro e w' ⟨rfl, hg⟩
  replace hG := hG.trans hg
  replace a0 := hg.keep a0
  replace a1 := hg.keep a1
  replace b0 := hg.keep b0
  replace b1 := hg.keep b1
  clear hg
  go_wp2_with fail
  refine (parent_tab 5 _ (by decide)).mono ?_
  rintro e wp ⟨rfl, hg⟩
  replace hG := hG.trans hg
  replace a0 := hg.keep a0
  replace a1 := hg.keep a1
  replace b0 := hg.keep b0
  replace b1 := hg.keep b1
  clear hg
  replace a0 := ((Nw.refl _).alloc (.cells #[.int .i64 (-1), .int .i64 (-1)] 24)).keep a0
  replace a1 := ((Nw.refl _).alloc (.cells #[.int .i64 (-1), .int .i64 (-1)] 24)).keep a1
  replace b0 := ((Nw.refl _).alloc (.cells #[.int .i64 (-1), .int .i64 (-1)] 24)).keep b0
  replace b1 := ((Nw.refl _).alloc (.cells #[.int .i64 (-1), .int .i64 (-1)] 24)).keep b1
  have p0 : (wp.alloc (.cells #[.int .i64 (-1), .int .i64 (-1)] 24)).cell? ⟨wp.heap.size, 0, none⟩ = some (.int .i64 (-1)) := by simp [go_sem]
  have p1 : (wp.alloc (.cells #[.int .i64 (-1), .int .i64 (-1)] 24)).cell? ⟨wp.heap.size, 1, none⟩ = some (.int .i64 (-1)) := by simp [go_sem]
  replace hG := hG.alloc (.cells #[.int .i64 (-1), .int .i64 (-1)] 24)
  go_wp2_with fail
  refine (kitDB_any _).mono ?_
  rintro e w' ⟨rfl, hg⟩
  replace hG := hG.trans hg
  replace a0 := hg.keep a0
  replace a1 := hg.keep a1
  replace b0 := hg.keep b0
  replace b1 := hg.keep b1
  replace p0 := hg.keep p0
  replace p1 := hg.keep p1
  clear hg
  go_wp2_with fail
  refine (parent_none (-1) (-1) _ (.inl (by decide))).mono ?_
  rintro e wz ⟨rfl, hg⟩
  replace hG := hG.trans hg
  replace a0 := hg.keep a0
  replace a1 := hg.keep a1
  replace b0 := hg.keep b0
  replace b1 := hg.keep b1
  replace p0 := hg.keep p0
  replace p1 := hg.keep p1
  clear hg
  replace a0 := ((Nw.refl _).alloc (.cells #[.int .i64 (0), .int .i64 (0)] 24)).keep a0
  replace a1 := ((Nw.refl _).alloc (.cells #[.int .i64 (0), .int .i64 (0)] 24)).keep a1
  replace b0 := ((Nw.refl _).alloc (.cells #[.int .i64 (0), .int .i64 (0)] 24)).keep b0
  replace b1 := ((Nw.refl _).alloc (.cells #[.int .i64 (0), .int .i64 (0)] 24)).keep b1
  replace p0 := ((Nw.refl _).alloc (.cells #[.int .i64 (0), .int .i64 (0)] 24)).keep p0
  replace p1 := ((Nw.refl _).alloc (.cells #[.int .i64 (0), .int .i64 (0)] 24)).keep p1
  replace hG := hG.alloc (.cells #[.int .i64 (0), .int .i64 (0)] 24)
  have hB : CL w [(wa.heap.size, 0, 12), (wa.heap.size, 1, 0), (wb.heap.size, 0, -1), (wb.heap.size, 1, -1), (wp.heap.size, 0, -1), (wp.heap.size, 1, -1)] (wz.alloc (.cells #[.int .i64 0, .int .i64 0] 24)) := (CL.cons (CL.cons (CL.cons (CL.cons (CL.cons (CL.cons ⟨fun z hz => absurd hz List.not_mem_nil, hG⟩ p1) p0) b1) b0) a1) a0)
  clear hG a0 a1 b0 b1 p0 p1 hl
  go_wp2
  dsimp only [List.append]
  refine region_in' (CL w [(wa.heap.size, 0, 12), (wa.heap.size, 1, 0), (wb.heap.size, 0, -1), (wb.heap.size, 1, -1), (wp.heap.size, 0, -1), (wp.heap.size, 1, -1)]) (by kernel_rfl) (by kernel_rfl) (by kernel_rfl) (CL.step _ _ hB (Nw.refl _).drew1) ?_
  have c0 : ∀ d : Wd (CL w [(wa.heap.size, 0, 12), (wa.heap.size, 1, 0), (wb.heap.size, 0, -1), (wb.heap.size, 1, -1), (wp.heap.size, 0, -1), (wp.heap.size, 1, -1)]), d.w.cell? ⟨wa.heap.size, 0, none⟩ = some (.int .i64 (12)) := fun d => d.h.at (wa.heap.size) 0 (12) (by simp)
  have c1 : ∀ d : Wd (CL w [(wa.heap.size, 0, 12), (wa.heap.size, 1, 0), (wb.heap.size, 0, -1), (wb.heap.size, 1, -1), (wp.heap.size, 0, -1), (wp.heap.size, 1, -1)]), d.w.cell? ⟨wa.heap.size, 1, none⟩ = some (.int .i64 (0)) := fun d => d.h.at (wa.heap.size) 1 (0) (by simp)
  have c2 : ∀ d : Wd (CL w [(wa.heap.size, 0, 12), (wa.heap.size, 1, 0), (wb.heap.size, 0, -1), (wb.heap.size, 1, -1), (wp.heap.size, 0, -1), (wp.heap.size, 1, -1)]), d.w.cell? ⟨wb.heap.size, 0, none⟩ = some (.int .i64 (-1)) := fun d => d.h.at (wb.heap.size) 0 (-1) (by simp)
  have c3 : ∀ d : Wd (CL w [(wa.heap.size, 0, 12), (wa.heap.size, 1, 0), (wb.heap.size, 0, -1), (wb.heap.size, 1, -1), (wp.heap.size, 0, -1), (wp.heap.size, 1, -1)]), d.w.cell? ⟨wb.heap.size, 1, none⟩ = some (.int .i64 (-1)) := fun d => d.h.at (wb.heap.size) 1 (-1) (by simp)
  have c4 : ∀ d : Wd (CL w [(wa.heap.size, 0, 12), (wa.heap.size, 1, 0), (wb.heap.size, 0, -1), (wb.heap.size, 1, -1), (wp.heap.size, 0, -1), (wp.heap.size, 1, -1)]), d.w.cell? ⟨wp.heap.size, 0, none⟩ = some (.int .i64 (-1)) := fun d => d.h.at (wp.heap.size) 0 (-1) (by simp)
  have c5 : ∀ d : Wd (CL w [(wa.heap.size, 0, 12), (wa.heap.size, 1, 0), (wb.heap.size, 0, -1), (wb.heap.size, 1, -1), (wp.heap.size, 0, -1), (wp.heap.size, 1, -1)]), d.w.cell? ⟨wp.heap.size, 1, none⟩ = some (.int .i64 (-1)) := fun d => d.h.at (wp.heap.size) 1 (-1) (by simp)
  have hne : Nonempty (Wd (CL w [(wa.heap.size, 0, 12), (wa.heap.size, 1, 0), (wb.heap.size, 0, -1), (wb.heap.size, 1, -1), (wp.heap.size, 0, -1), (wp.heap.size, 1, -1)])) := ⟨⟨_, hB⟩⟩
  repeat (go_big_quiet_step ((first | exact quietN CL.step (kitR_any _ _ _) | exact quietN CL.step (database_any _) | exact quietN CL.step (kitDB_any _) | exact quietN CL.step (kitT_any _ _) | exact quietN CL.step (level_val _ _ 2 _ (by decide)) | exact quietN CL.step (level_val _ _ (-1) _ (by decide)) | exact quietN CL.step (check_no _ _ _ (by decide)) | exact quietN CL.step (under_val _ _ _ _ true _ (by decide)) | exact quietN CL.step (under_val _ _ _ _ false _ (by decide)) | exact quietN CL.step (Go.Proofs.YtdcjhjmbfpkigaaDoor.nameAbove.compare_val _ _ _ _ (-1) _ (by decide)) | exact quietN CL.step (text_bad _ _ _ (by decide)) | exact quietN CL.step (anc_none _ _ _ (.inl (by decide))))))
  refine wpQuiet_nil ?_
  intro d
  have h5 := d.h.2
  clear c0 c1 c2 c3 c4 c5 hne hB
  revert h5
  generalize d.w = w5
  intro h5
  go_wp2
  go_ret
  exact ⟨rfl, h5⟩
end Go.Proofs.YtdcjhjmbfpkigaaDoor.nameNames
