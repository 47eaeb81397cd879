/- Ways of NameAbove. -/
import Derived.Test.YtdcjhjmbfpkigaaDoorNameAboveB
namespace Go.Proofs.YtdcjhjmbfpkigaaDoor.nameAbove
open Go.ChangeShapes Go.WideShapes Go.ChangeAt Go.RowKit
set_option linter.unusedVariables false      -- a walk need not use every fact

set_option maxHeartbeats 2000000 in
theorem tab_self (a0 : Int) (w : World) (hk : Hid (lvl a0 (-1) = 1)) (hcmp : Hid (or2 (c3 (-1) a0) (c3 (-1) (-1)) = -1)) (hu : Hid (und a0 (-1) a0 (-1) = true)) :
    Calls Tryd.prog 6 #[.agg #[.int .i64 a0, .int .i64 (-1)], .agg #[.int .i64 a0, .int .i64 (-1)]] w fun e w' => e = .returned (.bool true) ∧ Nw w w' := by
  have hW0 : Nw w ((w.alloc (.cells #[.int .i64 a0, .int .i64 (-1)] 24)).alloc (.cells #[.int .i64 a0, .int .i64 (-1)] 24)) := ((Nw.refl _).alloc _).alloc _
  go_enter Tryd.func6, Tryd.ntmps6
  go_wp2_with fail
  refine (lives_ok _).mono ?_
  rintro e w' ⟨rfl, hg⟩
  (first | (replace hG := Nw.trans hG hg; clear hc hf) | have hG := hg)
  clear hg
  obtain ⟨hc, hf⟩ := hG.rules
  go_wp2_with fail
  refine (anc_tab _ _ hk.out).mono ?_
  rintro e w2 ⟨b, rfl, hn, hb, hg⟩
  replace hG := Nw.trans hG hg
  clear hc hf hg
  obtain ⟨hc, hf⟩ := hG.rules
  go_wp2_with fail
  refine (parent_tab _ _ hk.out).mono ?_
  rintro e w' ⟨rfl, g3⟩
  have hB := CL.step _ _ (CL.two w a0 (-1) (a0) ((-1)) 24) (hG.trans g3)
  have n0 := (hn.2 0 (by simp)).1
  have n1 := (hn.2 0 (by simp)).2
  simp only [Nat.zero_mul, Nat.zero_add, List.getElem_cons_zero] at n0 n1
  replace hB := (hB.cons (g3.keep n1)).cons (g3.keep n0)
  replace hB := CL.step _ _ hB ((Nw.refl _).alloc (.cells #[.int .i64 (-1), .int .i64 (-1)] 24))
  have m0 : (w'.alloc (.cells #[.int .i64 (-1), .int .i64 (-1)] 24)).cell? ⟨w'.heap.size, 0, none⟩ = some (.int .i64 (-1)) := by simp [go_sem]
  have m1 : (w'.alloc (.cells #[.int .i64 (-1), .int .i64 (-1)] 24)).cell? ⟨w'.heap.size, 1, none⟩ = some (.int .i64 (-1)) := by simp [go_sem]
  replace hB := (hB.cons m1).cons m0
  clear hc hf hG hn n0 n1 m0 m1 g3 hb
  go_wp2
  refine region_in (CL w [(w'.heap.size, 0, -1), (w'.heap.size, 1, -1), (b, 0, -1), (b, 1, -1), (w.heap.size, 0, a0), (w.heap.size, 1, -1), (w.heap.size + 1, 0, a0), (w.heap.size + 1, 1, (-1))]) (by kernel_rfl) (by kernel_rfl) (CL.step _ _ hB (Nw.refl _).drew1) ?_
  have c0 : ∀ d : Wd (CL w [(w'.heap.size, 0, -1), (w'.heap.size, 1, -1), (b, 0, -1), (b, 1, -1), (w.heap.size, 0, a0), (w.heap.size, 1, -1), (w.heap.size + 1, 0, a0), (w.heap.size + 1, 1, (-1))]), d.w.cell? ⟨w'.heap.size, 0, none⟩ = some (.int .i64 (-1)) := fun d => d.h.at (w'.heap.size) 0 (-1) (by simp)
  have c1 : ∀ d : Wd (CL w [(w'.heap.size, 0, -1), (w'.heap.size, 1, -1), (b, 0, -1), (b, 1, -1), (w.heap.size, 0, a0), (w.heap.size, 1, -1), (w.heap.size + 1, 0, a0), (w.heap.size + 1, 1, (-1))]), d.w.cell? ⟨w'.heap.size, 1, none⟩ = some (.int .i64 (-1)) := fun d => d.h.at (w'.heap.size) 1 (-1) (by simp)
  have c2 : ∀ d : Wd (CL w [(w'.heap.size, 0, -1), (w'.heap.size, 1, -1), (b, 0, -1), (b, 1, -1), (w.heap.size, 0, a0), (w.heap.size, 1, -1), (w.heap.size + 1, 0, a0), (w.heap.size + 1, 1, (-1))]), d.w.cell? ⟨b, 0, none⟩ = some (.int .i64 (-1)) := fun d => d.h.at (b) 0 (-1) (by simp)
  have c3 : ∀ d : Wd (CL w [(w'.heap.size, 0, -1), (w'.heap.size, 1, -1), (b, 0, -1), (b, 1, -1), (w.heap.size, 0, a0), (w.heap.size, 1, -1), (w.heap.size + 1, 0, a0), (w.heap.size + 1, 1, (-1))]), d.w.cell? ⟨b, 1, none⟩ = some (.int .i64 (-1)) := fun d => d.h.at (b) 1 (-1) (by simp)
  have c4 : ∀ d : Wd (CL w [(w'.heap.size, 0, -1), (w'.heap.size, 1, -1), (b, 0, -1), (b, 1, -1), (w.heap.size, 0, a0), (w.heap.size, 1, -1), (w.heap.size + 1, 0, a0), (w.heap.size + 1, 1, (-1))]), d.w.cell? ⟨w.heap.size, 0, none⟩ = some (.int .i64 (a0)) := fun d => d.h.at (w.heap.size) 0 (a0) (by simp)
  have c5 : ∀ d : Wd (CL w [(w'.heap.size, 0, -1), (w'.heap.size, 1, -1), (b, 0, -1), (b, 1, -1), (w.heap.size, 0, a0), (w.heap.size, 1, -1), (w.heap.size + 1, 0, a0), (w.heap.size + 1, 1, (-1))]), d.w.cell? ⟨w.heap.size, 1, none⟩ = some (.int .i64 (-1)) := fun d => d.h.at (w.heap.size) 1 (-1) (by simp)
  have c6 : ∀ d : Wd (CL w [(w'.heap.size, 0, -1), (w'.heap.size, 1, -1), (b, 0, -1), (b, 1, -1), (w.heap.size, 0, a0), (w.heap.size, 1, -1), (w.heap.size + 1, 0, a0), (w.heap.size + 1, 1, (-1))]), d.w.cell? ⟨w.heap.size + 1, 0, none⟩ = some (.int .i64 (a0)) := fun d => d.h.at (w.heap.size + 1) 0 (a0) (by simp)
  have c7 : ∀ d : Wd (CL w [(w'.heap.size, 0, -1), (w'.heap.size, 1, -1), (b, 0, -1), (b, 1, -1), (w.heap.size, 0, a0), (w.heap.size, 1, -1), (w.heap.size + 1, 0, a0), (w.heap.size + 1, 1, (-1))]), d.w.cell? ⟨w.heap.size + 1, 1, none⟩ = some (.int .i64 ((-1))) := fun d => d.h.at (w.heap.size + 1) 1 ((-1)) (by simp)
  have hne : Nonempty (Wd (CL w [(w'.heap.size, 0, -1), (w'.heap.size, 1, -1), (b, 0, -1), (b, 1, -1), (w.heap.size, 0, a0), (w.heap.size, 1, -1), (w.heap.size + 1, 0, a0), (w.heap.size + 1, 1, (-1))])) := ⟨⟨_, hB⟩⟩
  repeat (first | go_big_quiet_step ((first | exact quietN CL.step (level_val _ _ 1 _ hk.out) | exact quietN CL.step (anc_none _ _ _ (.inl lvl_db)) | exact quietN CL.step (same_nil _ _ _ _ _))) | quiet_step ((first | exact quietN CL.step (level_val _ _ 1 _ hk.out) | exact quietN CL.step (anc_none _ _ _ (.inl lvl_db)) | exact quietN CL.step (same_nil _ _ _ _ _))))
  refine wpQuiet_nil ?_
  intro d
  have h5 := d.h
  clear c0 c1 c2 c3 c4 c5 c6 c7 hne hB
  revert h5
  generalize d.w = w5
  intro h5
  have x0 : w5.cell? ⟨w'.heap.size, 0, none⟩ = some (.int .i64 (-1)) := h5.at (w'.heap.size) 0 (-1) (by simp)
  have x1 : w5.cell? ⟨w'.heap.size, 1, none⟩ = some (.int .i64 (-1)) := h5.at (w'.heap.size) 1 (-1) (by simp)
  have x2 : w5.cell? ⟨b, 0, none⟩ = some (.int .i64 (-1)) := h5.at (b) 0 (-1) (by simp)
  have x3 : w5.cell? ⟨b, 1, none⟩ = some (.int .i64 (-1)) := h5.at (b) 1 (-1) (by simp)
  have x4 : w5.cell? ⟨w.heap.size, 0, none⟩ = some (.int .i64 (a0)) := h5.at (w.heap.size) 0 (a0) (by simp)
  have x5 : w5.cell? ⟨w.heap.size, 1, none⟩ = some (.int .i64 (-1)) := h5.at (w.heap.size) 1 (-1) (by simp)
  have x6 : w5.cell? ⟨w.heap.size + 1, 0, none⟩ = some (.int .i64 (a0)) := h5.at (w.heap.size + 1) 0 (a0) (by simp)
  have x7 : w5.cell? ⟨w.heap.size + 1, 1, none⟩ = some (.int .i64 ((-1))) := h5.at (w.heap.size + 1) 1 ((-1)) (by simp)
  go_wp2
  refine wp_loop_rounds 2 ?_
  rw [rounds_succ]
  go_wp2
  clear x0 x1 x2 x3 x4 x5 x6 x7
  refine region_in (CL w [(w'.heap.size, 0, -1), (w'.heap.size, 1, -1), (b, 0, -1), (b, 1, -1), (w.heap.size, 0, a0), (w.heap.size, 1, -1), (w.heap.size + 1, 0, a0), (w.heap.size + 1, 1, (-1))]) (by kernel_rfl) (by kernel_rfl) (CL.step _ _ h5 (Nw.refl _).drew1) ?_
  have c0 : ∀ d : Wd (CL w [(w'.heap.size, 0, -1), (w'.heap.size, 1, -1), (b, 0, -1), (b, 1, -1), (w.heap.size, 0, a0), (w.heap.size, 1, -1), (w.heap.size + 1, 0, a0), (w.heap.size + 1, 1, (-1))]), d.w.cell? ⟨w'.heap.size, 0, none⟩ = some (.int .i64 (-1)) := fun d => d.h.at (w'.heap.size) 0 (-1) (by simp)
  have c1 : ∀ d : Wd (CL w [(w'.heap.size, 0, -1), (w'.heap.size, 1, -1), (b, 0, -1), (b, 1, -1), (w.heap.size, 0, a0), (w.heap.size, 1, -1), (w.heap.size + 1, 0, a0), (w.heap.size + 1, 1, (-1))]), d.w.cell? ⟨w'.heap.size, 1, none⟩ = some (.int .i64 (-1)) := fun d => d.h.at (w'.heap.size) 1 (-1) (by simp)
  have c2 : ∀ d : Wd (CL w [(w'.heap.size, 0, -1), (w'.heap.size, 1, -1), (b, 0, -1), (b, 1, -1), (w.heap.size, 0, a0), (w.heap.size, 1, -1), (w.heap.size + 1, 0, a0), (w.heap.size + 1, 1, (-1))]), d.w.cell? ⟨b, 0, none⟩ = some (.int .i64 (-1)) := fun d => d.h.at (b) 0 (-1) (by simp)
  have c3 : ∀ d : Wd (CL w [(w'.heap.size, 0, -1), (w'.heap.size, 1, -1), (b, 0, -1), (b, 1, -1), (w.heap.size, 0, a0), (w.heap.size, 1, -1), (w.heap.size + 1, 0, a0), (w.heap.size + 1, 1, (-1))]), d.w.cell? ⟨b, 1, none⟩ = some (.int .i64 (-1)) := fun d => d.h.at (b) 1 (-1) (by simp)
  have c4 : ∀ d : Wd (CL w [(w'.heap.size, 0, -1), (w'.heap.size, 1, -1), (b, 0, -1), (b, 1, -1), (w.heap.size, 0, a0), (w.heap.size, 1, -1), (w.heap.size + 1, 0, a0), (w.heap.size + 1, 1, (-1))]), d.w.cell? ⟨w.heap.size, 0, none⟩ = some (.int .i64 (a0)) := fun d => d.h.at (w.heap.size) 0 (a0) (by simp)
  have c5 : ∀ d : Wd (CL w [(w'.heap.size, 0, -1), (w'.heap.size, 1, -1), (b, 0, -1), (b, 1, -1), (w.heap.size, 0, a0), (w.heap.size, 1, -1), (w.heap.size + 1, 0, a0), (w.heap.size + 1, 1, (-1))]), d.w.cell? ⟨w.heap.size, 1, none⟩ = some (.int .i64 (-1)) := fun d => d.h.at (w.heap.size) 1 (-1) (by simp)
  have c6 : ∀ d : Wd (CL w [(w'.heap.size, 0, -1), (w'.heap.size, 1, -1), (b, 0, -1), (b, 1, -1), (w.heap.size, 0, a0), (w.heap.size, 1, -1), (w.heap.size + 1, 0, a0), (w.heap.size + 1, 1, (-1))]), d.w.cell? ⟨w.heap.size + 1, 0, none⟩ = some (.int .i64 (a0)) := fun d => d.h.at (w.heap.size + 1) 0 (a0) (by simp)
  have c7 : ∀ d : Wd (CL w [(w'.heap.size, 0, -1), (w'.heap.size, 1, -1), (b, 0, -1), (b, 1, -1), (w.heap.size, 0, a0), (w.heap.size, 1, -1), (w.heap.size + 1, 0, a0), (w.heap.size + 1, 1, (-1))]), d.w.cell? ⟨w.heap.size + 1, 1, none⟩ = some (.int .i64 ((-1))) := fun d => d.h.at (w.heap.size + 1) 1 ((-1)) (by simp)
  have hne : Nonempty (Wd (CL w [(w'.heap.size, 0, -1), (w'.heap.size, 1, -1), (b, 0, -1), (b, 1, -1), (w.heap.size, 0, a0), (w.heap.size, 1, -1), (w.heap.size + 1, 0, a0), (w.heap.size + 1, 1, (-1))])) := ⟨⟨_, h5⟩⟩
  repeat (first | go_big_quiet_step ((first | exact quietN CL.step (level_db _) | exact quietN CL.step (compare_val _ _ _ _ (-1) _ hcmp.out))) | quiet_step ((first | exact quietN CL.step (level_db _) | exact quietN CL.step (compare_val _ _ _ _ (-1) _ hcmp.out))))
  refine wpQuiet_nil ?_
  intro d
  have h6 := d.h
  clear c0 c1 c2 c3 c4 c5 c6 c7 hne h5
  revert h6
  generalize d.w = w6
  intro h6
  have x0 : w6.cell? ⟨w'.heap.size, 0, none⟩ = some (.int .i64 (-1)) := h6.at (w'.heap.size) 0 (-1) (by simp)
  have x1 : w6.cell? ⟨w'.heap.size, 1, none⟩ = some (.int .i64 (-1)) := h6.at (w'.heap.size) 1 (-1) (by simp)
  have x2 : w6.cell? ⟨b, 0, none⟩ = some (.int .i64 (-1)) := h6.at (b) 0 (-1) (by simp)
  have x3 : w6.cell? ⟨b, 1, none⟩ = some (.int .i64 (-1)) := h6.at (b) 1 (-1) (by simp)
  have x4 : w6.cell? ⟨w.heap.size, 0, none⟩ = some (.int .i64 (a0)) := h6.at (w.heap.size) 0 (a0) (by simp)
  have x5 : w6.cell? ⟨w.heap.size, 1, none⟩ = some (.int .i64 (-1)) := h6.at (w.heap.size) 1 (-1) (by simp)
  have x6 : w6.cell? ⟨w.heap.size + 1, 0, none⟩ = some (.int .i64 (a0)) := h6.at (w.heap.size + 1) 0 (a0) (by simp)
  have x7 : w6.cell? ⟨w.heap.size + 1, 1, none⟩ = some (.int .i64 ((-1))) := h6.at (w.heap.size + 1) 1 ((-1)) (by simp)
  go_wp2
  clear x0 x1 x2 x3 x4 x5 x6 x7
  refine region_in (CL w [(w'.heap.size, 0, -1), (w'.heap.size, 1, -1), (b, 0, -1), (b, 1, -1), (w.heap.size, 0, a0), (w.heap.size, 1, -1), (w.heap.size + 1, 0, a0), (w.heap.size + 1, 1, (-1))]) (by kernel_rfl) (by kernel_rfl) (CL.step _ _ h6 (Nw.refl _).drew1) ?_
  have c0 : ∀ d : Wd (CL w [(w'.heap.size, 0, -1), (w'.heap.size, 1, -1), (b, 0, -1), (b, 1, -1), (w.heap.size, 0, a0), (w.heap.size, 1, -1), (w.heap.size + 1, 0, a0), (w.heap.size + 1, 1, (-1))]), d.w.cell? ⟨w'.heap.size, 0, none⟩ = some (.int .i64 (-1)) := fun d => d.h.at (w'.heap.size) 0 (-1) (by simp)
  have c1 : ∀ d : Wd (CL w [(w'.heap.size, 0, -1), (w'.heap.size, 1, -1), (b, 0, -1), (b, 1, -1), (w.heap.size, 0, a0), (w.heap.size, 1, -1), (w.heap.size + 1, 0, a0), (w.heap.size + 1, 1, (-1))]), d.w.cell? ⟨w'.heap.size, 1, none⟩ = some (.int .i64 (-1)) := fun d => d.h.at (w'.heap.size) 1 (-1) (by simp)
  have c2 : ∀ d : Wd (CL w [(w'.heap.size, 0, -1), (w'.heap.size, 1, -1), (b, 0, -1), (b, 1, -1), (w.heap.size, 0, a0), (w.heap.size, 1, -1), (w.heap.size + 1, 0, a0), (w.heap.size + 1, 1, (-1))]), d.w.cell? ⟨b, 0, none⟩ = some (.int .i64 (-1)) := fun d => d.h.at (b) 0 (-1) (by simp)
  have c3 : ∀ d : Wd (CL w [(w'.heap.size, 0, -1), (w'.heap.size, 1, -1), (b, 0, -1), (b, 1, -1), (w.heap.size, 0, a0), (w.heap.size, 1, -1), (w.heap.size + 1, 0, a0), (w.heap.size + 1, 1, (-1))]), d.w.cell? ⟨b, 1, none⟩ = some (.int .i64 (-1)) := fun d => d.h.at (b) 1 (-1) (by simp)
  have c4 : ∀ d : Wd (CL w [(w'.heap.size, 0, -1), (w'.heap.size, 1, -1), (b, 0, -1), (b, 1, -1), (w.heap.size, 0, a0), (w.heap.size, 1, -1), (w.heap.size + 1, 0, a0), (w.heap.size + 1, 1, (-1))]), d.w.cell? ⟨w.heap.size, 0, none⟩ = some (.int .i64 (a0)) := fun d => d.h.at (w.heap.size) 0 (a0) (by simp)
  have c5 : ∀ d : Wd (CL w [(w'.heap.size, 0, -1), (w'.heap.size, 1, -1), (b, 0, -1), (b, 1, -1), (w.heap.size, 0, a0), (w.heap.size, 1, -1), (w.heap.size + 1, 0, a0), (w.heap.size + 1, 1, (-1))]), d.w.cell? ⟨w.heap.size, 1, none⟩ = some (.int .i64 (-1)) := fun d => d.h.at (w.heap.size) 1 (-1) (by simp)
  have c6 : ∀ d : Wd (CL w [(w'.heap.size, 0, -1), (w'.heap.size, 1, -1), (b, 0, -1), (b, 1, -1), (w.heap.size, 0, a0), (w.heap.size, 1, -1), (w.heap.size + 1, 0, a0), (w.heap.size + 1, 1, (-1))]), d.w.cell? ⟨w.heap.size + 1, 0, none⟩ = some (.int .i64 (a0)) := fun d => d.h.at (w.heap.size + 1) 0 (a0) (by simp)
  have c7 : ∀ d : Wd (CL w [(w'.heap.size, 0, -1), (w'.heap.size, 1, -1), (b, 0, -1), (b, 1, -1), (w.heap.size, 0, a0), (w.heap.size, 1, -1), (w.heap.size + 1, 0, a0), (w.heap.size + 1, 1, (-1))]), d.w.cell? ⟨w.heap.size + 1, 1, none⟩ = some (.int .i64 ((-1))) := fun d => d.h.at (w.heap.size + 1) 1 ((-1)) (by simp)
  have hne : Nonempty (Wd (CL w [(w'.heap.size, 0, -1), (w'.heap.size, 1, -1), (b, 0, -1), (b, 1, -1), (w.heap.size, 0, a0), (w.heap.size, 1, -1), (w.heap.size + 1, 0, a0), (w.heap.size + 1, 1, (-1))])) := ⟨⟨_, h6⟩⟩
  repeat (first | go_big_quiet_step (fail) | quiet_step (fail))
  refine wpQuiet_nil ?_
  intro d
  have h7 := d.h
  clear c0 c1 c2 c3 c4 c5 c6 c7 hne h6
  revert h7
  generalize d.w = w7
  intro h7
  have x0 : w7.cell? ⟨w'.heap.size, 0, none⟩ = some (.int .i64 (-1)) := h7.at (w'.heap.size) 0 (-1) (by simp)
  have x1 : w7.cell? ⟨w'.heap.size, 1, none⟩ = some (.int .i64 (-1)) := h7.at (w'.heap.size) 1 (-1) (by simp)
  have x2 : w7.cell? ⟨b, 0, none⟩ = some (.int .i64 (-1)) := h7.at (b) 0 (-1) (by simp)
  have x3 : w7.cell? ⟨b, 1, none⟩ = some (.int .i64 (-1)) := h7.at (b) 1 (-1) (by simp)
  have x4 : w7.cell? ⟨w.heap.size, 0, none⟩ = some (.int .i64 (a0)) := h7.at (w.heap.size) 0 (a0) (by simp)
  have x5 : w7.cell? ⟨w.heap.size, 1, none⟩ = some (.int .i64 (-1)) := h7.at (w.heap.size) 1 (-1) (by simp)
  have x6 : w7.cell? ⟨w.heap.size + 1, 0, none⟩ = some (.int .i64 (a0)) := h7.at (w.heap.size + 1) 0 (a0) (by simp)
  have x7 : w7.cell? ⟨w.heap.size + 1, 1, none⟩ = some (.int .i64 ((-1))) := h7.at (w.heap.size + 1) 1 ((-1)) (by simp)
  go_wp2
  rw [rounds_succ]
  go_wp2_with fail
  refine (under_val _ _ _ _ true _ hu.out).mono ?_
  rintro e w8 ⟨rfl, g8⟩
  go_wp2
  go_ret
  exact ⟨rfl, h7.2.trans g8⟩

set_option maxHeartbeats 2000000 in
theorem tab_db (a0 : Int) (w : World) (hk : Hid (lvl a0 (-1) = 1)) (hcmp : Hid (or2 (c3 (-1) a0) (c3 (-1) (-1)) = -1)) (x0 : ((-1 : Int) == a0) = false) (hu : Hid (und a0 (-1) (-1) (-1) = true)) :
    Calls Tryd.prog 6 #[.agg #[.int .i64 a0, .int .i64 (-1)], .agg #[.int .i64 (-1), .int .i64 (-1)]] w fun e w' => e = .returned (.bool true) ∧ Nw w w' := by
  have hW0 : Nw w ((w.alloc (.cells #[.int .i64 a0, .int .i64 (-1)] 24)).alloc (.cells #[.int .i64 (-1), .int .i64 (-1)] 24)) := ((Nw.refl _).alloc _).alloc _
  go_enter Tryd.func6, Tryd.ntmps6
  go_wp2_with fail
  refine (lives_ok _).mono ?_
  rintro e w' ⟨rfl, hg⟩
  (first | (replace hG := Nw.trans hG hg; clear hc hf) | have hG := hg)
  clear hg
  obtain ⟨hc, hf⟩ := hG.rules
  go_wp2_with fail
  refine (anc_tab _ _ hk.out).mono ?_
  rintro e w2 ⟨b, rfl, hn, hb, hg⟩
  replace hG := Nw.trans hG hg
  clear hc hf hg
  obtain ⟨hc, hf⟩ := hG.rules
  go_wp2_with fail
  refine (parent_tab _ _ hk.out).mono ?_
  rintro e w' ⟨rfl, g3⟩
  have hB := CL.step _ _ (CL.two w a0 (-1) ((-1)) ((-1)) 24) (hG.trans g3)
  have n0 := (hn.2 0 (by simp)).1
  have n1 := (hn.2 0 (by simp)).2
  simp only [Nat.zero_mul, Nat.zero_add, List.getElem_cons_zero] at n0 n1
  replace hB := (hB.cons (g3.keep n1)).cons (g3.keep n0)
  replace hB := CL.step _ _ hB ((Nw.refl _).alloc (.cells #[.int .i64 (-1), .int .i64 (-1)] 24))
  have m0 : (w'.alloc (.cells #[.int .i64 (-1), .int .i64 (-1)] 24)).cell? ⟨w'.heap.size, 0, none⟩ = some (.int .i64 (-1)) := by simp [go_sem]
  have m1 : (w'.alloc (.cells #[.int .i64 (-1), .int .i64 (-1)] 24)).cell? ⟨w'.heap.size, 1, none⟩ = some (.int .i64 (-1)) := by simp [go_sem]
  replace hB := (hB.cons m1).cons m0
  clear hc hf hG hn n0 n1 m0 m1 g3 hb
  go_wp2
  refine region_in (CL w [(w'.heap.size, 0, -1), (w'.heap.size, 1, -1), (b, 0, -1), (b, 1, -1), (w.heap.size, 0, a0), (w.heap.size, 1, -1), (w.heap.size + 1, 0, (-1)), (w.heap.size + 1, 1, (-1))]) (by kernel_rfl) (by kernel_rfl) (CL.step _ _ hB (Nw.refl _).drew1) ?_
  have c0 : ∀ d : Wd (CL w [(w'.heap.size, 0, -1), (w'.heap.size, 1, -1), (b, 0, -1), (b, 1, -1), (w.heap.size, 0, a0), (w.heap.size, 1, -1), (w.heap.size + 1, 0, (-1)), (w.heap.size + 1, 1, (-1))]), d.w.cell? ⟨w'.heap.size, 0, none⟩ = some (.int .i64 (-1)) := fun d => d.h.at (w'.heap.size) 0 (-1) (by simp)
  have c1 : ∀ d : Wd (CL w [(w'.heap.size, 0, -1), (w'.heap.size, 1, -1), (b, 0, -1), (b, 1, -1), (w.heap.size, 0, a0), (w.heap.size, 1, -1), (w.heap.size + 1, 0, (-1)), (w.heap.size + 1, 1, (-1))]), d.w.cell? ⟨w'.heap.size, 1, none⟩ = some (.int .i64 (-1)) := fun d => d.h.at (w'.heap.size) 1 (-1) (by simp)
  have c2 : ∀ d : Wd (CL w [(w'.heap.size, 0, -1), (w'.heap.size, 1, -1), (b, 0, -1), (b, 1, -1), (w.heap.size, 0, a0), (w.heap.size, 1, -1), (w.heap.size + 1, 0, (-1)), (w.heap.size + 1, 1, (-1))]), d.w.cell? ⟨b, 0, none⟩ = some (.int .i64 (-1)) := fun d => d.h.at (b) 0 (-1) (by simp)
  have c3 : ∀ d : Wd (CL w [(w'.heap.size, 0, -1), (w'.heap.size, 1, -1), (b, 0, -1), (b, 1, -1), (w.heap.size, 0, a0), (w.heap.size, 1, -1), (w.heap.size + 1, 0, (-1)), (w.heap.size + 1, 1, (-1))]), d.w.cell? ⟨b, 1, none⟩ = some (.int .i64 (-1)) := fun d => d.h.at (b) 1 (-1) (by simp)
  have c4 : ∀ d : Wd (CL w [(w'.heap.size, 0, -1), (w'.heap.size, 1, -1), (b, 0, -1), (b, 1, -1), (w.heap.size, 0, a0), (w.heap.size, 1, -1), (w.heap.size + 1, 0, (-1)), (w.heap.size + 1, 1, (-1))]), d.w.cell? ⟨w.heap.size, 0, none⟩ = some (.int .i64 (a0)) := fun d => d.h.at (w.heap.size) 0 (a0) (by simp)
  have c5 : ∀ d : Wd (CL w [(w'.heap.size, 0, -1), (w'.heap.size, 1, -1), (b, 0, -1), (b, 1, -1), (w.heap.size, 0, a0), (w.heap.size, 1, -1), (w.heap.size + 1, 0, (-1)), (w.heap.size + 1, 1, (-1))]), d.w.cell? ⟨w.heap.size, 1, none⟩ = some (.int .i64 (-1)) := fun d => d.h.at (w.heap.size) 1 (-1) (by simp)
  have c6 : ∀ d : Wd (CL w [(w'.heap.size, 0, -1), (w'.heap.size, 1, -1), (b, 0, -1), (b, 1, -1), (w.heap.size, 0, a0), (w.heap.size, 1, -1), (w.heap.size + 1, 0, (-1)), (w.heap.size + 1, 1, (-1))]), d.w.cell? ⟨w.heap.size + 1, 0, none⟩ = some (.int .i64 ((-1))) := fun d => d.h.at (w.heap.size + 1) 0 ((-1)) (by simp)
  have c7 : ∀ d : Wd (CL w [(w'.heap.size, 0, -1), (w'.heap.size, 1, -1), (b, 0, -1), (b, 1, -1), (w.heap.size, 0, a0), (w.heap.size, 1, -1), (w.heap.size + 1, 0, (-1)), (w.heap.size + 1, 1, (-1))]), d.w.cell? ⟨w.heap.size + 1, 1, none⟩ = some (.int .i64 ((-1))) := fun d => d.h.at (w.heap.size + 1) 1 ((-1)) (by simp)
  have hne : Nonempty (Wd (CL w [(w'.heap.size, 0, -1), (w'.heap.size, 1, -1), (b, 0, -1), (b, 1, -1), (w.heap.size, 0, a0), (w.heap.size, 1, -1), (w.heap.size + 1, 0, (-1)), (w.heap.size + 1, 1, (-1))])) := ⟨⟨_, hB⟩⟩
  repeat (first | go_big_quiet_step ((first | exact quietN CL.step (level_val _ _ 1 _ hk.out) | exact quietN CL.step (anc_none _ _ _ (.inl lvl_db)) | exact quietN CL.step (same_nil _ _ _ _ _))) | quiet_step ((first | exact quietN CL.step (level_val _ _ 1 _ hk.out) | exact quietN CL.step (anc_none _ _ _ (.inl lvl_db)) | exact quietN CL.step (same_nil _ _ _ _ _))))
  refine wpQuiet_nil ?_
  intro d
  have h5 := d.h
  clear c0 c1 c2 c3 c4 c5 c6 c7 hne hB
  revert h5
  generalize d.w = w5
  intro h5
  have x0 : w5.cell? ⟨w'.heap.size, 0, none⟩ = some (.int .i64 (-1)) := h5.at (w'.heap.size) 0 (-1) (by simp)
  have x1 : w5.cell? ⟨w'.heap.size, 1, none⟩ = some (.int .i64 (-1)) := h5.at (w'.heap.size) 1 (-1) (by simp)
  have x2 : w5.cell? ⟨b, 0, none⟩ = some (.int .i64 (-1)) := h5.at (b) 0 (-1) (by simp)
  have x3 : w5.cell? ⟨b, 1, none⟩ = some (.int .i64 (-1)) := h5.at (b) 1 (-1) (by simp)
  have x4 : w5.cell? ⟨w.heap.size, 0, none⟩ = some (.int .i64 (a0)) := h5.at (w.heap.size) 0 (a0) (by simp)
  have x5 : w5.cell? ⟨w.heap.size, 1, none⟩ = some (.int .i64 (-1)) := h5.at (w.heap.size) 1 (-1) (by simp)
  have x6 : w5.cell? ⟨w.heap.size + 1, 0, none⟩ = some (.int .i64 ((-1))) := h5.at (w.heap.size + 1) 0 ((-1)) (by simp)
  have x7 : w5.cell? ⟨w.heap.size + 1, 1, none⟩ = some (.int .i64 ((-1))) := h5.at (w.heap.size + 1) 1 ((-1)) (by simp)
  go_wp2
  refine wp_loop_rounds 2 ?_
  rw [rounds_succ]
  go_wp2
  clear x0 x1 x2 x3 x4 x5 x6 x7
  refine region_in (CL w [(w'.heap.size, 0, -1), (w'.heap.size, 1, -1), (b, 0, -1), (b, 1, -1), (w.heap.size, 0, a0), (w.heap.size, 1, -1), (w.heap.size + 1, 0, (-1)), (w.heap.size + 1, 1, (-1))]) (by kernel_rfl) (by kernel_rfl) (CL.step _ _ h5 (Nw.refl _).drew1) ?_
  have c0 : ∀ d : Wd (CL w [(w'.heap.size, 0, -1), (w'.heap.size, 1, -1), (b, 0, -1), (b, 1, -1), (w.heap.size, 0, a0), (w.heap.size, 1, -1), (w.heap.size + 1, 0, (-1)), (w.heap.size + 1, 1, (-1))]), d.w.cell? ⟨w'.heap.size, 0, none⟩ = some (.int .i64 (-1)) := fun d => d.h.at (w'.heap.size) 0 (-1) (by simp)
  have c1 : ∀ d : Wd (CL w [(w'.heap.size, 0, -1), (w'.heap.size, 1, -1), (b, 0, -1), (b, 1, -1), (w.heap.size, 0, a0), (w.heap.size, 1, -1), (w.heap.size + 1, 0, (-1)), (w.heap.size + 1, 1, (-1))]), d.w.cell? ⟨w'.heap.size, 1, none⟩ = some (.int .i64 (-1)) := fun d => d.h.at (w'.heap.size) 1 (-1) (by simp)
  have c2 : ∀ d : Wd (CL w [(w'.heap.size, 0, -1), (w'.heap.size, 1, -1), (b, 0, -1), (b, 1, -1), (w.heap.size, 0, a0), (w.heap.size, 1, -1), (w.heap.size + 1, 0, (-1)), (w.heap.size + 1, 1, (-1))]), d.w.cell? ⟨b, 0, none⟩ = some (.int .i64 (-1)) := fun d => d.h.at (b) 0 (-1) (by simp)
  have c3 : ∀ d : Wd (CL w [(w'.heap.size, 0, -1), (w'.heap.size, 1, -1), (b, 0, -1), (b, 1, -1), (w.heap.size, 0, a0), (w.heap.size, 1, -1), (w.heap.size + 1, 0, (-1)), (w.heap.size + 1, 1, (-1))]), d.w.cell? ⟨b, 1, none⟩ = some (.int .i64 (-1)) := fun d => d.h.at (b) 1 (-1) (by simp)
  have c4 : ∀ d : Wd (CL w [(w'.heap.size, 0, -1), (w'.heap.size, 1, -1), (b, 0, -1), (b, 1, -1), (w.heap.size, 0, a0), (w.heap.size, 1, -1), (w.heap.size + 1, 0, (-1)), (w.heap.size + 1, 1, (-1))]), d.w.cell? ⟨w.heap.size, 0, none⟩ = some (.int .i64 (a0)) := fun d => d.h.at (w.heap.size) 0 (a0) (by simp)
  have c5 : ∀ d : Wd (CL w [(w'.heap.size, 0, -1), (w'.heap.size, 1, -1), (b, 0, -1), (b, 1, -1), (w.heap.size, 0, a0), (w.heap.size, 1, -1), (w.heap.size + 1, 0, (-1)), (w.heap.size + 1, 1, (-1))]), d.w.cell? ⟨w.heap.size, 1, none⟩ = some (.int .i64 (-1)) := fun d => d.h.at (w.heap.size) 1 (-1) (by simp)
  have c6 : ∀ d : Wd (CL w [(w'.heap.size, 0, -1), (w'.heap.size, 1, -1), (b, 0, -1), (b, 1, -1), (w.heap.size, 0, a0), (w.heap.size, 1, -1), (w.heap.size + 1, 0, (-1)), (w.heap.size + 1, 1, (-1))]), d.w.cell? ⟨w.heap.size + 1, 0, none⟩ = some (.int .i64 ((-1))) := fun d => d.h.at (w.heap.size + 1) 0 ((-1)) (by simp)
  have c7 : ∀ d : Wd (CL w [(w'.heap.size, 0, -1), (w'.heap.size, 1, -1), (b, 0, -1), (b, 1, -1), (w.heap.size, 0, a0), (w.heap.size, 1, -1), (w.heap.size + 1, 0, (-1)), (w.heap.size + 1, 1, (-1))]), d.w.cell? ⟨w.heap.size + 1, 1, none⟩ = some (.int .i64 ((-1))) := fun d => d.h.at (w.heap.size + 1) 1 ((-1)) (by simp)
  have hne : Nonempty (Wd (CL w [(w'.heap.size, 0, -1), (w'.heap.size, 1, -1), (b, 0, -1), (b, 1, -1), (w.heap.size, 0, a0), (w.heap.size, 1, -1), (w.heap.size + 1, 0, (-1)), (w.heap.size + 1, 1, (-1))])) := ⟨⟨_, h5⟩⟩
  repeat (first | go_big_quiet_step ((first | exact quietN CL.step (level_db _) | exact quietN CL.step (compare_val _ _ _ _ (-1) _ hcmp.out))) | quiet_step ((first | exact quietN CL.step (level_db _) | exact quietN CL.step (compare_val _ _ _ _ (-1) _ hcmp.out))))
  refine wpQuiet_nil ?_
  intro d
  have h6 := d.h
  clear c0 c1 c2 c3 c4 c5 c6 c7 hne h5
  revert h6
  generalize d.w = w6
  intro h6
  have x0 : w6.cell? ⟨w'.heap.size, 0, none⟩ = some (.int .i64 (-1)) := h6.at (w'.heap.size) 0 (-1) (by simp)
  have x1 : w6.cell? ⟨w'.heap.size, 1, none⟩ = some (.int .i64 (-1)) := h6.at (w'.heap.size) 1 (-1) (by simp)
  have x2 : w6.cell? ⟨b, 0, none⟩ = some (.int .i64 (-1)) := h6.at (b) 0 (-1) (by simp)
  have x3 : w6.cell? ⟨b, 1, none⟩ = some (.int .i64 (-1)) := h6.at (b) 1 (-1) (by simp)
  have x4 : w6.cell? ⟨w.heap.size, 0, none⟩ = some (.int .i64 (a0)) := h6.at (w.heap.size) 0 (a0) (by simp)
  have x5 : w6.cell? ⟨w.heap.size, 1, none⟩ = some (.int .i64 (-1)) := h6.at (w.heap.size) 1 (-1) (by simp)
  have x6 : w6.cell? ⟨w.heap.size + 1, 0, none⟩ = some (.int .i64 ((-1))) := h6.at (w.heap.size + 1) 0 ((-1)) (by simp)
  have x7 : w6.cell? ⟨w.heap.size + 1, 1, none⟩ = some (.int .i64 ((-1))) := h6.at (w.heap.size + 1) 1 ((-1)) (by simp)
  go_wp2
  clear x0 x1 x2 x3 x4 x5 x6 x7
  refine region_in (CL w [(w'.heap.size, 0, -1), (w'.heap.size, 1, -1), (b, 0, -1), (b, 1, -1), (w.heap.size, 0, a0), (w.heap.size, 1, -1), (w.heap.size + 1, 0, (-1)), (w.heap.size + 1, 1, (-1))]) (by kernel_rfl) (by kernel_rfl) (CL.step _ _ h6 (Nw.refl _).drew1) ?_
  have c0 : ∀ d : Wd (CL w [(w'.heap.size, 0, -1), (w'.heap.size, 1, -1), (b, 0, -1), (b, 1, -1), (w.heap.size, 0, a0), (w.heap.size, 1, -1), (w.heap.size + 1, 0, (-1)), (w.heap.size + 1, 1, (-1))]), d.w.cell? ⟨w'.heap.size, 0, none⟩ = some (.int .i64 (-1)) := fun d => d.h.at (w'.heap.size) 0 (-1) (by simp)
  have c1 : ∀ d : Wd (CL w [(w'.heap.size, 0, -1), (w'.heap.size, 1, -1), (b, 0, -1), (b, 1, -1), (w.heap.size, 0, a0), (w.heap.size, 1, -1), (w.heap.size + 1, 0, (-1)), (w.heap.size + 1, 1, (-1))]), d.w.cell? ⟨w'.heap.size, 1, none⟩ = some (.int .i64 (-1)) := fun d => d.h.at (w'.heap.size) 1 (-1) (by simp)
  have c2 : ∀ d : Wd (CL w [(w'.heap.size, 0, -1), (w'.heap.size, 1, -1), (b, 0, -1), (b, 1, -1), (w.heap.size, 0, a0), (w.heap.size, 1, -1), (w.heap.size + 1, 0, (-1)), (w.heap.size + 1, 1, (-1))]), d.w.cell? ⟨b, 0, none⟩ = some (.int .i64 (-1)) := fun d => d.h.at (b) 0 (-1) (by simp)
  have c3 : ∀ d : Wd (CL w [(w'.heap.size, 0, -1), (w'.heap.size, 1, -1), (b, 0, -1), (b, 1, -1), (w.heap.size, 0, a0), (w.heap.size, 1, -1), (w.heap.size + 1, 0, (-1)), (w.heap.size + 1, 1, (-1))]), d.w.cell? ⟨b, 1, none⟩ = some (.int .i64 (-1)) := fun d => d.h.at (b) 1 (-1) (by simp)
  have c4 : ∀ d : Wd (CL w [(w'.heap.size, 0, -1), (w'.heap.size, 1, -1), (b, 0, -1), (b, 1, -1), (w.heap.size, 0, a0), (w.heap.size, 1, -1), (w.heap.size + 1, 0, (-1)), (w.heap.size + 1, 1, (-1))]), d.w.cell? ⟨w.heap.size, 0, none⟩ = some (.int .i64 (a0)) := fun d => d.h.at (w.heap.size) 0 (a0) (by simp)
  have c5 : ∀ d : Wd (CL w [(w'.heap.size, 0, -1), (w'.heap.size, 1, -1), (b, 0, -1), (b, 1, -1), (w.heap.size, 0, a0), (w.heap.size, 1, -1), (w.heap.size + 1, 0, (-1)), (w.heap.size + 1, 1, (-1))]), d.w.cell? ⟨w.heap.size, 1, none⟩ = some (.int .i64 (-1)) := fun d => d.h.at (w.heap.size) 1 (-1) (by simp)
  have c6 : ∀ d : Wd (CL w [(w'.heap.size, 0, -1), (w'.heap.size, 1, -1), (b, 0, -1), (b, 1, -1), (w.heap.size, 0, a0), (w.heap.size, 1, -1), (w.heap.size + 1, 0, (-1)), (w.heap.size + 1, 1, (-1))]), d.w.cell? ⟨w.heap.size + 1, 0, none⟩ = some (.int .i64 ((-1))) := fun d => d.h.at (w.heap.size + 1) 0 ((-1)) (by simp)
  have c7 : ∀ d : Wd (CL w [(w'.heap.size, 0, -1), (w'.heap.size, 1, -1), (b, 0, -1), (b, 1, -1), (w.heap.size, 0, a0), (w.heap.size, 1, -1), (w.heap.size + 1, 0, (-1)), (w.heap.size + 1, 1, (-1))]), d.w.cell? ⟨w.heap.size + 1, 1, none⟩ = some (.int .i64 ((-1))) := fun d => d.h.at (w.heap.size + 1) 1 ((-1)) (by simp)
  have hne : Nonempty (Wd (CL w [(w'.heap.size, 0, -1), (w'.heap.size, 1, -1), (b, 0, -1), (b, 1, -1), (w.heap.size, 0, a0), (w.heap.size, 1, -1), (w.heap.size + 1, 0, (-1)), (w.heap.size + 1, 1, (-1))])) := ⟨⟨_, h6⟩⟩
  repeat (first | go_big_quiet_step (fail) | quiet_step (fail))
  refine wpQuiet_nil ?_
  intro d
  have h7 := d.h
  clear c0 c1 c2 c3 c4 c5 c6 c7 hne h6
  revert h7
  generalize d.w = w7
  intro h7
  have x0 : w7.cell? ⟨w'.heap.size, 0, none⟩ = some (.int .i64 (-1)) := h7.at (w'.heap.size) 0 (-1) (by simp)
  have x1 : w7.cell? ⟨w'.heap.size, 1, none⟩ = some (.int .i64 (-1)) := h7.at (w'.heap.size) 1 (-1) (by simp)
  have x2 : w7.cell? ⟨b, 0, none⟩ = some (.int .i64 (-1)) := h7.at (b) 0 (-1) (by simp)
  have x3 : w7.cell? ⟨b, 1, none⟩ = some (.int .i64 (-1)) := h7.at (b) 1 (-1) (by simp)
  have x4 : w7.cell? ⟨w.heap.size, 0, none⟩ = some (.int .i64 (a0)) := h7.at (w.heap.size) 0 (a0) (by simp)
  have x5 : w7.cell? ⟨w.heap.size, 1, none⟩ = some (.int .i64 (-1)) := h7.at (w.heap.size) 1 (-1) (by simp)
  have x6 : w7.cell? ⟨w.heap.size + 1, 0, none⟩ = some (.int .i64 ((-1))) := h7.at (w.heap.size + 1) 0 ((-1)) (by simp)
  have x7 : w7.cell? ⟨w.heap.size + 1, 1, none⟩ = some (.int .i64 ((-1))) := h7.at (w.heap.size + 1) 1 ((-1)) (by simp)
  go_wp2
  rw [rounds_succ]
  go_wp2_with fail
  refine (under_val _ _ _ _ true _ hu.out).mono ?_
  rintro e w8 ⟨rfl, g8⟩
  go_wp2
  go_ret
  exact ⟨rfl, h7.2.trans g8⟩

set_option maxHeartbeats 2000000 in
theorem tab_a (a0 a1 b1 : Int) (w : World) (hk : Hid (lvl a0 (-1) = 1)) (hcmp : Hid (or2 (c3 (-1) a0) (c3 (-1) (-1)) = -1)) (x1 : (a1 == a0) = false) (x2 : ((-1 : Int) == a1) = false) (hu : Hid (und a0 (-1) a1 b1 = false)) :
    Calls Tryd.prog 6 #[.agg #[.int .i64 a0, .int .i64 (-1)], .agg #[.int .i64 a1, .int .i64 b1]] w fun e w' => e = .returned (.bool true) ∧ Nw w w' := by
  have hW0 : Nw w ((w.alloc (.cells #[.int .i64 a0, .int .i64 (-1)] 24)).alloc (.cells #[.int .i64 a1, .int .i64 b1] 24)) := ((Nw.refl _).alloc _).alloc _
  go_enter Tryd.func6, Tryd.ntmps6
  go_wp2_with fail
  refine (lives_ok _).mono ?_
  rintro e w' ⟨rfl, hg⟩
  (first | (replace hG := Nw.trans hG hg; clear hc hf) | have hG := hg)
  clear hg
  obtain ⟨hc, hf⟩ := hG.rules
  go_wp2_with fail
  refine (anc_tab _ _ hk.out).mono ?_
  rintro e w2 ⟨b, rfl, hn, hb, hg⟩
  replace hG := Nw.trans hG hg
  clear hc hf hg
  obtain ⟨hc, hf⟩ := hG.rules
  go_wp2_with fail
  refine (parent_tab _ _ hk.out).mono ?_
  rintro e w' ⟨rfl, g3⟩
  have hB := CL.step _ _ (CL.two w a0 (-1) (a1) (b1) 24) (hG.trans g3)
  have n0 := (hn.2 0 (by simp)).1
  have n1 := (hn.2 0 (by simp)).2
  simp only [Nat.zero_mul, Nat.zero_add, List.getElem_cons_zero] at n0 n1
  replace hB := (hB.cons (g3.keep n1)).cons (g3.keep n0)
  replace hB := CL.step _ _ hB ((Nw.refl _).alloc (.cells #[.int .i64 (-1), .int .i64 (-1)] 24))
  have m0 : (w'.alloc (.cells #[.int .i64 (-1), .int .i64 (-1)] 24)).cell? ⟨w'.heap.size, 0, none⟩ = some (.int .i64 (-1)) := by simp [go_sem]
  have m1 : (w'.alloc (.cells #[.int .i64 (-1), .int .i64 (-1)] 24)).cell? ⟨w'.heap.size, 1, none⟩ = some (.int .i64 (-1)) := by simp [go_sem]
  replace hB := (hB.cons m1).cons m0
  clear hc hf hG hn n0 n1 m0 m1 g3 hb
  go_wp2
  refine region_in (CL w [(w'.heap.size, 0, -1), (w'.heap.size, 1, -1), (b, 0, -1), (b, 1, -1), (w.heap.size, 0, a0), (w.heap.size, 1, -1), (w.heap.size + 1, 0, a1), (w.heap.size + 1, 1, b1)]) (by kernel_rfl) (by kernel_rfl) (CL.step _ _ hB (Nw.refl _).drew1) ?_
  have c0 : ∀ d : Wd (CL w [(w'.heap.size, 0, -1), (w'.heap.size, 1, -1), (b, 0, -1), (b, 1, -1), (w.heap.size, 0, a0), (w.heap.size, 1, -1), (w.heap.size + 1, 0, a1), (w.heap.size + 1, 1, b1)]), d.w.cell? ⟨w'.heap.size, 0, none⟩ = some (.int .i64 (-1)) := fun d => d.h.at (w'.heap.size) 0 (-1) (by simp)
  have c1 : ∀ d : Wd (CL w [(w'.heap.size, 0, -1), (w'.heap.size, 1, -1), (b, 0, -1), (b, 1, -1), (w.heap.size, 0, a0), (w.heap.size, 1, -1), (w.heap.size + 1, 0, a1), (w.heap.size + 1, 1, b1)]), d.w.cell? ⟨w'.heap.size, 1, none⟩ = some (.int .i64 (-1)) := fun d => d.h.at (w'.heap.size) 1 (-1) (by simp)
  have c2 : ∀ d : Wd (CL w [(w'.heap.size, 0, -1), (w'.heap.size, 1, -1), (b, 0, -1), (b, 1, -1), (w.heap.size, 0, a0), (w.heap.size, 1, -1), (w.heap.size + 1, 0, a1), (w.heap.size + 1, 1, b1)]), d.w.cell? ⟨b, 0, none⟩ = some (.int .i64 (-1)) := fun d => d.h.at (b) 0 (-1) (by simp)
  have c3 : ∀ d : Wd (CL w [(w'.heap.size, 0, -1), (w'.heap.size, 1, -1), (b, 0, -1), (b, 1, -1), (w.heap.size, 0, a0), (w.heap.size, 1, -1), (w.heap.size + 1, 0, a1), (w.heap.size + 1, 1, b1)]), d.w.cell? ⟨b, 1, none⟩ = some (.int .i64 (-1)) := fun d => d.h.at (b) 1 (-1) (by simp)
  have c4 : ∀ d : Wd (CL w [(w'.heap.size, 0, -1), (w'.heap.size, 1, -1), (b, 0, -1), (b, 1, -1), (w.heap.size, 0, a0), (w.heap.size, 1, -1), (w.heap.size + 1, 0, a1), (w.heap.size + 1, 1, b1)]), d.w.cell? ⟨w.heap.size, 0, none⟩ = some (.int .i64 (a0)) := fun d => d.h.at (w.heap.size) 0 (a0) (by simp)
  have c5 : ∀ d : Wd (CL w [(w'.heap.size, 0, -1), (w'.heap.size, 1, -1), (b, 0, -1), (b, 1, -1), (w.heap.size, 0, a0), (w.heap.size, 1, -1), (w.heap.size + 1, 0, a1), (w.heap.size + 1, 1, b1)]), d.w.cell? ⟨w.heap.size, 1, none⟩ = some (.int .i64 (-1)) := fun d => d.h.at (w.heap.size) 1 (-1) (by simp)
  have c6 : ∀ d : Wd (CL w [(w'.heap.size, 0, -1), (w'.heap.size, 1, -1), (b, 0, -1), (b, 1, -1), (w.heap.size, 0, a0), (w.heap.size, 1, -1), (w.heap.size + 1, 0, a1), (w.heap.size + 1, 1, b1)]), d.w.cell? ⟨w.heap.size + 1, 0, none⟩ = some (.int .i64 (a1)) := fun d => d.h.at (w.heap.size + 1) 0 (a1) (by simp)
  have c7 : ∀ d : Wd (CL w [(w'.heap.size, 0, -1), (w'.heap.size, 1, -1), (b, 0, -1), (b, 1, -1), (w.heap.size, 0, a0), (w.heap.size, 1, -1), (w.heap.size + 1, 0, a1), (w.heap.size + 1, 1, b1)]), d.w.cell? ⟨w.heap.size + 1, 1, none⟩ = some (.int .i64 (b1)) := fun d => d.h.at (w.heap.size + 1) 1 (b1) (by simp)
  have hne : Nonempty (Wd (CL w [(w'.heap.size, 0, -1), (w'.heap.size, 1, -1), (b, 0, -1), (b, 1, -1), (w.heap.size, 0, a0), (w.heap.size, 1, -1), (w.heap.size + 1, 0, a1), (w.heap.size + 1, 1, b1)])) := ⟨⟨_, hB⟩⟩
  repeat (first | go_big_quiet_step ((first | exact quietN CL.step (level_val _ _ 1 _ hk.out) | exact quietN CL.step (anc_none _ _ _ (.inl lvl_db)) | exact quietN CL.step (same_nil _ _ _ _ _))) | quiet_step ((first | exact quietN CL.step (level_val _ _ 1 _ hk.out) | exact quietN CL.step (anc_none _ _ _ (.inl lvl_db)) | exact quietN CL.step (same_nil _ _ _ _ _))))
  refine wpQuiet_nil ?_
  intro d
  have h5 := d.h
  clear c0 c1 c2 c3 c4 c5 c6 c7 hne hB
  revert h5
  generalize d.w = w5
  intro h5
  have x0 : w5.cell? ⟨w'.heap.size, 0, none⟩ = some (.int .i64 (-1)) := h5.at (w'.heap.size) 0 (-1) (by simp)
  have x1 : w5.cell? ⟨w'.heap.size, 1, none⟩ = some (.int .i64 (-1)) := h5.at (w'.heap.size) 1 (-1) (by simp)
  have x2 : w5.cell? ⟨b, 0, none⟩ = some (.int .i64 (-1)) := h5.at (b) 0 (-1) (by simp)
  have x3 : w5.cell? ⟨b, 1, none⟩ = some (.int .i64 (-1)) := h5.at (b) 1 (-1) (by simp)
  have x4 : w5.cell? ⟨w.heap.size, 0, none⟩ = some (.int .i64 (a0)) := h5.at (w.heap.size) 0 (a0) (by simp)
  have x5 : w5.cell? ⟨w.heap.size, 1, none⟩ = some (.int .i64 (-1)) := h5.at (w.heap.size) 1 (-1) (by simp)
  have x6 : w5.cell? ⟨w.heap.size + 1, 0, none⟩ = some (.int .i64 (a1)) := h5.at (w.heap.size + 1) 0 (a1) (by simp)
  have x7 : w5.cell? ⟨w.heap.size + 1, 1, none⟩ = some (.int .i64 (b1)) := h5.at (w.heap.size + 1) 1 (b1) (by simp)
  go_wp2
  refine wp_loop_rounds 2 ?_
  rw [rounds_succ]
  go_wp2
  clear x0 x1 x2 x3 x4 x5 x6 x7
  refine region_in (CL w [(w'.heap.size, 0, -1), (w'.heap.size, 1, -1), (b, 0, -1), (b, 1, -1), (w.heap.size, 0, a0), (w.heap.size, 1, -1), (w.heap.size + 1, 0, a1), (w.heap.size + 1, 1, b1)]) (by kernel_rfl) (by kernel_rfl) (CL.step _ _ h5 (Nw.refl _).drew1) ?_
  have c0 : ∀ d : Wd (CL w [(w'.heap.size, 0, -1), (w'.heap.size, 1, -1), (b, 0, -1), (b, 1, -1), (w.heap.size, 0, a0), (w.heap.size, 1, -1), (w.heap.size + 1, 0, a1), (w.heap.size + 1, 1, b1)]), d.w.cell? ⟨w'.heap.size, 0, none⟩ = some (.int .i64 (-1)) := fun d => d.h.at (w'.heap.size) 0 (-1) (by simp)
  have c1 : ∀ d : Wd (CL w [(w'.heap.size, 0, -1), (w'.heap.size, 1, -1), (b, 0, -1), (b, 1, -1), (w.heap.size, 0, a0), (w.heap.size, 1, -1), (w.heap.size + 1, 0, a1), (w.heap.size + 1, 1, b1)]), d.w.cell? ⟨w'.heap.size, 1, none⟩ = some (.int .i64 (-1)) := fun d => d.h.at (w'.heap.size) 1 (-1) (by simp)
  have c2 : ∀ d : Wd (CL w [(w'.heap.size, 0, -1), (w'.heap.size, 1, -1), (b, 0, -1), (b, 1, -1), (w.heap.size, 0, a0), (w.heap.size, 1, -1), (w.heap.size + 1, 0, a1), (w.heap.size + 1, 1, b1)]), d.w.cell? ⟨b, 0, none⟩ = some (.int .i64 (-1)) := fun d => d.h.at (b) 0 (-1) (by simp)
  have c3 : ∀ d : Wd (CL w [(w'.heap.size, 0, -1), (w'.heap.size, 1, -1), (b, 0, -1), (b, 1, -1), (w.heap.size, 0, a0), (w.heap.size, 1, -1), (w.heap.size + 1, 0, a1), (w.heap.size + 1, 1, b1)]), d.w.cell? ⟨b, 1, none⟩ = some (.int .i64 (-1)) := fun d => d.h.at (b) 1 (-1) (by simp)
  have c4 : ∀ d : Wd (CL w [(w'.heap.size, 0, -1), (w'.heap.size, 1, -1), (b, 0, -1), (b, 1, -1), (w.heap.size, 0, a0), (w.heap.size, 1, -1), (w.heap.size + 1, 0, a1), (w.heap.size + 1, 1, b1)]), d.w.cell? ⟨w.heap.size, 0, none⟩ = some (.int .i64 (a0)) := fun d => d.h.at (w.heap.size) 0 (a0) (by simp)
  have c5 : ∀ d : Wd (CL w [(w'.heap.size, 0, -1), (w'.heap.size, 1, -1), (b, 0, -1), (b, 1, -1), (w.heap.size, 0, a0), (w.heap.size, 1, -1), (w.heap.size + 1, 0, a1), (w.heap.size + 1, 1, b1)]), d.w.cell? ⟨w.heap.size, 1, none⟩ = some (.int .i64 (-1)) := fun d => d.h.at (w.heap.size) 1 (-1) (by simp)
  have c6 : ∀ d : Wd (CL w [(w'.heap.size, 0, -1), (w'.heap.size, 1, -1), (b, 0, -1), (b, 1, -1), (w.heap.size, 0, a0), (w.heap.size, 1, -1), (w.heap.size + 1, 0, a1), (w.heap.size + 1, 1, b1)]), d.w.cell? ⟨w.heap.size + 1, 0, none⟩ = some (.int .i64 (a1)) := fun d => d.h.at (w.heap.size + 1) 0 (a1) (by simp)
  have c7 : ∀ d : Wd (CL w [(w'.heap.size, 0, -1), (w'.heap.size, 1, -1), (b, 0, -1), (b, 1, -1), (w.heap.size, 0, a0), (w.heap.size, 1, -1), (w.heap.size + 1, 0, a1), (w.heap.size + 1, 1, b1)]), d.w.cell? ⟨w.heap.size + 1, 1, none⟩ = some (.int .i64 (b1)) := fun d => d.h.at (w.heap.size + 1) 1 (b1) (by simp)
  have hne : Nonempty (Wd (CL w [(w'.heap.size, 0, -1), (w'.heap.size, 1, -1), (b, 0, -1), (b, 1, -1), (w.heap.size, 0, a0), (w.heap.size, 1, -1), (w.heap.size + 1, 0, a1), (w.heap.size + 1, 1, b1)])) := ⟨⟨_, h5⟩⟩
  repeat (first | go_big_quiet_step ((first | exact quietN CL.step (level_db _) | exact quietN CL.step (compare_val _ _ _ _ (-1) _ hcmp.out))) | quiet_step ((first | exact quietN CL.step (level_db _) | exact quietN CL.step (compare_val _ _ _ _ (-1) _ hcmp.out))))
  refine wpQuiet_nil ?_
  intro d
  have h6 := d.h
  clear c0 c1 c2 c3 c4 c5 c6 c7 hne h5
  revert h6
  generalize d.w = w6
  intro h6
  have x0 : w6.cell? ⟨w'.heap.size, 0, none⟩ = some (.int .i64 (-1)) := h6.at (w'.heap.size) 0 (-1) (by simp)
  have x1 : w6.cell? ⟨w'.heap.size, 1, none⟩ = some (.int .i64 (-1)) := h6.at (w'.heap.size) 1 (-1) (by simp)
  have x2 : w6.cell? ⟨b, 0, none⟩ = some (.int .i64 (-1)) := h6.at (b) 0 (-1) (by simp)
  have x3 : w6.cell? ⟨b, 1, none⟩ = some (.int .i64 (-1)) := h6.at (b) 1 (-1) (by simp)
  have x4 : w6.cell? ⟨w.heap.size, 0, none⟩ = some (.int .i64 (a0)) := h6.at (w.heap.size) 0 (a0) (by simp)
  have x5 : w6.cell? ⟨w.heap.size, 1, none⟩ = some (.int .i64 (-1)) := h6.at (w.heap.size) 1 (-1) (by simp)
  have x6 : w6.cell? ⟨w.heap.size + 1, 0, none⟩ = some (.int .i64 (a1)) := h6.at (w.heap.size + 1) 0 (a1) (by simp)
  have x7 : w6.cell? ⟨w.heap.size + 1, 1, none⟩ = some (.int .i64 (b1)) := h6.at (w.heap.size + 1) 1 (b1) (by simp)
  go_wp2
  clear x0 x1 x2 x3 x4 x5 x6 x7
  refine region_in (CL w [(w'.heap.size, 0, -1), (w'.heap.size, 1, -1), (b, 0, -1), (b, 1, -1), (w.heap.size, 0, a0), (w.heap.size, 1, -1), (w.heap.size + 1, 0, a1), (w.heap.size + 1, 1, b1)]) (by kernel_rfl) (by kernel_rfl) (CL.step _ _ h6 (Nw.refl _).drew1) ?_
  have c0 : ∀ d : Wd (CL w [(w'.heap.size, 0, -1), (w'.heap.size, 1, -1), (b, 0, -1), (b, 1, -1), (w.heap.size, 0, a0), (w.heap.size, 1, -1), (w.heap.size + 1, 0, a1), (w.heap.size + 1, 1, b1)]), d.w.cell? ⟨w'.heap.size, 0, none⟩ = some (.int .i64 (-1)) := fun d => d.h.at (w'.heap.size) 0 (-1) (by simp)
  have c1 : ∀ d : Wd (CL w [(w'.heap.size, 0, -1), (w'.heap.size, 1, -1), (b, 0, -1), (b, 1, -1), (w.heap.size, 0, a0), (w.heap.size, 1, -1), (w.heap.size + 1, 0, a1), (w.heap.size + 1, 1, b1)]), d.w.cell? ⟨w'.heap.size, 1, none⟩ = some (.int .i64 (-1)) := fun d => d.h.at (w'.heap.size) 1 (-1) (by simp)
  have c2 : ∀ d : Wd (CL w [(w'.heap.size, 0, -1), (w'.heap.size, 1, -1), (b, 0, -1), (b, 1, -1), (w.heap.size, 0, a0), (w.heap.size, 1, -1), (w.heap.size + 1, 0, a1), (w.heap.size + 1, 1, b1)]), d.w.cell? ⟨b, 0, none⟩ = some (.int .i64 (-1)) := fun d => d.h.at (b) 0 (-1) (by simp)
  have c3 : ∀ d : Wd (CL w [(w'.heap.size, 0, -1), (w'.heap.size, 1, -1), (b, 0, -1), (b, 1, -1), (w.heap.size, 0, a0), (w.heap.size, 1, -1), (w.heap.size + 1, 0, a1), (w.heap.size + 1, 1, b1)]), d.w.cell? ⟨b, 1, none⟩ = some (.int .i64 (-1)) := fun d => d.h.at (b) 1 (-1) (by simp)
  have c4 : ∀ d : Wd (CL w [(w'.heap.size, 0, -1), (w'.heap.size, 1, -1), (b, 0, -1), (b, 1, -1), (w.heap.size, 0, a0), (w.heap.size, 1, -1), (w.heap.size + 1, 0, a1), (w.heap.size + 1, 1, b1)]), d.w.cell? ⟨w.heap.size, 0, none⟩ = some (.int .i64 (a0)) := fun d => d.h.at (w.heap.size) 0 (a0) (by simp)
  have c5 : ∀ d : Wd (CL w [(w'.heap.size, 0, -1), (w'.heap.size, 1, -1), (b, 0, -1), (b, 1, -1), (w.heap.size, 0, a0), (w.heap.size, 1, -1), (w.heap.size + 1, 0, a1), (w.heap.size + 1, 1, b1)]), d.w.cell? ⟨w.heap.size, 1, none⟩ = some (.int .i64 (-1)) := fun d => d.h.at (w.heap.size) 1 (-1) (by simp)
  have c6 : ∀ d : Wd (CL w [(w'.heap.size, 0, -1), (w'.heap.size, 1, -1), (b, 0, -1), (b, 1, -1), (w.heap.size, 0, a0), (w.heap.size, 1, -1), (w.heap.size + 1, 0, a1), (w.heap.size + 1, 1, b1)]), d.w.cell? ⟨w.heap.size + 1, 0, none⟩ = some (.int .i64 (a1)) := fun d => d.h.at (w.heap.size + 1) 0 (a1) (by simp)
  have c7 : ∀ d : Wd (CL w [(w'.heap.size, 0, -1), (w'.heap.size, 1, -1), (b, 0, -1), (b, 1, -1), (w.heap.size, 0, a0), (w.heap.size, 1, -1), (w.heap.size + 1, 0, a1), (w.heap.size + 1, 1, b1)]), d.w.cell? ⟨w.heap.size + 1, 1, none⟩ = some (.int .i64 (b1)) := fun d => d.h.at (w.heap.size + 1) 1 (b1) (by simp)
  have hne : Nonempty (Wd (CL w [(w'.heap.size, 0, -1), (w'.heap.size, 1, -1), (b, 0, -1), (b, 1, -1), (w.heap.size, 0, a0), (w.heap.size, 1, -1), (w.heap.size + 1, 0, a1), (w.heap.size + 1, 1, b1)])) := ⟨⟨_, h6⟩⟩
  repeat (first | go_big_quiet_step (fail) | quiet_step (fail))
  refine wpQuiet_nil ?_
  intro d
  have h7 := d.h
  clear c0 c1 c2 c3 c4 c5 c6 c7 hne h6
  revert h7
  generalize d.w = w7
  intro h7
  have x0 : w7.cell? ⟨w'.heap.size, 0, none⟩ = some (.int .i64 (-1)) := h7.at (w'.heap.size) 0 (-1) (by simp)
  have x1 : w7.cell? ⟨w'.heap.size, 1, none⟩ = some (.int .i64 (-1)) := h7.at (w'.heap.size) 1 (-1) (by simp)
  have x2 : w7.cell? ⟨b, 0, none⟩ = some (.int .i64 (-1)) := h7.at (b) 0 (-1) (by simp)
  have x3 : w7.cell? ⟨b, 1, none⟩ = some (.int .i64 (-1)) := h7.at (b) 1 (-1) (by simp)
  have x4 : w7.cell? ⟨w.heap.size, 0, none⟩ = some (.int .i64 (a0)) := h7.at (w.heap.size) 0 (a0) (by simp)
  have x5 : w7.cell? ⟨w.heap.size, 1, none⟩ = some (.int .i64 (-1)) := h7.at (w.heap.size) 1 (-1) (by simp)
  have x6 : w7.cell? ⟨w.heap.size + 1, 0, none⟩ = some (.int .i64 (a1)) := h7.at (w.heap.size + 1) 0 (a1) (by simp)
  have x7 : w7.cell? ⟨w.heap.size + 1, 1, none⟩ = some (.int .i64 (b1)) := h7.at (w.heap.size + 1) 1 (b1) (by simp)
  go_wp2
  rw [rounds_succ]
  go_wp2_with fail
  refine (under_val _ _ _ _ false _ hu.out).mono ?_
  rintro e w8 ⟨rfl, g8⟩
  go_wp2
  go_ret
  exact ⟨rfl, h7.2.trans g8⟩

set_option maxHeartbeats 2000000 in
theorem tab_b (a0 b1 : Int) (w : World) (hk : Hid (lvl a0 (-1) = 1)) (hcmp : Hid (or2 (c3 (-1) a0) (c3 (-1) (-1)) = -1)) (x0 : ((-1 : Int) == a0) = false) (x1 : (b1 == -1) = false) (hu : Hid (und a0 (-1) a0 b1 = false)) :
    Calls Tryd.prog 6 #[.agg #[.int .i64 a0, .int .i64 (-1)], .agg #[.int .i64 a0, .int .i64 b1]] w fun e w' => e = .returned (.bool true) ∧ Nw w w' := by
  have hW0 : Nw w ((w.alloc (.cells #[.int .i64 a0, .int .i64 (-1)] 24)).alloc (.cells #[.int .i64 a0, .int .i64 b1] 24)) := ((Nw.refl _).alloc _).alloc _
  go_enter Tryd.func6, Tryd.ntmps6
  go_wp2_with fail
  refine (lives_ok _).mono ?_
  rintro e w' ⟨rfl, hg⟩
  (first | (replace hG := Nw.trans hG hg; clear hc hf) | have hG := hg)
  clear hg
  obtain ⟨hc, hf⟩ := hG.rules
  go_wp2_with fail
  refine (anc_tab _ _ hk.out).mono ?_
  rintro e w2 ⟨b, rfl, hn, hb, hg⟩
  replace hG := Nw.trans hG hg
  clear hc hf hg
  obtain ⟨hc, hf⟩ := hG.rules
  go_wp2_with fail
  refine (parent_tab _ _ hk.out).mono ?_
  rintro e w' ⟨rfl, g3⟩
  have hB := CL.step _ _ (CL.two w a0 (-1) (a0) (b1) 24) (hG.trans g3)
  have n0 := (hn.2 0 (by simp)).1
  have n1 := (hn.2 0 (by simp)).2
  simp only [Nat.zero_mul, Nat.zero_add, List.getElem_cons_zero] at n0 n1
  replace hB := (hB.cons (g3.keep n1)).cons (g3.keep n0)
  replace hB := CL.step _ _ hB ((Nw.refl _).alloc (.cells #[.int .i64 (-1), .int .i64 (-1)] 24))
  have m0 : (w'.alloc (.cells #[.int .i64 (-1), .int .i64 (-1)] 24)).cell? ⟨w'.heap.size, 0, none⟩ = some (.int .i64 (-1)) := by simp [go_sem]
  have m1 : (w'.alloc (.cells #[.int .i64 (-1), .int .i64 (-1)] 24)).cell? ⟨w'.heap.size, 1, none⟩ = some (.int .i64 (-1)) := by simp [go_sem]
  replace hB := (hB.cons m1).cons m0
  clear hc hf hG hn n0 n1 m0 m1 g3 hb
  go_wp2
  refine region_in (CL w [(w'.heap.size, 0, -1), (w'.heap.size, 1, -1), (b, 0, -1), (b, 1, -1), (w.heap.size, 0, a0), (w.heap.size, 1, -1), (w.heap.size + 1, 0, a0), (w.heap.size + 1, 1, b1)]) (by kernel_rfl) (by kernel_rfl) (CL.step _ _ hB (Nw.refl _).drew1) ?_
  have c0 : ∀ d : Wd (CL w [(w'.heap.size, 0, -1), (w'.heap.size, 1, -1), (b, 0, -1), (b, 1, -1), (w.heap.size, 0, a0), (w.heap.size, 1, -1), (w.heap.size + 1, 0, a0), (w.heap.size + 1, 1, b1)]), d.w.cell? ⟨w'.heap.size, 0, none⟩ = some (.int .i64 (-1)) := fun d => d.h.at (w'.heap.size) 0 (-1) (by simp)
  have c1 : ∀ d : Wd (CL w [(w'.heap.size, 0, -1), (w'.heap.size, 1, -1), (b, 0, -1), (b, 1, -1), (w.heap.size, 0, a0), (w.heap.size, 1, -1), (w.heap.size + 1, 0, a0), (w.heap.size + 1, 1, b1)]), d.w.cell? ⟨w'.heap.size, 1, none⟩ = some (.int .i64 (-1)) := fun d => d.h.at (w'.heap.size) 1 (-1) (by simp)
  have c2 : ∀ d : Wd (CL w [(w'.heap.size, 0, -1), (w'.heap.size, 1, -1), (b, 0, -1), (b, 1, -1), (w.heap.size, 0, a0), (w.heap.size, 1, -1), (w.heap.size + 1, 0, a0), (w.heap.size + 1, 1, b1)]), d.w.cell? ⟨b, 0, none⟩ = some (.int .i64 (-1)) := fun d => d.h.at (b) 0 (-1) (by simp)
  have c3 : ∀ d : Wd (CL w [(w'.heap.size, 0, -1), (w'.heap.size, 1, -1), (b, 0, -1), (b, 1, -1), (w.heap.size, 0, a0), (w.heap.size, 1, -1), (w.heap.size + 1, 0, a0), (w.heap.size + 1, 1, b1)]), d.w.cell? ⟨b, 1, none⟩ = some (.int .i64 (-1)) := fun d => d.h.at (b) 1 (-1) (by simp)
  have c4 : ∀ d : Wd (CL w [(w'.heap.size, 0, -1), (w'.heap.size, 1, -1), (b, 0, -1), (b, 1, -1), (w.heap.size, 0, a0), (w.heap.size, 1, -1), (w.heap.size + 1, 0, a0), (w.heap.size + 1, 1, b1)]), d.w.cell? ⟨w.heap.size, 0, none⟩ = some (.int .i64 (a0)) := fun d => d.h.at (w.heap.size) 0 (a0) (by simp)
  have c5 : ∀ d : Wd (CL w [(w'.heap.size, 0, -1), (w'.heap.size, 1, -1), (b, 0, -1), (b, 1, -1), (w.heap.size, 0, a0), (w.heap.size, 1, -1), (w.heap.size + 1, 0, a0), (w.heap.size + 1, 1, b1)]), d.w.cell? ⟨w.heap.size, 1, none⟩ = some (.int .i64 (-1)) := fun d => d.h.at (w.heap.size) 1 (-1) (by simp)
  have c6 : ∀ d : Wd (CL w [(w'.heap.size, 0, -1), (w'.heap.size, 1, -1), (b, 0, -1), (b, 1, -1), (w.heap.size, 0, a0), (w.heap.size, 1, -1), (w.heap.size + 1, 0, a0), (w.heap.size + 1, 1, b1)]), d.w.cell? ⟨w.heap.size + 1, 0, none⟩ = some (.int .i64 (a0)) := fun d => d.h.at (w.heap.size + 1) 0 (a0) (by simp)
  have c7 : ∀ d : Wd (CL w [(w'.heap.size, 0, -1), (w'.heap.size, 1, -1), (b, 0, -1), (b, 1, -1), (w.heap.size, 0, a0), (w.heap.size, 1, -1), (w.heap.size + 1, 0, a0), (w.heap.size + 1, 1, b1)]), d.w.cell? ⟨w.heap.size + 1, 1, none⟩ = some (.int .i64 (b1)) := fun d => d.h.at (w.heap.size + 1) 1 (b1) (by simp)
  have hne : Nonempty (Wd (CL w [(w'.heap.size, 0, -1), (w'.heap.size, 1, -1), (b, 0, -1), (b, 1, -1), (w.heap.size, 0, a0), (w.heap.size, 1, -1), (w.heap.size + 1, 0, a0), (w.heap.size + 1, 1, b1)])) := ⟨⟨_, hB⟩⟩
  repeat (first | go_big_quiet_step ((first | exact quietN CL.step (level_val _ _ 1 _ hk.out) | exact quietN CL.step (anc_none _ _ _ (.inl lvl_db)) | exact quietN CL.step (same_nil _ _ _ _ _))) | quiet_step ((first | exact quietN CL.step (level_val _ _ 1 _ hk.out) | exact quietN CL.step (anc_none _ _ _ (.inl lvl_db)) | exact quietN CL.step (same_nil _ _ _ _ _))))
  refine wpQuiet_nil ?_
  intro d
  have h5 := d.h
  clear c0 c1 c2 c3 c4 c5 c6 c7 hne hB
  revert h5
  generalize d.w = w5
  intro h5
  have x0 : w5.cell? ⟨w'.heap.size, 0, none⟩ = some (.int .i64 (-1)) := h5.at (w'.heap.size) 0 (-1) (by simp)
  have x1 : w5.cell? ⟨w'.heap.size, 1, none⟩ = some (.int .i64 (-1)) := h5.at (w'.heap.size) 1 (-1) (by simp)
  have x2 : w5.cell? ⟨b, 0, none⟩ = some (.int .i64 (-1)) := h5.at (b) 0 (-1) (by simp)
  have x3 : w5.cell? ⟨b, 1, none⟩ = some (.int .i64 (-1)) := h5.at (b) 1 (-1) (by simp)
  have x4 : w5.cell? ⟨w.heap.size, 0, none⟩ = some (.int .i64 (a0)) := h5.at (w.heap.size) 0 (a0) (by simp)
  have x5 : w5.cell? ⟨w.heap.size, 1, none⟩ = some (.int .i64 (-1)) := h5.at (w.heap.size) 1 (-1) (by simp)
  have x6 : w5.cell? ⟨w.heap.size + 1, 0, none⟩ = some (.int .i64 (a0)) := h5.at (w.heap.size + 1) 0 (a0) (by simp)
  have x7 : w5.cell? ⟨w.heap.size + 1, 1, none⟩ = some (.int .i64 (b1)) := h5.at (w.heap.size + 1) 1 (b1) (by simp)
  go_wp2
  refine wp_loop_rounds 2 ?_
  rw [rounds_succ]
  go_wp2
  clear x0 x1 x2 x3 x4 x5 x6 x7
  refine region_in (CL w [(w'.heap.size, 0, -1), (w'.heap.size, 1, -1), (b, 0, -1), (b, 1, -1), (w.heap.size, 0, a0), (w.heap.size, 1, -1), (w.heap.size + 1, 0, a0), (w.heap.size + 1, 1, b1)]) (by kernel_rfl) (by kernel_rfl) (CL.step _ _ h5 (Nw.refl _).drew1) ?_
  have c0 : ∀ d : Wd (CL w [(w'.heap.size, 0, -1), (w'.heap.size, 1, -1), (b, 0, -1), (b, 1, -1), (w.heap.size, 0, a0), (w.heap.size, 1, -1), (w.heap.size + 1, 0, a0), (w.heap.size + 1, 1, b1)]), d.w.cell? ⟨w'.heap.size, 0, none⟩ = some (.int .i64 (-1)) := fun d => d.h.at (w'.heap.size) 0 (-1) (by simp)
  have c1 : ∀ d : Wd (CL w [(w'.heap.size, 0, -1), (w'.heap.size, 1, -1), (b, 0, -1), (b, 1, -1), (w.heap.size, 0, a0), (w.heap.size, 1, -1), (w.heap.size + 1, 0, a0), (w.heap.size + 1, 1, b1)]), d.w.cell? ⟨w'.heap.size, 1, none⟩ = some (.int .i64 (-1)) := fun d => d.h.at (w'.heap.size) 1 (-1) (by simp)
  have c2 : ∀ d : Wd (CL w [(w'.heap.size, 0, -1), (w'.heap.size, 1, -1), (b, 0, -1), (b, 1, -1), (w.heap.size, 0, a0), (w.heap.size, 1, -1), (w.heap.size + 1, 0, a0), (w.heap.size + 1, 1, b1)]), d.w.cell? ⟨b, 0, none⟩ = some (.int .i64 (-1)) := fun d => d.h.at (b) 0 (-1) (by simp)
  have c3 : ∀ d : Wd (CL w [(w'.heap.size, 0, -1), (w'.heap.size, 1, -1), (b, 0, -1), (b, 1, -1), (w.heap.size, 0, a0), (w.heap.size, 1, -1), (w.heap.size + 1, 0, a0), (w.heap.size + 1, 1, b1)]), d.w.cell? ⟨b, 1, none⟩ = some (.int .i64 (-1)) := fun d => d.h.at (b) 1 (-1) (by simp)
  have c4 : ∀ d : Wd (CL w [(w'.heap.size, 0, -1), (w'.heap.size, 1, -1), (b, 0, -1), (b, 1, -1), (w.heap.size, 0, a0), (w.heap.size, 1, -1), (w.heap.size + 1, 0, a0), (w.heap.size + 1, 1, b1)]), d.w.cell? ⟨w.heap.size, 0, none⟩ = some (.int .i64 (a0)) := fun d => d.h.at (w.heap.size) 0 (a0) (by simp)
  have c5 : ∀ d : Wd (CL w [(w'.heap.size, 0, -1), (w'.heap.size, 1, -1), (b, 0, -1), (b, 1, -1), (w.heap.size, 0, a0), (w.heap.size, 1, -1), (w.heap.size + 1, 0, a0), (w.heap.size + 1, 1, b1)]), d.w.cell? ⟨w.heap.size, 1, none⟩ = some (.int .i64 (-1)) := fun d => d.h.at (w.heap.size) 1 (-1) (by simp)
  have c6 : ∀ d : Wd (CL w [(w'.heap.size, 0, -1), (w'.heap.size, 1, -1), (b, 0, -1), (b, 1, -1), (w.heap.size, 0, a0), (w.heap.size, 1, -1), (w.heap.size + 1, 0, a0), (w.heap.size + 1, 1, b1)]), d.w.cell? ⟨w.heap.size + 1, 0, none⟩ = some (.int .i64 (a0)) := fun d => d.h.at (w.heap.size + 1) 0 (a0) (by simp)
  have c7 : ∀ d : Wd (CL w [(w'.heap.size, 0, -1), (w'.heap.size, 1, -1), (b, 0, -1), (b, 1, -1), (w.heap.size, 0, a0), (w.heap.size, 1, -1), (w.heap.size + 1, 0, a0), (w.heap.size + 1, 1, b1)]), d.w.cell? ⟨w.heap.size + 1, 1, none⟩ = some (.int .i64 (b1)) := fun d => d.h.at (w.heap.size + 1) 1 (b1) (by simp)
  have hne : Nonempty (Wd (CL w [(w'.heap.size, 0, -1), (w'.heap.size, 1, -1), (b, 0, -1), (b, 1, -1), (w.heap.size, 0, a0), (w.heap.size, 1, -1), (w.heap.size + 1, 0, a0), (w.heap.size + 1, 1, b1)])) := ⟨⟨_, h5⟩⟩
  repeat (first | go_big_quiet_step ((first | exact quietN CL.step (level_db _) | exact quietN CL.step (compare_val _ _ _ _ (-1) _ hcmp.out))) | quiet_step ((first | exact quietN CL.step (level_db _) | exact quietN CL.step (compare_val _ _ _ _ (-1) _ hcmp.out))))
  refine wpQuiet_nil ?_
  intro d
  have h6 := d.h
  clear c0 c1 c2 c3 c4 c5 c6 c7 hne h5
  revert h6
  generalize d.w = w6
  intro h6
  have x0 : w6.cell? ⟨w'.heap.size, 0, none⟩ = some (.int .i64 (-1)) := h6.at (w'.heap.size) 0 (-1) (by simp)
  have x1 : w6.cell? ⟨w'.heap.size, 1, none⟩ = some (.int .i64 (-1)) := h6.at (w'.heap.size) 1 (-1) (by simp)
  have x2 : w6.cell? ⟨b, 0, none⟩ = some (.int .i64 (-1)) := h6.at (b) 0 (-1) (by simp)
  have x3 : w6.cell? ⟨b, 1, none⟩ = some (.int .i64 (-1)) := h6.at (b) 1 (-1) (by simp)
  have x4 : w6.cell? ⟨w.heap.size, 0, none⟩ = some (.int .i64 (a0)) := h6.at (w.heap.size) 0 (a0) (by simp)
  have x5 : w6.cell? ⟨w.heap.size, 1, none⟩ = some (.int .i64 (-1)) := h6.at (w.heap.size) 1 (-1) (by simp)
  have x6 : w6.cell? ⟨w.heap.size + 1, 0, none⟩ = some (.int .i64 (a0)) := h6.at (w.heap.size + 1) 0 (a0) (by simp)
  have x7 : w6.cell? ⟨w.heap.size + 1, 1, none⟩ = some (.int .i64 (b1)) := h6.at (w.heap.size + 1) 1 (b1) (by simp)
  go_wp2
  clear x0 x1 x2 x3 x4 x5 x6 x7
  refine region_in (CL w [(w'.heap.size, 0, -1), (w'.heap.size, 1, -1), (b, 0, -1), (b, 1, -1), (w.heap.size, 0, a0), (w.heap.size, 1, -1), (w.heap.size + 1, 0, a0), (w.heap.size + 1, 1, b1)]) (by kernel_rfl) (by kernel_rfl) (CL.step _ _ h6 (Nw.refl _).drew1) ?_
  have c0 : ∀ d : Wd (CL w [(w'.heap.size, 0, -1), (w'.heap.size, 1, -1), (b, 0, -1), (b, 1, -1), (w.heap.size, 0, a0), (w.heap.size, 1, -1), (w.heap.size + 1, 0, a0), (w.heap.size + 1, 1, b1)]), d.w.cell? ⟨w'.heap.size, 0, none⟩ = some (.int .i64 (-1)) := fun d => d.h.at (w'.heap.size) 0 (-1) (by simp)
  have c1 : ∀ d : Wd (CL w [(w'.heap.size, 0, -1), (w'.heap.size, 1, -1), (b, 0, -1), (b, 1, -1), (w.heap.size, 0, a0), (w.heap.size, 1, -1), (w.heap.size + 1, 0, a0), (w.heap.size + 1, 1, b1)]), d.w.cell? ⟨w'.heap.size, 1, none⟩ = some (.int .i64 (-1)) := fun d => d.h.at (w'.heap.size) 1 (-1) (by simp)
  have c2 : ∀ d : Wd (CL w [(w'.heap.size, 0, -1), (w'.heap.size, 1, -1), (b, 0, -1), (b, 1, -1), (w.heap.size, 0, a0), (w.heap.size, 1, -1), (w.heap.size + 1, 0, a0), (w.heap.size + 1, 1, b1)]), d.w.cell? ⟨b, 0, none⟩ = some (.int .i64 (-1)) := fun d => d.h.at (b) 0 (-1) (by simp)
  have c3 : ∀ d : Wd (CL w [(w'.heap.size, 0, -1), (w'.heap.size, 1, -1), (b, 0, -1), (b, 1, -1), (w.heap.size, 0, a0), (w.heap.size, 1, -1), (w.heap.size + 1, 0, a0), (w.heap.size + 1, 1, b1)]), d.w.cell? ⟨b, 1, none⟩ = some (.int .i64 (-1)) := fun d => d.h.at (b) 1 (-1) (by simp)
  have c4 : ∀ d : Wd (CL w [(w'.heap.size, 0, -1), (w'.heap.size, 1, -1), (b, 0, -1), (b, 1, -1), (w.heap.size, 0, a0), (w.heap.size, 1, -1), (w.heap.size + 1, 0, a0), (w.heap.size + 1, 1, b1)]), d.w.cell? ⟨w.heap.size, 0, none⟩ = some (.int .i64 (a0)) := fun d => d.h.at (w.heap.size) 0 (a0) (by simp)
  have c5 : ∀ d : Wd (CL w [(w'.heap.size, 0, -1), (w'.heap.size, 1, -1), (b, 0, -1), (b, 1, -1), (w.heap.size, 0, a0), (w.heap.size, 1, -1), (w.heap.size + 1, 0, a0), (w.heap.size + 1, 1, b1)]), d.w.cell? ⟨w.heap.size, 1, none⟩ = some (.int .i64 (-1)) := fun d => d.h.at (w.heap.size) 1 (-1) (by simp)
  have c6 : ∀ d : Wd (CL w [(w'.heap.size, 0, -1), (w'.heap.size, 1, -1), (b, 0, -1), (b, 1, -1), (w.heap.size, 0, a0), (w.heap.size, 1, -1), (w.heap.size + 1, 0, a0), (w.heap.size + 1, 1, b1)]), d.w.cell? ⟨w.heap.size + 1, 0, none⟩ = some (.int .i64 (a0)) := fun d => d.h.at (w.heap.size + 1) 0 (a0) (by simp)
  have c7 : ∀ d : Wd (CL w [(w'.heap.size, 0, -1), (w'.heap.size, 1, -1), (b, 0, -1), (b, 1, -1), (w.heap.size, 0, a0), (w.heap.size, 1, -1), (w.heap.size + 1, 0, a0), (w.heap.size + 1, 1, b1)]), d.w.cell? ⟨w.heap.size + 1, 1, none⟩ = some (.int .i64 (b1)) := fun d => d.h.at (w.heap.size + 1) 1 (b1) (by simp)
  have hne : Nonempty (Wd (CL w [(w'.heap.size, 0, -1), (w'.heap.size, 1, -1), (b, 0, -1), (b, 1, -1), (w.heap.size, 0, a0), (w.heap.size, 1, -1), (w.heap.size + 1, 0, a0), (w.heap.size + 1, 1, b1)])) := ⟨⟨_, h6⟩⟩
  repeat (first | go_big_quiet_step (fail) | quiet_step (fail))
  refine wpQuiet_nil ?_
  intro d
  have h7 := d.h
  clear c0 c1 c2 c3 c4 c5 c6 c7 hne h6
  revert h7
  generalize d.w = w7
  intro h7
  have x0 : w7.cell? ⟨w'.heap.size, 0, none⟩ = some (.int .i64 (-1)) := h7.at (w'.heap.size) 0 (-1) (by simp)
  have x1 : w7.cell? ⟨w'.heap.size, 1, none⟩ = some (.int .i64 (-1)) := h7.at (w'.heap.size) 1 (-1) (by simp)
  have x2 : w7.cell? ⟨b, 0, none⟩ = some (.int .i64 (-1)) := h7.at (b) 0 (-1) (by simp)
  have x3 : w7.cell? ⟨b, 1, none⟩ = some (.int .i64 (-1)) := h7.at (b) 1 (-1) (by simp)
  have x4 : w7.cell? ⟨w.heap.size, 0, none⟩ = some (.int .i64 (a0)) := h7.at (w.heap.size) 0 (a0) (by simp)
  have x5 : w7.cell? ⟨w.heap.size, 1, none⟩ = some (.int .i64 (-1)) := h7.at (w.heap.size) 1 (-1) (by simp)
  have x6 : w7.cell? ⟨w.heap.size + 1, 0, none⟩ = some (.int .i64 (a0)) := h7.at (w.heap.size + 1) 0 (a0) (by simp)
  have x7 : w7.cell? ⟨w.heap.size + 1, 1, none⟩ = some (.int .i64 (b1)) := h7.at (w.heap.size + 1) 1 (b1) (by simp)
  go_wp2
  rw [rounds_succ]
  go_wp2_with fail
  refine (under_val _ _ _ _ false _ hu.out).mono ?_
  rintro e w8 ⟨rfl, g8⟩
  go_wp2
  go_ret
  exact ⟨rfl, h7.2.trans g8⟩

set_option maxHeartbeats 2000000 in
theorem tab_c (a0 b1 : Int) (w : World) (hk : Hid (lvl a0 (-1) = 1)) (hcmp : Hid (or2 (c3 (-1) a0) (c3 (-1) (-1)) = -1)) (x0 : ((-1 : Int) == a0) = false) (x1 : ((-1 : Int) == b1) = false) (hu : Hid (und a0 (-1) (-1) b1 = false)) :
    Calls Tryd.prog 6 #[.agg #[.int .i64 a0, .int .i64 (-1)], .agg #[.int .i64 (-1), .int .i64 b1]] w fun e w' => e = .returned (.bool true) ∧ Nw w w' := by
  have hW0 : Nw w ((w.alloc (.cells #[.int .i64 a0, .int .i64 (-1)] 24)).alloc (.cells #[.int .i64 (-1), .int .i64 b1] 24)) := ((Nw.refl _).alloc _).alloc _
  go_enter Tryd.func6, Tryd.ntmps6
  go_wp2_with fail
  refine (lives_ok _).mono ?_
  rintro e w' ⟨rfl, hg⟩
  (first | (replace hG := Nw.trans hG hg; clear hc hf) | have hG := hg)
  clear hg
  obtain ⟨hc, hf⟩ := hG.rules
  go_wp2_with fail
  refine (anc_tab _ _ hk.out).mono ?_
  rintro e w2 ⟨b, rfl, hn, hb, hg⟩
  replace hG := Nw.trans hG hg
  clear hc hf hg
  obtain ⟨hc, hf⟩ := hG.rules
  go_wp2_with fail
  refine (parent_tab _ _ hk.out).mono ?_
  rintro e w' ⟨rfl, g3⟩
  have hB := CL.step _ _ (CL.two w a0 (-1) ((-1)) (b1) 24) (hG.trans g3)
  have n0 := (hn.2 0 (by simp)).1
  have n1 := (hn.2 0 (by simp)).2
  simp only [Nat.zero_mul, Nat.zero_add, List.getElem_cons_zero] at n0 n1
  replace hB := (hB.cons (g3.keep n1)).cons (g3.keep n0)
  replace hB := CL.step _ _ hB ((Nw.refl _).alloc (.cells #[.int .i64 (-1), .int .i64 (-1)] 24))
  have m0 : (w'.alloc (.cells #[.int .i64 (-1), .int .i64 (-1)] 24)).cell? ⟨w'.heap.size, 0, none⟩ = some (.int .i64 (-1)) := by simp [go_sem]
  have m1 : (w'.alloc (.cells #[.int .i64 (-1), .int .i64 (-1)] 24)).cell? ⟨w'.heap.size, 1, none⟩ = some (.int .i64 (-1)) := by simp [go_sem]
  replace hB := (hB.cons m1).cons m0
  clear hc hf hG hn n0 n1 m0 m1 g3 hb
  go_wp2
  refine region_in (CL w [(w'.heap.size, 0, -1), (w'.heap.size, 1, -1), (b, 0, -1), (b, 1, -1), (w.heap.size, 0, a0), (w.heap.size, 1, -1), (w.heap.size + 1, 0, (-1)), (w.heap.size + 1, 1, b1)]) (by kernel_rfl) (by kernel_rfl) (CL.step _ _ hB (Nw.refl _).drew1) ?_
  have c0 : ∀ d : Wd (CL w [(w'.heap.size, 0, -1), (w'.heap.size, 1, -1), (b, 0, -1), (b, 1, -1), (w.heap.size, 0, a0), (w.heap.size, 1, -1), (w.heap.size + 1, 0, (-1)), (w.heap.size + 1, 1, b1)]), d.w.cell? ⟨w'.heap.size, 0, none⟩ = some (.int .i64 (-1)) := fun d => d.h.at (w'.heap.size) 0 (-1) (by simp)
  have c1 : ∀ d : Wd (CL w [(w'.heap.size, 0, -1), (w'.heap.size, 1, -1), (b, 0, -1), (b, 1, -1), (w.heap.size, 0, a0), (w.heap.size, 1, -1), (w.heap.size + 1, 0, (-1)), (w.heap.size + 1, 1, b1)]), d.w.cell? ⟨w'.heap.size, 1, none⟩ = some (.int .i64 (-1)) := fun d => d.h.at (w'.heap.size) 1 (-1) (by simp)
  have c2 : ∀ d : Wd (CL w [(w'.heap.size, 0, -1), (w'.heap.size, 1, -1), (b, 0, -1), (b, 1, -1), (w.heap.size, 0, a0), (w.heap.size, 1, -1), (w.heap.size + 1, 0, (-1)), (w.heap.size + 1, 1, b1)]), d.w.cell? ⟨b, 0, none⟩ = some (.int .i64 (-1)) := fun d => d.h.at (b) 0 (-1) (by simp)
  have c3 : ∀ d : Wd (CL w [(w'.heap.size, 0, -1), (w'.heap.size, 1, -1), (b, 0, -1), (b, 1, -1), (w.heap.size, 0, a0), (w.heap.size, 1, -1), (w.heap.size + 1, 0, (-1)), (w.heap.size + 1, 1, b1)]), d.w.cell? ⟨b, 1, none⟩ = some (.int .i64 (-1)) := fun d => d.h.at (b) 1 (-1) (by simp)
  have c4 : ∀ d : Wd (CL w [(w'.heap.size, 0, -1), (w'.heap.size, 1, -1), (b, 0, -1), (b, 1, -1), (w.heap.size, 0, a0), (w.heap.size, 1, -1), (w.heap.size + 1, 0, (-1)), (w.heap.size + 1, 1, b1)]), d.w.cell? ⟨w.heap.size, 0, none⟩ = some (.int .i64 (a0)) := fun d => d.h.at (w.heap.size) 0 (a0) (by simp)
  have c5 : ∀ d : Wd (CL w [(w'.heap.size, 0, -1), (w'.heap.size, 1, -1), (b, 0, -1), (b, 1, -1), (w.heap.size, 0, a0), (w.heap.size, 1, -1), (w.heap.size + 1, 0, (-1)), (w.heap.size + 1, 1, b1)]), d.w.cell? ⟨w.heap.size, 1, none⟩ = some (.int .i64 (-1)) := fun d => d.h.at (w.heap.size) 1 (-1) (by simp)
  have c6 : ∀ d : Wd (CL w [(w'.heap.size, 0, -1), (w'.heap.size, 1, -1), (b, 0, -1), (b, 1, -1), (w.heap.size, 0, a0), (w.heap.size, 1, -1), (w.heap.size + 1, 0, (-1)), (w.heap.size + 1, 1, b1)]), d.w.cell? ⟨w.heap.size + 1, 0, none⟩ = some (.int .i64 ((-1))) := fun d => d.h.at (w.heap.size + 1) 0 ((-1)) (by simp)
  have c7 : ∀ d : Wd (CL w [(w'.heap.size, 0, -1), (w'.heap.size, 1, -1), (b, 0, -1), (b, 1, -1), (w.heap.size, 0, a0), (w.heap.size, 1, -1), (w.heap.size + 1, 0, (-1)), (w.heap.size + 1, 1, b1)]), d.w.cell? ⟨w.heap.size + 1, 1, none⟩ = some (.int .i64 (b1)) := fun d => d.h.at (w.heap.size + 1) 1 (b1) (by simp)
  have hne : Nonempty (Wd (CL w [(w'.heap.size, 0, -1), (w'.heap.size, 1, -1), (b, 0, -1), (b, 1, -1), (w.heap.size, 0, a0), (w.heap.size, 1, -1), (w.heap.size + 1, 0, (-1)), (w.heap.size + 1, 1, b1)])) := ⟨⟨_, hB⟩⟩
  repeat (first | go_big_quiet_step ((first | exact quietN CL.step (level_val _ _ 1 _ hk.out) | exact quietN CL.step (anc_none _ _ _ (.inl lvl_db)) | exact quietN CL.step (same_nil _ _ _ _ _))) | quiet_step ((first | exact quietN CL.step (level_val _ _ 1 _ hk.out) | exact quietN CL.step (anc_none _ _ _ (.inl lvl_db)) | exact quietN CL.step (same_nil _ _ _ _ _))))
  refine wpQuiet_nil ?_
  intro d
  have h5 := d.h
  clear c0 c1 c2 c3 c4 c5 c6 c7 hne hB
  revert h5
  generalize d.w = w5
  intro h5
  have x0 : w5.cell? ⟨w'.heap.size, 0, none⟩ = some (.int .i64 (-1)) := h5.at (w'.heap.size) 0 (-1) (by simp)
  have x1 : w5.cell? ⟨w'.heap.size, 1, none⟩ = some (.int .i64 (-1)) := h5.at (w'.heap.size) 1 (-1) (by simp)
  have x2 : w5.cell? ⟨b, 0, none⟩ = some (.int .i64 (-1)) := h5.at (b) 0 (-1) (by simp)
  have x3 : w5.cell? ⟨b, 1, none⟩ = some (.int .i64 (-1)) := h5.at (b) 1 (-1) (by simp)
  have x4 : w5.cell? ⟨w.heap.size, 0, none⟩ = some (.int .i64 (a0)) := h5.at (w.heap.size) 0 (a0) (by simp)
  have x5 : w5.cell? ⟨w.heap.size, 1, none⟩ = some (.int .i64 (-1)) := h5.at (w.heap.size) 1 (-1) (by simp)
  have x6 : w5.cell? ⟨w.heap.size + 1, 0, none⟩ = some (.int .i64 ((-1))) := h5.at (w.heap.size + 1) 0 ((-1)) (by simp)
  have x7 : w5.cell? ⟨w.heap.size + 1, 1, none⟩ = some (.int .i64 (b1)) := h5.at (w.heap.size + 1) 1 (b1) (by simp)
  go_wp2
  refine wp_loop_rounds 2 ?_
  rw [rounds_succ]
  go_wp2
  clear x0 x1 x2 x3 x4 x5 x6 x7
  refine region_in (CL w [(w'.heap.size, 0, -1), (w'.heap.size, 1, -1), (b, 0, -1), (b, 1, -1), (w.heap.size, 0, a0), (w.heap.size, 1, -1), (w.heap.size + 1, 0, (-1)), (w.heap.size + 1, 1, b1)]) (by kernel_rfl) (by kernel_rfl) (CL.step _ _ h5 (Nw.refl _).drew1) ?_
  have c0 : ∀ d : Wd (CL w [(w'.heap.size, 0, -1), (w'.heap.size, 1, -1), (b, 0, -1), (b, 1, -1), (w.heap.size, 0, a0), (w.heap.size, 1, -1), (w.heap.size + 1, 0, (-1)), (w.heap.size + 1, 1, b1)]), d.w.cell? ⟨w'.heap.size, 0, none⟩ = some (.int .i64 (-1)) := fun d => d.h.at (w'.heap.size) 0 (-1) (by simp)
  have c1 : ∀ d : Wd (CL w [(w'.heap.size, 0, -1), (w'.heap.size, 1, -1), (b, 0, -1), (b, 1, -1), (w.heap.size, 0, a0), (w.heap.size, 1, -1), (w.heap.size + 1, 0, (-1)), (w.heap.size + 1, 1, b1)]), d.w.cell? ⟨w'.heap.size, 1, none⟩ = some (.int .i64 (-1)) := fun d => d.h.at (w'.heap.size) 1 (-1) (by simp)
  have c2 : ∀ d : Wd (CL w [(w'.heap.size, 0, -1), (w'.heap.size, 1, -1), (b, 0, -1), (b, 1, -1), (w.heap.size, 0, a0), (w.heap.size, 1, -1), (w.heap.size + 1, 0, (-1)), (w.heap.size + 1, 1, b1)]), d.w.cell? ⟨b, 0, none⟩ = some (.int .i64 (-1)) := fun d => d.h.at (b) 0 (-1) (by simp)
  have c3 : ∀ d : Wd (CL w [(w'.heap.size, 0, -1), (w'.heap.size, 1, -1), (b, 0, -1), (b, 1, -1), (w.heap.size, 0, a0), (w.heap.size, 1, -1), (w.heap.size + 1, 0, (-1)), (w.heap.size + 1, 1, b1)]), d.w.cell? ⟨b, 1, none⟩ = some (.int .i64 (-1)) := fun d => d.h.at (b) 1 (-1) (by simp)
  have c4 : ∀ d : Wd (CL w [(w'.heap.size, 0, -1), (w'.heap.size, 1, -1), (b, 0, -1), (b, 1, -1), (w.heap.size, 0, a0), (w.heap.size, 1, -1), (w.heap.size + 1, 0, (-1)), (w.heap.size + 1, 1, b1)]), d.w.cell? ⟨w.heap.size, 0, none⟩ = some (.int .i64 (a0)) := fun d => d.h.at (w.heap.size) 0 (a0) (by simp)
  have c5 : ∀ d : Wd (CL w [(w'.heap.size, 0, -1), (w'.heap.size, 1, -1), (b, 0, -1), (b, 1, -1), (w.heap.size, 0, a0), (w.heap.size, 1, -1), (w.heap.size + 1, 0, (-1)), (w.heap.size + 1, 1, b1)]), d.w.cell? ⟨w.heap.size, 1, none⟩ = some (.int .i64 (-1)) := fun d => d.h.at (w.heap.size) 1 (-1) (by simp)
  have c6 : ∀ d : Wd (CL w [(w'.heap.size, 0, -1), (w'.heap.size, 1, -1), (b, 0, -1), (b, 1, -1), (w.heap.size, 0, a0), (w.heap.size, 1, -1), (w.heap.size + 1, 0, (-1)), (w.heap.size + 1, 1, b1)]), d.w.cell? ⟨w.heap.size + 1, 0, none⟩ = some (.int .i64 ((-1))) := fun d => d.h.at (w.heap.size + 1) 0 ((-1)) (by simp)
  have c7 : ∀ d : Wd (CL w [(w'.heap.size, 0, -1), (w'.heap.size, 1, -1), (b, 0, -1), (b, 1, -1), (w.heap.size, 0, a0), (w.heap.size, 1, -1), (w.heap.size + 1, 0, (-1)), (w.heap.size + 1, 1, b1)]), d.w.cell? ⟨w.heap.size + 1, 1, none⟩ = some (.int .i64 (b1)) := fun d => d.h.at (w.heap.size + 1) 1 (b1) (by simp)
  have hne : Nonempty (Wd (CL w [(w'.heap.size, 0, -1), (w'.heap.size, 1, -1), (b, 0, -1), (b, 1, -1), (w.heap.size, 0, a0), (w.heap.size, 1, -1), (w.heap.size + 1, 0, (-1)), (w.heap.size + 1, 1, b1)])) := ⟨⟨_, h5⟩⟩
  repeat (first | go_big_quiet_step ((first | exact quietN CL.step (level_db _) | exact quietN CL.step (compare_val _ _ _ _ (-1) _ hcmp.out))) | quiet_step ((first | exact quietN CL.step (level_db _) | exact quietN CL.step (compare_val _ _ _ _ (-1) _ hcmp.out))))
  refine wpQuiet_nil ?_
  intro d
  have h6 := d.h
  clear c0 c1 c2 c3 c4 c5 c6 c7 hne h5
  revert h6
  generalize d.w = w6
  intro h6
  have x0 : w6.cell? ⟨w'.heap.size, 0, none⟩ = some (.int .i64 (-1)) := h6.at (w'.heap.size) 0 (-1) (by simp)
  have x1 : w6.cell? ⟨w'.heap.size, 1, none⟩ = some (.int .i64 (-1)) := h6.at (w'.heap.size) 1 (-1) (by simp)
  have x2 : w6.cell? ⟨b, 0, none⟩ = some (.int .i64 (-1)) := h6.at (b) 0 (-1) (by simp)
  have x3 : w6.cell? ⟨b, 1, none⟩ = some (.int .i64 (-1)) := h6.at (b) 1 (-1) (by simp)
  have x4 : w6.cell? ⟨w.heap.size, 0, none⟩ = some (.int .i64 (a0)) := h6.at (w.heap.size) 0 (a0) (by simp)
  have x5 : w6.cell? ⟨w.heap.size, 1, none⟩ = some (.int .i64 (-1)) := h6.at (w.heap.size) 1 (-1) (by simp)
  have x6 : w6.cell? ⟨w.heap.size + 1, 0, none⟩ = some (.int .i64 ((-1))) := h6.at (w.heap.size + 1) 0 ((-1)) (by simp)
  have x7 : w6.cell? ⟨w.heap.size + 1, 1, none⟩ = some (.int .i64 (b1)) := h6.at (w.heap.size + 1) 1 (b1) (by simp)
  go_wp2
  clear x0 x1 x2 x3 x4 x5 x6 x7
  refine region_in (CL w [(w'.heap.size, 0, -1), (w'.heap.size, 1, -1), (b, 0, -1), (b, 1, -1), (w.heap.size, 0, a0), (w.heap.size, 1, -1), (w.heap.size + 1, 0, (-1)), (w.heap.size + 1, 1, b1)]) (by kernel_rfl) (by kernel_rfl) (CL.step _ _ h6 (Nw.refl _).drew1) ?_
  have c0 : ∀ d : Wd (CL w [(w'.heap.size, 0, -1), (w'.heap.size, 1, -1), (b, 0, -1), (b, 1, -1), (w.heap.size, 0, a0), (w.heap.size, 1, -1), (w.heap.size + 1, 0, (-1)), (w.heap.size + 1, 1, b1)]), d.w.cell? ⟨w'.heap.size, 0, none⟩ = some (.int .i64 (-1)) := fun d => d.h.at (w'.heap.size) 0 (-1) (by simp)
  have c1 : ∀ d : Wd (CL w [(w'.heap.size, 0, -1), (w'.heap.size, 1, -1), (b, 0, -1), (b, 1, -1), (w.heap.size, 0, a0), (w.heap.size, 1, -1), (w.heap.size + 1, 0, (-1)), (w.heap.size + 1, 1, b1)]), d.w.cell? ⟨w'.heap.size, 1, none⟩ = some (.int .i64 (-1)) := fun d => d.h.at (w'.heap.size) 1 (-1) (by simp)
  have c2 : ∀ d : Wd (CL w [(w'.heap.size, 0, -1), (w'.heap.size, 1, -1), (b, 0, -1), (b, 1, -1), (w.heap.size, 0, a0), (w.heap.size, 1, -1), (w.heap.size + 1, 0, (-1)), (w.heap.size + 1, 1, b1)]), d.w.cell? ⟨b, 0, none⟩ = some (.int .i64 (-1)) := fun d => d.h.at (b) 0 (-1) (by simp)
  have c3 : ∀ d : Wd (CL w [(w'.heap.size, 0, -1), (w'.heap.size, 1, -1), (b, 0, -1), (b, 1, -1), (w.heap.size, 0, a0), (w.heap.size, 1, -1), (w.heap.size + 1, 0, (-1)), (w.heap.size + 1, 1, b1)]), d.w.cell? ⟨b, 1, none⟩ = some (.int .i64 (-1)) := fun d => d.h.at (b) 1 (-1) (by simp)
  have c4 : ∀ d : Wd (CL w [(w'.heap.size, 0, -1), (w'.heap.size, 1, -1), (b, 0, -1), (b, 1, -1), (w.heap.size, 0, a0), (w.heap.size, 1, -1), (w.heap.size + 1, 0, (-1)), (w.heap.size + 1, 1, b1)]), d.w.cell? ⟨w.heap.size, 0, none⟩ = some (.int .i64 (a0)) := fun d => d.h.at (w.heap.size) 0 (a0) (by simp)
  have c5 : ∀ d : Wd (CL w [(w'.heap.size, 0, -1), (w'.heap.size, 1, -1), (b, 0, -1), (b, 1, -1), (w.heap.size, 0, a0), (w.heap.size, 1, -1), (w.heap.size + 1, 0, (-1)), (w.heap.size + 1, 1, b1)]), d.w.cell? ⟨w.heap.size, 1, none⟩ = some (.int .i64 (-1)) := fun d => d.h.at (w.heap.size) 1 (-1) (by simp)
  have c6 : ∀ d : Wd (CL w [(w'.heap.size, 0, -1), (w'.heap.size, 1, -1), (b, 0, -1), (b, 1, -1), (w.heap.size, 0, a0), (w.heap.size, 1, -1), (w.heap.size + 1, 0, (-1)), (w.heap.size + 1, 1, b1)]), d.w.cell? ⟨w.heap.size + 1, 0, none⟩ = some (.int .i64 ((-1))) := fun d => d.h.at (w.heap.size + 1) 0 ((-1)) (by simp)
  have c7 : ∀ d : Wd (CL w [(w'.heap.size, 0, -1), (w'.heap.size, 1, -1), (b, 0, -1), (b, 1, -1), (w.heap.size, 0, a0), (w.heap.size, 1, -1), (w.heap.size + 1, 0, (-1)), (w.heap.size + 1, 1, b1)]), d.w.cell? ⟨w.heap.size + 1, 1, none⟩ = some (.int .i64 (b1)) := fun d => d.h.at (w.heap.size + 1) 1 (b1) (by simp)
  have hne : Nonempty (Wd (CL w [(w'.heap.size, 0, -1), (w'.heap.size, 1, -1), (b, 0, -1), (b, 1, -1), (w.heap.size, 0, a0), (w.heap.size, 1, -1), (w.heap.size + 1, 0, (-1)), (w.heap.size + 1, 1, b1)])) := ⟨⟨_, h6⟩⟩
  repeat (first | go_big_quiet_step (fail) | quiet_step (fail))
  refine wpQuiet_nil ?_
  intro d
  have h7 := d.h
  clear c0 c1 c2 c3 c4 c5 c6 c7 hne h6
  revert h7
  generalize d.w = w7
  intro h7
  have x0 : w7.cell? ⟨w'.heap.size, 0, none⟩ = some (.int .i64 (-1)) := h7.at (w'.heap.size) 0 (-1) (by simp)
  have x1 : w7.cell? ⟨w'.heap.size, 1, none⟩ = some (.int .i64 (-1)) := h7.at (w'.heap.size) 1 (-1) (by simp)
  have x2 : w7.cell? ⟨b, 0, none⟩ = some (.int .i64 (-1)) := h7.at (b) 0 (-1) (by simp)
  have x3 : w7.cell? ⟨b, 1, none⟩ = some (.int .i64 (-1)) := h7.at (b) 1 (-1) (by simp)
  have x4 : w7.cell? ⟨w.heap.size, 0, none⟩ = some (.int .i64 (a0)) := h7.at (w.heap.size) 0 (a0) (by simp)
  have x5 : w7.cell? ⟨w.heap.size, 1, none⟩ = some (.int .i64 (-1)) := h7.at (w.heap.size) 1 (-1) (by simp)
  have x6 : w7.cell? ⟨w.heap.size + 1, 0, none⟩ = some (.int .i64 ((-1))) := h7.at (w.heap.size + 1) 0 ((-1)) (by simp)
  have x7 : w7.cell? ⟨w.heap.size + 1, 1, none⟩ = some (.int .i64 (b1)) := h7.at (w.heap.size + 1) 1 (b1) (by simp)
  go_wp2
  rw [rounds_succ]
  go_wp2_with fail
  refine (under_val _ _ _ _ false _ hu.out).mono ?_
  rintro e w8 ⟨rfl, g8⟩
  go_wp2
  go_ret
  exact ⟨rfl, h7.2.trans g8⟩
end Go.Proofs.YtdcjhjmbfpkigaaDoor.nameAbove
