/- Ways of NameAbove. -/
import Derived.Test.YtdcjhjmbfpkigaaDoorNameAboveB
namespace Go.Proofs.YtdcjhjmbfpkigaaDoor.nameAbove
open Go.ChangeShapes Go.WideShapes Go.ChangeAt Go.RowKit
set_option linter.unusedVariables false      -- a walk need not use every fact

set_option maxHeartbeats 4000000 in
theorem rec_self (a0 b0 : Int) (w : World) (hk : Hid (lvl a0 b0 = 2)) (hk1 : Hid (lvl a0 (-1) = 1)) (hcmp : Hid (or2 (c3 (-1) a0) (c3 (-1) b0) = -1)) (hcm2 : Hid (or2 (c3 a0 a0) (c3 (-1) b0) = -1)) (hu : Hid (und a0 b0 a0 b0 = true)) :
    Calls Tryd.prog 6 #[.agg #[.int .i64 a0, .int .i64 b0], .agg #[.int .i64 a0, .int .i64 b0]] w fun e w' => e = .returned (.bool true) ∧ Nw w w' := by
  have hW0 : Nw w ((w.alloc (.cells #[.int .i64 a0, .int .i64 b0] 24)).alloc (.cells #[.int .i64 a0, .int .i64 b0] 24)) := ((Nw.refl _).alloc _).alloc _
  go_enter Tryd.func6, Tryd.ntmps6
  go_wp2_with fail
  refine (lives_ok _).mono ?_
  rintro e w' ⟨rfl, hg⟩
  (first | (replace hG := Nw.trans hG hg; clear hc hf) | have hG := hg)
  clear hg
  obtain ⟨hc, hf⟩ := hG.rules
  go_wp2_with fail
  refine (anc_rec _ _ _ hk.out).mono ?_
  rintro e w2 ⟨b, rfl, hn, hb, hg⟩
  replace hG := Nw.trans hG hg
  clear hc hf hg
  obtain ⟨hc, hf⟩ := hG.rules
  go_wp2_with fail
  refine (parent_rec _ _ _ hk.out).mono ?_
  rintro e wp ⟨rfl, g3⟩
  have hB := CL.step _ _ (CL.two w a0 b0 (a0) (b0) 24) (hG.trans g3)
  have n0 := (hn.2 0 (by simp)).1
  have n1 := (hn.2 0 (by simp)).2
  have n2 := (hn.2 1 (by simp)).1
  have n3 := (hn.2 1 (by simp)).2
  simp only [Nat.zero_mul, Nat.one_mul, Nat.zero_add, List.getElem_cons_zero, List.getElem_cons_succ] at n0 n1 n2 n3
  replace hB := (((hB.cons (g3.keep n3)).cons (g3.keep n2)).cons (g3.keep n1)).cons (g3.keep n0)
  replace hB := CL.step _ _ hB ((Nw.refl _).alloc (.cells #[.int .i64 a0, .int .i64 (-1)] 24))
  have m0 : (wp.alloc (.cells #[.int .i64 a0, .int .i64 (-1)] 24)).cell? ⟨wp.heap.size, 0, none⟩ = some (.int .i64 a0) := by simp [go_sem]
  have m1 : (wp.alloc (.cells #[.int .i64 a0, .int .i64 (-1)] 24)).cell? ⟨wp.heap.size, 1, none⟩ = some (.int .i64 (-1)) := by simp [go_sem]
  replace hB := (hB.cons m1).cons m0
  clear hc hf hG hn n0 n1 n2 n3 m0 m1 g3 hb
  go_wp2
  have k1 : IntKind.i64.wrap ((2 : Int) - 1) = 1 := by decide
  have k2 : IntKind.i64.wrap (1 : Int) = 1 := by decide
  have c0 : ∀ x, CL w [(wp.heap.size, 0, a0), (wp.heap.size, 1, -1), (b, 0, -1), (b, 1, -1), (b, 2, a0), (b, 3, -1), (w.heap.size, 0, a0), (w.heap.size, 1, b0), (w.heap.size + 1, 0, a0), (w.heap.size + 1, 1, b0)] x → x.cell? ⟨wp.heap.size, 0, none⟩ = some (.int .i64 (a0)) := fun x h => h.at (wp.heap.size) 0 (a0) (by simp)
  have c1 : ∀ x, CL w [(wp.heap.size, 0, a0), (wp.heap.size, 1, -1), (b, 0, -1), (b, 1, -1), (b, 2, a0), (b, 3, -1), (w.heap.size, 0, a0), (w.heap.size, 1, b0), (w.heap.size + 1, 0, a0), (w.heap.size + 1, 1, b0)] x → x.cell? ⟨wp.heap.size, 1, none⟩ = some (.int .i64 (-1)) := fun x h => h.at (wp.heap.size) 1 (-1) (by simp)
  have c2 : ∀ x, CL w [(wp.heap.size, 0, a0), (wp.heap.size, 1, -1), (b, 0, -1), (b, 1, -1), (b, 2, a0), (b, 3, -1), (w.heap.size, 0, a0), (w.heap.size, 1, b0), (w.heap.size + 1, 0, a0), (w.heap.size + 1, 1, b0)] x → x.cell? ⟨b, 0, none⟩ = some (.int .i64 (-1)) := fun x h => h.at (b) 0 (-1) (by simp)
  have c3 : ∀ x, CL w [(wp.heap.size, 0, a0), (wp.heap.size, 1, -1), (b, 0, -1), (b, 1, -1), (b, 2, a0), (b, 3, -1), (w.heap.size, 0, a0), (w.heap.size, 1, b0), (w.heap.size + 1, 0, a0), (w.heap.size + 1, 1, b0)] x → x.cell? ⟨b, 1, none⟩ = some (.int .i64 (-1)) := fun x h => h.at (b) 1 (-1) (by simp)
  have c4 : ∀ x, CL w [(wp.heap.size, 0, a0), (wp.heap.size, 1, -1), (b, 0, -1), (b, 1, -1), (b, 2, a0), (b, 3, -1), (w.heap.size, 0, a0), (w.heap.size, 1, b0), (w.heap.size + 1, 0, a0), (w.heap.size + 1, 1, b0)] x → x.cell? ⟨b, 2, none⟩ = some (.int .i64 (a0)) := fun x h => h.at (b) 2 (a0) (by simp)
  have c5 : ∀ x, CL w [(wp.heap.size, 0, a0), (wp.heap.size, 1, -1), (b, 0, -1), (b, 1, -1), (b, 2, a0), (b, 3, -1), (w.heap.size, 0, a0), (w.heap.size, 1, b0), (w.heap.size + 1, 0, a0), (w.heap.size + 1, 1, b0)] x → x.cell? ⟨b, 3, none⟩ = some (.int .i64 (-1)) := fun x h => h.at (b) 3 (-1) (by simp)
  have c6 : ∀ x, CL w [(wp.heap.size, 0, a0), (wp.heap.size, 1, -1), (b, 0, -1), (b, 1, -1), (b, 2, a0), (b, 3, -1), (w.heap.size, 0, a0), (w.heap.size, 1, b0), (w.heap.size + 1, 0, a0), (w.heap.size + 1, 1, b0)] x → x.cell? ⟨w.heap.size, 0, none⟩ = some (.int .i64 (a0)) := fun x h => h.at (w.heap.size) 0 (a0) (by simp)
  have c7 : ∀ x, CL w [(wp.heap.size, 0, a0), (wp.heap.size, 1, -1), (b, 0, -1), (b, 1, -1), (b, 2, a0), (b, 3, -1), (w.heap.size, 0, a0), (w.heap.size, 1, b0), (w.heap.size + 1, 0, a0), (w.heap.size + 1, 1, b0)] x → x.cell? ⟨w.heap.size, 1, none⟩ = some (.int .i64 (b0)) := fun x h => h.at (w.heap.size) 1 (b0) (by simp)
  have c8 : ∀ x, CL w [(wp.heap.size, 0, a0), (wp.heap.size, 1, -1), (b, 0, -1), (b, 1, -1), (b, 2, a0), (b, 3, -1), (w.heap.size, 0, a0), (w.heap.size, 1, b0), (w.heap.size + 1, 0, a0), (w.heap.size + 1, 1, b0)] x → x.cell? ⟨w.heap.size + 1, 0, none⟩ = some (.int .i64 (a0)) := fun x h => h.at (w.heap.size + 1) 0 (a0) (by simp)
  have c9 : ∀ x, CL w [(wp.heap.size, 0, a0), (wp.heap.size, 1, -1), (b, 0, -1), (b, 1, -1), (b, 2, a0), (b, 3, -1), (w.heap.size, 0, a0), (w.heap.size, 1, b0), (w.heap.size + 1, 0, a0), (w.heap.size + 1, 1, b0)] x → x.cell? ⟨w.heap.size + 1, 1, none⟩ = some (.int .i64 (b0)) := fun x h => h.at (w.heap.size + 1) 1 (b0) (by simp)
  go_region_held3 (fun x => CL w [(wp.heap.size, 0, a0), (wp.heap.size, 1, -1), (b, 0, -1), (b, 1, -1), (b, 2, a0), (b, 3, -1), (w.heap.size, 0, a0), (w.heap.size, 1, b0), (w.heap.size + 1, 0, a0), (w.heap.size + 1, 1, b0)] x) (first | assumption | exact CL.step' (Nw.refl _).drew1 hB | exact CL.step' (by assumption) (by assumption))
    (first | (go_at_call 18; refine (level_val _ _ 2 _ hk.out).mono ?_; rintro e w' ⟨rfl, hg⟩) | (go_at_call 23; refine (anc_tab _ _ hk1.out).mono ?_; rintro e w' ⟨b', rfl, hn, hb, hg⟩) | (go_at_call 30; refine (same_names b 0 2 b' 0 1 [(-1, -1)] _ (ncells_one (c2 _ (by assumption)) (c3 _ (by assumption))) hn (by simp)).mono ?_; rintro e w' ⟨rfl, hg⟩))
  rename_i h5
  clear c0 c1 c2 c3 c4 c5 c6 c7 c8 c9 k1 k2 hB
  have x0 : w'.cell? ⟨wp.heap.size, 0, none⟩ = some (.int .i64 (a0)) := h5.at (wp.heap.size) 0 (a0) (by simp)
  have x1 : w'.cell? ⟨wp.heap.size, 1, none⟩ = some (.int .i64 (-1)) := h5.at (wp.heap.size) 1 (-1) (by simp)
  have x2 : w'.cell? ⟨b, 0, none⟩ = some (.int .i64 (-1)) := h5.at (b) 0 (-1) (by simp)
  have x3 : w'.cell? ⟨b, 1, none⟩ = some (.int .i64 (-1)) := h5.at (b) 1 (-1) (by simp)
  have x4 : w'.cell? ⟨b, 2, none⟩ = some (.int .i64 (a0)) := h5.at (b) 2 (a0) (by simp)
  have x5 : w'.cell? ⟨b, 3, none⟩ = some (.int .i64 (-1)) := h5.at (b) 3 (-1) (by simp)
  have x6 : w'.cell? ⟨w.heap.size, 0, none⟩ = some (.int .i64 (a0)) := h5.at (w.heap.size) 0 (a0) (by simp)
  have x7 : w'.cell? ⟨w.heap.size, 1, none⟩ = some (.int .i64 (b0)) := h5.at (w.heap.size) 1 (b0) (by simp)
  have x8 : w'.cell? ⟨w.heap.size + 1, 0, none⟩ = some (.int .i64 (a0)) := h5.at (w.heap.size + 1) 0 (a0) (by simp)
  have x9 : w'.cell? ⟨w.heap.size + 1, 1, none⟩ = some (.int .i64 (b0)) := h5.at (w.heap.size + 1) 1 (b0) (by simp)
  go_wp2
  refine wp_loop_rounds 3 ?_
  rw [rounds_succ]
  go_wp2
  clear x0 x1 x2 x3 x4 x5 x6 x7 x8 x9
  refine region_in (CL w [(wp.heap.size, 0, a0), (wp.heap.size, 1, -1), (b, 0, -1), (b, 1, -1), (b, 2, a0), (b, 3, -1), (w.heap.size, 0, a0), (w.heap.size, 1, b0), (w.heap.size + 1, 0, a0), (w.heap.size + 1, 1, b0)]) (by kernel_rfl) (by kernel_rfl) (CL.step _ _ h5 (Nw.refl _).drew1) ?_
  have c0 : ∀ d : Wd (CL w [(wp.heap.size, 0, a0), (wp.heap.size, 1, -1), (b, 0, -1), (b, 1, -1), (b, 2, a0), (b, 3, -1), (w.heap.size, 0, a0), (w.heap.size, 1, b0), (w.heap.size + 1, 0, a0), (w.heap.size + 1, 1, b0)]), d.w.cell? ⟨wp.heap.size, 0, none⟩ = some (.int .i64 (a0)) := fun d => d.h.at (wp.heap.size) 0 (a0) (by simp)
  have c1 : ∀ d : Wd (CL w [(wp.heap.size, 0, a0), (wp.heap.size, 1, -1), (b, 0, -1), (b, 1, -1), (b, 2, a0), (b, 3, -1), (w.heap.size, 0, a0), (w.heap.size, 1, b0), (w.heap.size + 1, 0, a0), (w.heap.size + 1, 1, b0)]), d.w.cell? ⟨wp.heap.size, 1, none⟩ = some (.int .i64 (-1)) := fun d => d.h.at (wp.heap.size) 1 (-1) (by simp)
  have c2 : ∀ d : Wd (CL w [(wp.heap.size, 0, a0), (wp.heap.size, 1, -1), (b, 0, -1), (b, 1, -1), (b, 2, a0), (b, 3, -1), (w.heap.size, 0, a0), (w.heap.size, 1, b0), (w.heap.size + 1, 0, a0), (w.heap.size + 1, 1, b0)]), d.w.cell? ⟨b, 0, none⟩ = some (.int .i64 (-1)) := fun d => d.h.at (b) 0 (-1) (by simp)
  have c3 : ∀ d : Wd (CL w [(wp.heap.size, 0, a0), (wp.heap.size, 1, -1), (b, 0, -1), (b, 1, -1), (b, 2, a0), (b, 3, -1), (w.heap.size, 0, a0), (w.heap.size, 1, b0), (w.heap.size + 1, 0, a0), (w.heap.size + 1, 1, b0)]), d.w.cell? ⟨b, 1, none⟩ = some (.int .i64 (-1)) := fun d => d.h.at (b) 1 (-1) (by simp)
  have c4 : ∀ d : Wd (CL w [(wp.heap.size, 0, a0), (wp.heap.size, 1, -1), (b, 0, -1), (b, 1, -1), (b, 2, a0), (b, 3, -1), (w.heap.size, 0, a0), (w.heap.size, 1, b0), (w.heap.size + 1, 0, a0), (w.heap.size + 1, 1, b0)]), d.w.cell? ⟨b, 2, none⟩ = some (.int .i64 (a0)) := fun d => d.h.at (b) 2 (a0) (by simp)
  have c5 : ∀ d : Wd (CL w [(wp.heap.size, 0, a0), (wp.heap.size, 1, -1), (b, 0, -1), (b, 1, -1), (b, 2, a0), (b, 3, -1), (w.heap.size, 0, a0), (w.heap.size, 1, b0), (w.heap.size + 1, 0, a0), (w.heap.size + 1, 1, b0)]), d.w.cell? ⟨b, 3, none⟩ = some (.int .i64 (-1)) := fun d => d.h.at (b) 3 (-1) (by simp)
  have c6 : ∀ d : Wd (CL w [(wp.heap.size, 0, a0), (wp.heap.size, 1, -1), (b, 0, -1), (b, 1, -1), (b, 2, a0), (b, 3, -1), (w.heap.size, 0, a0), (w.heap.size, 1, b0), (w.heap.size + 1, 0, a0), (w.heap.size + 1, 1, b0)]), d.w.cell? ⟨w.heap.size, 0, none⟩ = some (.int .i64 (a0)) := fun d => d.h.at (w.heap.size) 0 (a0) (by simp)
  have c7 : ∀ d : Wd (CL w [(wp.heap.size, 0, a0), (wp.heap.size, 1, -1), (b, 0, -1), (b, 1, -1), (b, 2, a0), (b, 3, -1), (w.heap.size, 0, a0), (w.heap.size, 1, b0), (w.heap.size + 1, 0, a0), (w.heap.size + 1, 1, b0)]), d.w.cell? ⟨w.heap.size, 1, none⟩ = some (.int .i64 (b0)) := fun d => d.h.at (w.heap.size) 1 (b0) (by simp)
  have c8 : ∀ d : Wd (CL w [(wp.heap.size, 0, a0), (wp.heap.size, 1, -1), (b, 0, -1), (b, 1, -1), (b, 2, a0), (b, 3, -1), (w.heap.size, 0, a0), (w.heap.size, 1, b0), (w.heap.size + 1, 0, a0), (w.heap.size + 1, 1, b0)]), d.w.cell? ⟨w.heap.size + 1, 0, none⟩ = some (.int .i64 (a0)) := fun d => d.h.at (w.heap.size + 1) 0 (a0) (by simp)
  have c9 : ∀ d : Wd (CL w [(wp.heap.size, 0, a0), (wp.heap.size, 1, -1), (b, 0, -1), (b, 1, -1), (b, 2, a0), (b, 3, -1), (w.heap.size, 0, a0), (w.heap.size, 1, b0), (w.heap.size + 1, 0, a0), (w.heap.size + 1, 1, b0)]), d.w.cell? ⟨w.heap.size + 1, 1, none⟩ = some (.int .i64 (b0)) := fun d => d.h.at (w.heap.size + 1) 1 (b0) (by simp)
  have hne : Nonempty (Wd (CL w [(wp.heap.size, 0, a0), (wp.heap.size, 1, -1), (b, 0, -1), (b, 1, -1), (b, 2, a0), (b, 3, -1), (w.heap.size, 0, a0), (w.heap.size, 1, b0), (w.heap.size + 1, 0, a0), (w.heap.size + 1, 1, b0)])) := ⟨⟨_, h5⟩⟩
  repeat (first | go_big_quiet_step ((first | exact quietN CL.step (level_db _) | exact quietN CL.step (compare_val _ _ _ _ (-1) _ hcmp.out))) | quiet_step ((first | exact quietN CL.step (level_db _) | exact quietN CL.step (compare_val _ _ _ _ (-1) _ hcmp.out))))
  refine wpQuiet_nil ?_
  intro d
  have h6 := d.h
  clear c0 c1 c2 c3 c4 c5 c6 c7 c8 c9 hne h5
  revert h6
  generalize d.w = w6
  intro h6
  have x0 : w6.cell? ⟨wp.heap.size, 0, none⟩ = some (.int .i64 (a0)) := h6.at (wp.heap.size) 0 (a0) (by simp)
  have x1 : w6.cell? ⟨wp.heap.size, 1, none⟩ = some (.int .i64 (-1)) := h6.at (wp.heap.size) 1 (-1) (by simp)
  have x2 : w6.cell? ⟨b, 0, none⟩ = some (.int .i64 (-1)) := h6.at (b) 0 (-1) (by simp)
  have x3 : w6.cell? ⟨b, 1, none⟩ = some (.int .i64 (-1)) := h6.at (b) 1 (-1) (by simp)
  have x4 : w6.cell? ⟨b, 2, none⟩ = some (.int .i64 (a0)) := h6.at (b) 2 (a0) (by simp)
  have x5 : w6.cell? ⟨b, 3, none⟩ = some (.int .i64 (-1)) := h6.at (b) 3 (-1) (by simp)
  have x6 : w6.cell? ⟨w.heap.size, 0, none⟩ = some (.int .i64 (a0)) := h6.at (w.heap.size) 0 (a0) (by simp)
  have x7 : w6.cell? ⟨w.heap.size, 1, none⟩ = some (.int .i64 (b0)) := h6.at (w.heap.size) 1 (b0) (by simp)
  have x8 : w6.cell? ⟨w.heap.size + 1, 0, none⟩ = some (.int .i64 (a0)) := h6.at (w.heap.size + 1) 0 (a0) (by simp)
  have x9 : w6.cell? ⟨w.heap.size + 1, 1, none⟩ = some (.int .i64 (b0)) := h6.at (w.heap.size + 1) 1 (b0) (by simp)
  go_wp2
  clear x0 x1 x2 x3 x4 x5 x6 x7 x8 x9
  refine region_in (CL w [(wp.heap.size, 0, a0), (wp.heap.size, 1, -1), (b, 0, -1), (b, 1, -1), (b, 2, a0), (b, 3, -1), (w.heap.size, 0, a0), (w.heap.size, 1, b0), (w.heap.size + 1, 0, a0), (w.heap.size + 1, 1, b0)]) (by kernel_rfl) (by kernel_rfl) (CL.step _ _ h6 (Nw.refl _).drew1) ?_
  have c0 : ∀ d : Wd (CL w [(wp.heap.size, 0, a0), (wp.heap.size, 1, -1), (b, 0, -1), (b, 1, -1), (b, 2, a0), (b, 3, -1), (w.heap.size, 0, a0), (w.heap.size, 1, b0), (w.heap.size + 1, 0, a0), (w.heap.size + 1, 1, b0)]), d.w.cell? ⟨wp.heap.size, 0, none⟩ = some (.int .i64 (a0)) := fun d => d.h.at (wp.heap.size) 0 (a0) (by simp)
  have c1 : ∀ d : Wd (CL w [(wp.heap.size, 0, a0), (wp.heap.size, 1, -1), (b, 0, -1), (b, 1, -1), (b, 2, a0), (b, 3, -1), (w.heap.size, 0, a0), (w.heap.size, 1, b0), (w.heap.size + 1, 0, a0), (w.heap.size + 1, 1, b0)]), d.w.cell? ⟨wp.heap.size, 1, none⟩ = some (.int .i64 (-1)) := fun d => d.h.at (wp.heap.size) 1 (-1) (by simp)
  have c2 : ∀ d : Wd (CL w [(wp.heap.size, 0, a0), (wp.heap.size, 1, -1), (b, 0, -1), (b, 1, -1), (b, 2, a0), (b, 3, -1), (w.heap.size, 0, a0), (w.heap.size, 1, b0), (w.heap.size + 1, 0, a0), (w.heap.size + 1, 1, b0)]), d.w.cell? ⟨b, 0, none⟩ = some (.int .i64 (-1)) := fun d => d.h.at (b) 0 (-1) (by simp)
  have c3 : ∀ d : Wd (CL w [(wp.heap.size, 0, a0), (wp.heap.size, 1, -1), (b, 0, -1), (b, 1, -1), (b, 2, a0), (b, 3, -1), (w.heap.size, 0, a0), (w.heap.size, 1, b0), (w.heap.size + 1, 0, a0), (w.heap.size + 1, 1, b0)]), d.w.cell? ⟨b, 1, none⟩ = some (.int .i64 (-1)) := fun d => d.h.at (b) 1 (-1) (by simp)
  have c4 : ∀ d : Wd (CL w [(wp.heap.size, 0, a0), (wp.heap.size, 1, -1), (b, 0, -1), (b, 1, -1), (b, 2, a0), (b, 3, -1), (w.heap.size, 0, a0), (w.heap.size, 1, b0), (w.heap.size + 1, 0, a0), (w.heap.size + 1, 1, b0)]), d.w.cell? ⟨b, 2, none⟩ = some (.int .i64 (a0)) := fun d => d.h.at (b) 2 (a0) (by simp)
  have c5 : ∀ d : Wd (CL w [(wp.heap.size, 0, a0), (wp.heap.size, 1, -1), (b, 0, -1), (b, 1, -1), (b, 2, a0), (b, 3, -1), (w.heap.size, 0, a0), (w.heap.size, 1, b0), (w.heap.size + 1, 0, a0), (w.heap.size + 1, 1, b0)]), d.w.cell? ⟨b, 3, none⟩ = some (.int .i64 (-1)) := fun d => d.h.at (b) 3 (-1) (by simp)
  have c6 : ∀ d : Wd (CL w [(wp.heap.size, 0, a0), (wp.heap.size, 1, -1), (b, 0, -1), (b, 1, -1), (b, 2, a0), (b, 3, -1), (w.heap.size, 0, a0), (w.heap.size, 1, b0), (w.heap.size + 1, 0, a0), (w.heap.size + 1, 1, b0)]), d.w.cell? ⟨w.heap.size, 0, none⟩ = some (.int .i64 (a0)) := fun d => d.h.at (w.heap.size) 0 (a0) (by simp)
  have c7 : ∀ d : Wd (CL w [(wp.heap.size, 0, a0), (wp.heap.size, 1, -1), (b, 0, -1), (b, 1, -1), (b, 2, a0), (b, 3, -1), (w.heap.size, 0, a0), (w.heap.size, 1, b0), (w.heap.size + 1, 0, a0), (w.heap.size + 1, 1, b0)]), d.w.cell? ⟨w.heap.size, 1, none⟩ = some (.int .i64 (b0)) := fun d => d.h.at (w.heap.size) 1 (b0) (by simp)
  have c8 : ∀ d : Wd (CL w [(wp.heap.size, 0, a0), (wp.heap.size, 1, -1), (b, 0, -1), (b, 1, -1), (b, 2, a0), (b, 3, -1), (w.heap.size, 0, a0), (w.heap.size, 1, b0), (w.heap.size + 1, 0, a0), (w.heap.size + 1, 1, b0)]), d.w.cell? ⟨w.heap.size + 1, 0, none⟩ = some (.int .i64 (a0)) := fun d => d.h.at (w.heap.size + 1) 0 (a0) (by simp)
  have c9 : ∀ d : Wd (CL w [(wp.heap.size, 0, a0), (wp.heap.size, 1, -1), (b, 0, -1), (b, 1, -1), (b, 2, a0), (b, 3, -1), (w.heap.size, 0, a0), (w.heap.size, 1, b0), (w.heap.size + 1, 0, a0), (w.heap.size + 1, 1, b0)]), d.w.cell? ⟨w.heap.size + 1, 1, none⟩ = some (.int .i64 (b0)) := fun d => d.h.at (w.heap.size + 1) 1 (b0) (by simp)
  have hne : Nonempty (Wd (CL w [(wp.heap.size, 0, a0), (wp.heap.size, 1, -1), (b, 0, -1), (b, 1, -1), (b, 2, a0), (b, 3, -1), (w.heap.size, 0, a0), (w.heap.size, 1, b0), (w.heap.size + 1, 0, a0), (w.heap.size + 1, 1, b0)])) := ⟨⟨_, h6⟩⟩
  repeat (first | go_big_quiet_step (fail) | quiet_step (fail))
  refine wpQuiet_nil ?_
  intro d
  have h7 := d.h
  clear c0 c1 c2 c3 c4 c5 c6 c7 c8 c9 hne h6
  revert h7
  generalize d.w = w7
  intro h7
  have x0 : w7.cell? ⟨wp.heap.size, 0, none⟩ = some (.int .i64 (a0)) := h7.at (wp.heap.size) 0 (a0) (by simp)
  have x1 : w7.cell? ⟨wp.heap.size, 1, none⟩ = some (.int .i64 (-1)) := h7.at (wp.heap.size) 1 (-1) (by simp)
  have x2 : w7.cell? ⟨b, 0, none⟩ = some (.int .i64 (-1)) := h7.at (b) 0 (-1) (by simp)
  have x3 : w7.cell? ⟨b, 1, none⟩ = some (.int .i64 (-1)) := h7.at (b) 1 (-1) (by simp)
  have x4 : w7.cell? ⟨b, 2, none⟩ = some (.int .i64 (a0)) := h7.at (b) 2 (a0) (by simp)
  have x5 : w7.cell? ⟨b, 3, none⟩ = some (.int .i64 (-1)) := h7.at (b) 3 (-1) (by simp)
  have x6 : w7.cell? ⟨w.heap.size, 0, none⟩ = some (.int .i64 (a0)) := h7.at (w.heap.size) 0 (a0) (by simp)
  have x7 : w7.cell? ⟨w.heap.size, 1, none⟩ = some (.int .i64 (b0)) := h7.at (w.heap.size) 1 (b0) (by simp)
  have x8 : w7.cell? ⟨w.heap.size + 1, 0, none⟩ = some (.int .i64 (a0)) := h7.at (w.heap.size + 1) 0 (a0) (by simp)
  have x9 : w7.cell? ⟨w.heap.size + 1, 1, none⟩ = some (.int .i64 (b0)) := h7.at (w.heap.size + 1) 1 (b0) (by simp)
  go_wp2
  rw [rounds_succ]
  go_wp2
  clear x0 x1 x2 x3 x4 x5 x6 x7 x8 x9
  refine region_in (CL w [(wp.heap.size, 0, a0), (wp.heap.size, 1, -1), (b, 0, -1), (b, 1, -1), (b, 2, a0), (b, 3, -1), (w.heap.size, 0, a0), (w.heap.size, 1, b0), (w.heap.size + 1, 0, a0), (w.heap.size + 1, 1, b0)]) (by kernel_rfl) (by kernel_rfl) (CL.step _ _ h7 (Nw.refl _).drew1) ?_
  have c0 : ∀ d : Wd (CL w [(wp.heap.size, 0, a0), (wp.heap.size, 1, -1), (b, 0, -1), (b, 1, -1), (b, 2, a0), (b, 3, -1), (w.heap.size, 0, a0), (w.heap.size, 1, b0), (w.heap.size + 1, 0, a0), (w.heap.size + 1, 1, b0)]), d.w.cell? ⟨wp.heap.size, 0, none⟩ = some (.int .i64 (a0)) := fun d => d.h.at (wp.heap.size) 0 (a0) (by simp)
  have c1 : ∀ d : Wd (CL w [(wp.heap.size, 0, a0), (wp.heap.size, 1, -1), (b, 0, -1), (b, 1, -1), (b, 2, a0), (b, 3, -1), (w.heap.size, 0, a0), (w.heap.size, 1, b0), (w.heap.size + 1, 0, a0), (w.heap.size + 1, 1, b0)]), d.w.cell? ⟨wp.heap.size, 1, none⟩ = some (.int .i64 (-1)) := fun d => d.h.at (wp.heap.size) 1 (-1) (by simp)
  have c2 : ∀ d : Wd (CL w [(wp.heap.size, 0, a0), (wp.heap.size, 1, -1), (b, 0, -1), (b, 1, -1), (b, 2, a0), (b, 3, -1), (w.heap.size, 0, a0), (w.heap.size, 1, b0), (w.heap.size + 1, 0, a0), (w.heap.size + 1, 1, b0)]), d.w.cell? ⟨b, 0, none⟩ = some (.int .i64 (-1)) := fun d => d.h.at (b) 0 (-1) (by simp)
  have c3 : ∀ d : Wd (CL w [(wp.heap.size, 0, a0), (wp.heap.size, 1, -1), (b, 0, -1), (b, 1, -1), (b, 2, a0), (b, 3, -1), (w.heap.size, 0, a0), (w.heap.size, 1, b0), (w.heap.size + 1, 0, a0), (w.heap.size + 1, 1, b0)]), d.w.cell? ⟨b, 1, none⟩ = some (.int .i64 (-1)) := fun d => d.h.at (b) 1 (-1) (by simp)
  have c4 : ∀ d : Wd (CL w [(wp.heap.size, 0, a0), (wp.heap.size, 1, -1), (b, 0, -1), (b, 1, -1), (b, 2, a0), (b, 3, -1), (w.heap.size, 0, a0), (w.heap.size, 1, b0), (w.heap.size + 1, 0, a0), (w.heap.size + 1, 1, b0)]), d.w.cell? ⟨b, 2, none⟩ = some (.int .i64 (a0)) := fun d => d.h.at (b) 2 (a0) (by simp)
  have c5 : ∀ d : Wd (CL w [(wp.heap.size, 0, a0), (wp.heap.size, 1, -1), (b, 0, -1), (b, 1, -1), (b, 2, a0), (b, 3, -1), (w.heap.size, 0, a0), (w.heap.size, 1, b0), (w.heap.size + 1, 0, a0), (w.heap.size + 1, 1, b0)]), d.w.cell? ⟨b, 3, none⟩ = some (.int .i64 (-1)) := fun d => d.h.at (b) 3 (-1) (by simp)
  have c6 : ∀ d : Wd (CL w [(wp.heap.size, 0, a0), (wp.heap.size, 1, -1), (b, 0, -1), (b, 1, -1), (b, 2, a0), (b, 3, -1), (w.heap.size, 0, a0), (w.heap.size, 1, b0), (w.heap.size + 1, 0, a0), (w.heap.size + 1, 1, b0)]), d.w.cell? ⟨w.heap.size, 0, none⟩ = some (.int .i64 (a0)) := fun d => d.h.at (w.heap.size) 0 (a0) (by simp)
  have c7 : ∀ d : Wd (CL w [(wp.heap.size, 0, a0), (wp.heap.size, 1, -1), (b, 0, -1), (b, 1, -1), (b, 2, a0), (b, 3, -1), (w.heap.size, 0, a0), (w.heap.size, 1, b0), (w.heap.size + 1, 0, a0), (w.heap.size + 1, 1, b0)]), d.w.cell? ⟨w.heap.size, 1, none⟩ = some (.int .i64 (b0)) := fun d => d.h.at (w.heap.size) 1 (b0) (by simp)
  have c8 : ∀ d : Wd (CL w [(wp.heap.size, 0, a0), (wp.heap.size, 1, -1), (b, 0, -1), (b, 1, -1), (b, 2, a0), (b, 3, -1), (w.heap.size, 0, a0), (w.heap.size, 1, b0), (w.heap.size + 1, 0, a0), (w.heap.size + 1, 1, b0)]), d.w.cell? ⟨w.heap.size + 1, 0, none⟩ = some (.int .i64 (a0)) := fun d => d.h.at (w.heap.size + 1) 0 (a0) (by simp)
  have c9 : ∀ d : Wd (CL w [(wp.heap.size, 0, a0), (wp.heap.size, 1, -1), (b, 0, -1), (b, 1, -1), (b, 2, a0), (b, 3, -1), (w.heap.size, 0, a0), (w.heap.size, 1, b0), (w.heap.size + 1, 0, a0), (w.heap.size + 1, 1, b0)]), d.w.cell? ⟨w.heap.size + 1, 1, none⟩ = some (.int .i64 (b0)) := fun d => d.h.at (w.heap.size + 1) 1 (b0) (by simp)
  have hne : Nonempty (Wd (CL w [(wp.heap.size, 0, a0), (wp.heap.size, 1, -1), (b, 0, -1), (b, 1, -1), (b, 2, a0), (b, 3, -1), (w.heap.size, 0, a0), (w.heap.size, 1, b0), (w.heap.size + 1, 0, a0), (w.heap.size + 1, 1, b0)])) := ⟨⟨_, h7⟩⟩
  repeat (first | go_big_quiet_step ((first | exact quietN CL.step (level_val _ _ 1 _ hk1.out) | exact quietN CL.step (compare_val _ _ _ _ (-1) _ hcm2.out))) | quiet_step ((first | exact quietN CL.step (level_val _ _ 1 _ hk1.out) | exact quietN CL.step (compare_val _ _ _ _ (-1) _ hcm2.out))))
  refine wpQuiet_nil ?_
  intro d
  have h8 := d.h
  clear c0 c1 c2 c3 c4 c5 c6 c7 c8 c9 hne h7
  revert h8
  generalize d.w = w8
  intro h8
  have x0 : w8.cell? ⟨wp.heap.size, 0, none⟩ = some (.int .i64 (a0)) := h8.at (wp.heap.size) 0 (a0) (by simp)
  have x1 : w8.cell? ⟨wp.heap.size, 1, none⟩ = some (.int .i64 (-1)) := h8.at (wp.heap.size) 1 (-1) (by simp)
  have x2 : w8.cell? ⟨b, 0, none⟩ = some (.int .i64 (-1)) := h8.at (b) 0 (-1) (by simp)
  have x3 : w8.cell? ⟨b, 1, none⟩ = some (.int .i64 (-1)) := h8.at (b) 1 (-1) (by simp)
  have x4 : w8.cell? ⟨b, 2, none⟩ = some (.int .i64 (a0)) := h8.at (b) 2 (a0) (by simp)
  have x5 : w8.cell? ⟨b, 3, none⟩ = some (.int .i64 (-1)) := h8.at (b) 3 (-1) (by simp)
  have x6 : w8.cell? ⟨w.heap.size, 0, none⟩ = some (.int .i64 (a0)) := h8.at (w.heap.size) 0 (a0) (by simp)
  have x7 : w8.cell? ⟨w.heap.size, 1, none⟩ = some (.int .i64 (b0)) := h8.at (w.heap.size) 1 (b0) (by simp)
  have x8 : w8.cell? ⟨w.heap.size + 1, 0, none⟩ = some (.int .i64 (a0)) := h8.at (w.heap.size + 1) 0 (a0) (by simp)
  have x9 : w8.cell? ⟨w.heap.size + 1, 1, none⟩ = some (.int .i64 (b0)) := h8.at (w.heap.size + 1) 1 (b0) (by simp)
  go_wp2
  clear x0 x1 x2 x3 x4 x5 x6 x7 x8 x9
  refine region_in (CL w [(wp.heap.size, 0, a0), (wp.heap.size, 1, -1), (b, 0, -1), (b, 1, -1), (b, 2, a0), (b, 3, -1), (w.heap.size, 0, a0), (w.heap.size, 1, b0), (w.heap.size + 1, 0, a0), (w.heap.size + 1, 1, b0)]) (by kernel_rfl) (by kernel_rfl) (CL.step _ _ h8 (Nw.refl _).drew1) ?_
  have c0 : ∀ d : Wd (CL w [(wp.heap.size, 0, a0), (wp.heap.size, 1, -1), (b, 0, -1), (b, 1, -1), (b, 2, a0), (b, 3, -1), (w.heap.size, 0, a0), (w.heap.size, 1, b0), (w.heap.size + 1, 0, a0), (w.heap.size + 1, 1, b0)]), d.w.cell? ⟨wp.heap.size, 0, none⟩ = some (.int .i64 (a0)) := fun d => d.h.at (wp.heap.size) 0 (a0) (by simp)
  have c1 : ∀ d : Wd (CL w [(wp.heap.size, 0, a0), (wp.heap.size, 1, -1), (b, 0, -1), (b, 1, -1), (b, 2, a0), (b, 3, -1), (w.heap.size, 0, a0), (w.heap.size, 1, b0), (w.heap.size + 1, 0, a0), (w.heap.size + 1, 1, b0)]), d.w.cell? ⟨wp.heap.size, 1, none⟩ = some (.int .i64 (-1)) := fun d => d.h.at (wp.heap.size) 1 (-1) (by simp)
  have c2 : ∀ d : Wd (CL w [(wp.heap.size, 0, a0), (wp.heap.size, 1, -1), (b, 0, -1), (b, 1, -1), (b, 2, a0), (b, 3, -1), (w.heap.size, 0, a0), (w.heap.size, 1, b0), (w.heap.size + 1, 0, a0), (w.heap.size + 1, 1, b0)]), d.w.cell? ⟨b, 0, none⟩ = some (.int .i64 (-1)) := fun d => d.h.at (b) 0 (-1) (by simp)
  have c3 : ∀ d : Wd (CL w [(wp.heap.size, 0, a0), (wp.heap.size, 1, -1), (b, 0, -1), (b, 1, -1), (b, 2, a0), (b, 3, -1), (w.heap.size, 0, a0), (w.heap.size, 1, b0), (w.heap.size + 1, 0, a0), (w.heap.size + 1, 1, b0)]), d.w.cell? ⟨b, 1, none⟩ = some (.int .i64 (-1)) := fun d => d.h.at (b) 1 (-1) (by simp)
  have c4 : ∀ d : Wd (CL w [(wp.heap.size, 0, a0), (wp.heap.size, 1, -1), (b, 0, -1), (b, 1, -1), (b, 2, a0), (b, 3, -1), (w.heap.size, 0, a0), (w.heap.size, 1, b0), (w.heap.size + 1, 0, a0), (w.heap.size + 1, 1, b0)]), d.w.cell? ⟨b, 2, none⟩ = some (.int .i64 (a0)) := fun d => d.h.at (b) 2 (a0) (by simp)
  have c5 : ∀ d : Wd (CL w [(wp.heap.size, 0, a0), (wp.heap.size, 1, -1), (b, 0, -1), (b, 1, -1), (b, 2, a0), (b, 3, -1), (w.heap.size, 0, a0), (w.heap.size, 1, b0), (w.heap.size + 1, 0, a0), (w.heap.size + 1, 1, b0)]), d.w.cell? ⟨b, 3, none⟩ = some (.int .i64 (-1)) := fun d => d.h.at (b) 3 (-1) (by simp)
  have c6 : ∀ d : Wd (CL w [(wp.heap.size, 0, a0), (wp.heap.size, 1, -1), (b, 0, -1), (b, 1, -1), (b, 2, a0), (b, 3, -1), (w.heap.size, 0, a0), (w.heap.size, 1, b0), (w.heap.size + 1, 0, a0), (w.heap.size + 1, 1, b0)]), d.w.cell? ⟨w.heap.size, 0, none⟩ = some (.int .i64 (a0)) := fun d => d.h.at (w.heap.size) 0 (a0) (by simp)
  have c7 : ∀ d : Wd (CL w [(wp.heap.size, 0, a0), (wp.heap.size, 1, -1), (b, 0, -1), (b, 1, -1), (b, 2, a0), (b, 3, -1), (w.heap.size, 0, a0), (w.heap.size, 1, b0), (w.heap.size + 1, 0, a0), (w.heap.size + 1, 1, b0)]), d.w.cell? ⟨w.heap.size, 1, none⟩ = some (.int .i64 (b0)) := fun d => d.h.at (w.heap.size) 1 (b0) (by simp)
  have c8 : ∀ d : Wd (CL w [(wp.heap.size, 0, a0), (wp.heap.size, 1, -1), (b, 0, -1), (b, 1, -1), (b, 2, a0), (b, 3, -1), (w.heap.size, 0, a0), (w.heap.size, 1, b0), (w.heap.size + 1, 0, a0), (w.heap.size + 1, 1, b0)]), d.w.cell? ⟨w.heap.size + 1, 0, none⟩ = some (.int .i64 (a0)) := fun d => d.h.at (w.heap.size + 1) 0 (a0) (by simp)
  have c9 : ∀ d : Wd (CL w [(wp.heap.size, 0, a0), (wp.heap.size, 1, -1), (b, 0, -1), (b, 1, -1), (b, 2, a0), (b, 3, -1), (w.heap.size, 0, a0), (w.heap.size, 1, b0), (w.heap.size + 1, 0, a0), (w.heap.size + 1, 1, b0)]), d.w.cell? ⟨w.heap.size + 1, 1, none⟩ = some (.int .i64 (b0)) := fun d => d.h.at (w.heap.size + 1) 1 (b0) (by simp)
  have hne : Nonempty (Wd (CL w [(wp.heap.size, 0, a0), (wp.heap.size, 1, -1), (b, 0, -1), (b, 1, -1), (b, 2, a0), (b, 3, -1), (w.heap.size, 0, a0), (w.heap.size, 1, b0), (w.heap.size + 1, 0, a0), (w.heap.size + 1, 1, b0)])) := ⟨⟨_, h8⟩⟩
  repeat (first | go_big_quiet_step (fail) | quiet_step (fail))
  refine wpQuiet_nil ?_
  intro d
  have h9 := d.h
  clear c0 c1 c2 c3 c4 c5 c6 c7 c8 c9 hne h8
  revert h9
  generalize d.w = w9
  intro h9
  have x0 : w9.cell? ⟨wp.heap.size, 0, none⟩ = some (.int .i64 (a0)) := h9.at (wp.heap.size) 0 (a0) (by simp)
  have x1 : w9.cell? ⟨wp.heap.size, 1, none⟩ = some (.int .i64 (-1)) := h9.at (wp.heap.size) 1 (-1) (by simp)
  have x2 : w9.cell? ⟨b, 0, none⟩ = some (.int .i64 (-1)) := h9.at (b) 0 (-1) (by simp)
  have x3 : w9.cell? ⟨b, 1, none⟩ = some (.int .i64 (-1)) := h9.at (b) 1 (-1) (by simp)
  have x4 : w9.cell? ⟨b, 2, none⟩ = some (.int .i64 (a0)) := h9.at (b) 2 (a0) (by simp)
  have x5 : w9.cell? ⟨b, 3, none⟩ = some (.int .i64 (-1)) := h9.at (b) 3 (-1) (by simp)
  have x6 : w9.cell? ⟨w.heap.size, 0, none⟩ = some (.int .i64 (a0)) := h9.at (w.heap.size) 0 (a0) (by simp)
  have x7 : w9.cell? ⟨w.heap.size, 1, none⟩ = some (.int .i64 (b0)) := h9.at (w.heap.size) 1 (b0) (by simp)
  have x8 : w9.cell? ⟨w.heap.size + 1, 0, none⟩ = some (.int .i64 (a0)) := h9.at (w.heap.size + 1) 0 (a0) (by simp)
  have x9 : w9.cell? ⟨w.heap.size + 1, 1, none⟩ = some (.int .i64 (b0)) := h9.at (w.heap.size + 1) 1 (b0) (by simp)
  go_wp2
  rw [rounds_succ]
  go_wp2_with fail
  refine (under_val _ _ _ _ true _ hu.out).mono ?_
  rintro e w10 ⟨rfl, g10⟩
  go_wp2
  go_ret
  exact ⟨rfl, h9.2.trans g10⟩

set_option maxHeartbeats 4000000 in
theorem rec_db (a0 b0 : Int) (w : World) (hk : Hid (lvl a0 b0 = 2)) (hk1 : Hid (lvl a0 (-1) = 1)) (hcmp : Hid (or2 (c3 (-1) a0) (c3 (-1) b0) = -1)) (hcm2 : Hid (or2 (c3 a0 a0) (c3 (-1) b0) = -1)) (x0 : ((-1 : Int) == a0) = false) (hu : Hid (und a0 b0 (-1) (-1) = true)) :
    Calls Tryd.prog 6 #[.agg #[.int .i64 a0, .int .i64 b0], .agg #[.int .i64 (-1), .int .i64 (-1)]] w fun e w' => e = .returned (.bool true) ∧ Nw w w' := by
  have hW0 : Nw w ((w.alloc (.cells #[.int .i64 a0, .int .i64 b0] 24)).alloc (.cells #[.int .i64 (-1), .int .i64 (-1)] 24)) := ((Nw.refl _).alloc _).alloc _
  go_enter Tryd.func6, Tryd.ntmps6
  go_wp2_with fail
  refine (lives_ok _).mono ?_
  rintro e w' ⟨rfl, hg⟩
  (first | (replace hG := Nw.trans hG hg; clear hc hf) | have hG := hg)
  clear hg
  obtain ⟨hc, hf⟩ := hG.rules
  go_wp2_with fail
  refine (anc_rec _ _ _ hk.out).mono ?_
  rintro e w2 ⟨b, rfl, hn, hb, hg⟩
  replace hG := Nw.trans hG hg
  clear hc hf hg
  obtain ⟨hc, hf⟩ := hG.rules
  go_wp2_with fail
  refine (parent_rec _ _ _ hk.out).mono ?_
  rintro e wp ⟨rfl, g3⟩
  have hB := CL.step _ _ (CL.two w a0 b0 ((-1)) ((-1)) 24) (hG.trans g3)
  have n0 := (hn.2 0 (by simp)).1
  have n1 := (hn.2 0 (by simp)).2
  have n2 := (hn.2 1 (by simp)).1
  have n3 := (hn.2 1 (by simp)).2
  simp only [Nat.zero_mul, Nat.one_mul, Nat.zero_add, List.getElem_cons_zero, List.getElem_cons_succ] at n0 n1 n2 n3
  replace hB := (((hB.cons (g3.keep n3)).cons (g3.keep n2)).cons (g3.keep n1)).cons (g3.keep n0)
  replace hB := CL.step _ _ hB ((Nw.refl _).alloc (.cells #[.int .i64 a0, .int .i64 (-1)] 24))
  have m0 : (wp.alloc (.cells #[.int .i64 a0, .int .i64 (-1)] 24)).cell? ⟨wp.heap.size, 0, none⟩ = some (.int .i64 a0) := by simp [go_sem]
  have m1 : (wp.alloc (.cells #[.int .i64 a0, .int .i64 (-1)] 24)).cell? ⟨wp.heap.size, 1, none⟩ = some (.int .i64 (-1)) := by simp [go_sem]
  replace hB := (hB.cons m1).cons m0
  clear hc hf hG hn n0 n1 n2 n3 m0 m1 g3 hb
  go_wp2
  have k1 : IntKind.i64.wrap ((2 : Int) - 1) = 1 := by decide
  have k2 : IntKind.i64.wrap (1 : Int) = 1 := by decide
  have c0 : ∀ x, CL w [(wp.heap.size, 0, a0), (wp.heap.size, 1, -1), (b, 0, -1), (b, 1, -1), (b, 2, a0), (b, 3, -1), (w.heap.size, 0, a0), (w.heap.size, 1, b0), (w.heap.size + 1, 0, (-1)), (w.heap.size + 1, 1, (-1))] x → x.cell? ⟨wp.heap.size, 0, none⟩ = some (.int .i64 (a0)) := fun x h => h.at (wp.heap.size) 0 (a0) (by simp)
  have c1 : ∀ x, CL w [(wp.heap.size, 0, a0), (wp.heap.size, 1, -1), (b, 0, -1), (b, 1, -1), (b, 2, a0), (b, 3, -1), (w.heap.size, 0, a0), (w.heap.size, 1, b0), (w.heap.size + 1, 0, (-1)), (w.heap.size + 1, 1, (-1))] x → x.cell? ⟨wp.heap.size, 1, none⟩ = some (.int .i64 (-1)) := fun x h => h.at (wp.heap.size) 1 (-1) (by simp)
  have c2 : ∀ x, CL w [(wp.heap.size, 0, a0), (wp.heap.size, 1, -1), (b, 0, -1), (b, 1, -1), (b, 2, a0), (b, 3, -1), (w.heap.size, 0, a0), (w.heap.size, 1, b0), (w.heap.size + 1, 0, (-1)), (w.heap.size + 1, 1, (-1))] x → x.cell? ⟨b, 0, none⟩ = some (.int .i64 (-1)) := fun x h => h.at (b) 0 (-1) (by simp)
  have c3 : ∀ x, CL w [(wp.heap.size, 0, a0), (wp.heap.size, 1, -1), (b, 0, -1), (b, 1, -1), (b, 2, a0), (b, 3, -1), (w.heap.size, 0, a0), (w.heap.size, 1, b0), (w.heap.size + 1, 0, (-1)), (w.heap.size + 1, 1, (-1))] x → x.cell? ⟨b, 1, none⟩ = some (.int .i64 (-1)) := fun x h => h.at (b) 1 (-1) (by simp)
  have c4 : ∀ x, CL w [(wp.heap.size, 0, a0), (wp.heap.size, 1, -1), (b, 0, -1), (b, 1, -1), (b, 2, a0), (b, 3, -1), (w.heap.size, 0, a0), (w.heap.size, 1, b0), (w.heap.size + 1, 0, (-1)), (w.heap.size + 1, 1, (-1))] x → x.cell? ⟨b, 2, none⟩ = some (.int .i64 (a0)) := fun x h => h.at (b) 2 (a0) (by simp)
  have c5 : ∀ x, CL w [(wp.heap.size, 0, a0), (wp.heap.size, 1, -1), (b, 0, -1), (b, 1, -1), (b, 2, a0), (b, 3, -1), (w.heap.size, 0, a0), (w.heap.size, 1, b0), (w.heap.size + 1, 0, (-1)), (w.heap.size + 1, 1, (-1))] x → x.cell? ⟨b, 3, none⟩ = some (.int .i64 (-1)) := fun x h => h.at (b) 3 (-1) (by simp)
  have c6 : ∀ x, CL w [(wp.heap.size, 0, a0), (wp.heap.size, 1, -1), (b, 0, -1), (b, 1, -1), (b, 2, a0), (b, 3, -1), (w.heap.size, 0, a0), (w.heap.size, 1, b0), (w.heap.size + 1, 0, (-1)), (w.heap.size + 1, 1, (-1))] x → x.cell? ⟨w.heap.size, 0, none⟩ = some (.int .i64 (a0)) := fun x h => h.at (w.heap.size) 0 (a0) (by simp)
  have c7 : ∀ x, CL w [(wp.heap.size, 0, a0), (wp.heap.size, 1, -1), (b, 0, -1), (b, 1, -1), (b, 2, a0), (b, 3, -1), (w.heap.size, 0, a0), (w.heap.size, 1, b0), (w.heap.size + 1, 0, (-1)), (w.heap.size + 1, 1, (-1))] x → x.cell? ⟨w.heap.size, 1, none⟩ = some (.int .i64 (b0)) := fun x h => h.at (w.heap.size) 1 (b0) (by simp)
  have c8 : ∀ x, CL w [(wp.heap.size, 0, a0), (wp.heap.size, 1, -1), (b, 0, -1), (b, 1, -1), (b, 2, a0), (b, 3, -1), (w.heap.size, 0, a0), (w.heap.size, 1, b0), (w.heap.size + 1, 0, (-1)), (w.heap.size + 1, 1, (-1))] x → x.cell? ⟨w.heap.size + 1, 0, none⟩ = some (.int .i64 ((-1))) := fun x h => h.at (w.heap.size + 1) 0 ((-1)) (by simp)
  have c9 : ∀ x, CL w [(wp.heap.size, 0, a0), (wp.heap.size, 1, -1), (b, 0, -1), (b, 1, -1), (b, 2, a0), (b, 3, -1), (w.heap.size, 0, a0), (w.heap.size, 1, b0), (w.heap.size + 1, 0, (-1)), (w.heap.size + 1, 1, (-1))] x → x.cell? ⟨w.heap.size + 1, 1, none⟩ = some (.int .i64 ((-1))) := fun x h => h.at (w.heap.size + 1) 1 ((-1)) (by simp)
  go_region_held3 (fun x => CL w [(wp.heap.size, 0, a0), (wp.heap.size, 1, -1), (b, 0, -1), (b, 1, -1), (b, 2, a0), (b, 3, -1), (w.heap.size, 0, a0), (w.heap.size, 1, b0), (w.heap.size + 1, 0, (-1)), (w.heap.size + 1, 1, (-1))] x) (first | assumption | exact CL.step' (Nw.refl _).drew1 hB | exact CL.step' (by assumption) (by assumption))
    (first | (go_at_call 18; refine (level_val _ _ 2 _ hk.out).mono ?_; rintro e w' ⟨rfl, hg⟩) | (go_at_call 23; refine (anc_tab _ _ hk1.out).mono ?_; rintro e w' ⟨b', rfl, hn, hb, hg⟩) | (go_at_call 30; refine (same_names b 0 2 b' 0 1 [(-1, -1)] _ (ncells_one (c2 _ (by assumption)) (c3 _ (by assumption))) hn (by simp)).mono ?_; rintro e w' ⟨rfl, hg⟩))
  rename_i h5
  clear c0 c1 c2 c3 c4 c5 c6 c7 c8 c9 k1 k2 hB
  have x0 : w'.cell? ⟨wp.heap.size, 0, none⟩ = some (.int .i64 (a0)) := h5.at (wp.heap.size) 0 (a0) (by simp)
  have x1 : w'.cell? ⟨wp.heap.size, 1, none⟩ = some (.int .i64 (-1)) := h5.at (wp.heap.size) 1 (-1) (by simp)
  have x2 : w'.cell? ⟨b, 0, none⟩ = some (.int .i64 (-1)) := h5.at (b) 0 (-1) (by simp)
  have x3 : w'.cell? ⟨b, 1, none⟩ = some (.int .i64 (-1)) := h5.at (b) 1 (-1) (by simp)
  have x4 : w'.cell? ⟨b, 2, none⟩ = some (.int .i64 (a0)) := h5.at (b) 2 (a0) (by simp)
  have x5 : w'.cell? ⟨b, 3, none⟩ = some (.int .i64 (-1)) := h5.at (b) 3 (-1) (by simp)
  have x6 : w'.cell? ⟨w.heap.size, 0, none⟩ = some (.int .i64 (a0)) := h5.at (w.heap.size) 0 (a0) (by simp)
  have x7 : w'.cell? ⟨w.heap.size, 1, none⟩ = some (.int .i64 (b0)) := h5.at (w.heap.size) 1 (b0) (by simp)
  have x8 : w'.cell? ⟨w.heap.size + 1, 0, none⟩ = some (.int .i64 ((-1))) := h5.at (w.heap.size + 1) 0 ((-1)) (by simp)
  have x9 : w'.cell? ⟨w.heap.size + 1, 1, none⟩ = some (.int .i64 ((-1))) := h5.at (w.heap.size + 1) 1 ((-1)) (by simp)
  go_wp2
  refine wp_loop_rounds 3 ?_
  rw [rounds_succ]
  go_wp2
  clear x0 x1 x2 x3 x4 x5 x6 x7 x8 x9
  refine region_in (CL w [(wp.heap.size, 0, a0), (wp.heap.size, 1, -1), (b, 0, -1), (b, 1, -1), (b, 2, a0), (b, 3, -1), (w.heap.size, 0, a0), (w.heap.size, 1, b0), (w.heap.size + 1, 0, (-1)), (w.heap.size + 1, 1, (-1))]) (by kernel_rfl) (by kernel_rfl) (CL.step _ _ h5 (Nw.refl _).drew1) ?_
  have c0 : ∀ d : Wd (CL w [(wp.heap.size, 0, a0), (wp.heap.size, 1, -1), (b, 0, -1), (b, 1, -1), (b, 2, a0), (b, 3, -1), (w.heap.size, 0, a0), (w.heap.size, 1, b0), (w.heap.size + 1, 0, (-1)), (w.heap.size + 1, 1, (-1))]), d.w.cell? ⟨wp.heap.size, 0, none⟩ = some (.int .i64 (a0)) := fun d => d.h.at (wp.heap.size) 0 (a0) (by simp)
  have c1 : ∀ d : Wd (CL w [(wp.heap.size, 0, a0), (wp.heap.size, 1, -1), (b, 0, -1), (b, 1, -1), (b, 2, a0), (b, 3, -1), (w.heap.size, 0, a0), (w.heap.size, 1, b0), (w.heap.size + 1, 0, (-1)), (w.heap.size + 1, 1, (-1))]), d.w.cell? ⟨wp.heap.size, 1, none⟩ = some (.int .i64 (-1)) := fun d => d.h.at (wp.heap.size) 1 (-1) (by simp)
  have c2 : ∀ d : Wd (CL w [(wp.heap.size, 0, a0), (wp.heap.size, 1, -1), (b, 0, -1), (b, 1, -1), (b, 2, a0), (b, 3, -1), (w.heap.size, 0, a0), (w.heap.size, 1, b0), (w.heap.size + 1, 0, (-1)), (w.heap.size + 1, 1, (-1))]), d.w.cell? ⟨b, 0, none⟩ = some (.int .i64 (-1)) := fun d => d.h.at (b) 0 (-1) (by simp)
  have c3 : ∀ d : Wd (CL w [(wp.heap.size, 0, a0), (wp.heap.size, 1, -1), (b, 0, -1), (b, 1, -1), (b, 2, a0), (b, 3, -1), (w.heap.size, 0, a0), (w.heap.size, 1, b0), (w.heap.size + 1, 0, (-1)), (w.heap.size + 1, 1, (-1))]), d.w.cell? ⟨b, 1, none⟩ = some (.int .i64 (-1)) := fun d => d.h.at (b) 1 (-1) (by simp)
  have c4 : ∀ d : Wd (CL w [(wp.heap.size, 0, a0), (wp.heap.size, 1, -1), (b, 0, -1), (b, 1, -1), (b, 2, a0), (b, 3, -1), (w.heap.size, 0, a0), (w.heap.size, 1, b0), (w.heap.size + 1, 0, (-1)), (w.heap.size + 1, 1, (-1))]), d.w.cell? ⟨b, 2, none⟩ = some (.int .i64 (a0)) := fun d => d.h.at (b) 2 (a0) (by simp)
  have c5 : ∀ d : Wd (CL w [(wp.heap.size, 0, a0), (wp.heap.size, 1, -1), (b, 0, -1), (b, 1, -1), (b, 2, a0), (b, 3, -1), (w.heap.size, 0, a0), (w.heap.size, 1, b0), (w.heap.size + 1, 0, (-1)), (w.heap.size + 1, 1, (-1))]), d.w.cell? ⟨b, 3, none⟩ = some (.int .i64 (-1)) := fun d => d.h.at (b) 3 (-1) (by simp)
  have c6 : ∀ d : Wd (CL w [(wp.heap.size, 0, a0), (wp.heap.size, 1, -1), (b, 0, -1), (b, 1, -1), (b, 2, a0), (b, 3, -1), (w.heap.size, 0, a0), (w.heap.size, 1, b0), (w.heap.size + 1, 0, (-1)), (w.heap.size + 1, 1, (-1))]), d.w.cell? ⟨w.heap.size, 0, none⟩ = some (.int .i64 (a0)) := fun d => d.h.at (w.heap.size) 0 (a0) (by simp)
  have c7 : ∀ d : Wd (CL w [(wp.heap.size, 0, a0), (wp.heap.size, 1, -1), (b, 0, -1), (b, 1, -1), (b, 2, a0), (b, 3, -1), (w.heap.size, 0, a0), (w.heap.size, 1, b0), (w.heap.size + 1, 0, (-1)), (w.heap.size + 1, 1, (-1))]), d.w.cell? ⟨w.heap.size, 1, none⟩ = some (.int .i64 (b0)) := fun d => d.h.at (w.heap.size) 1 (b0) (by simp)
  have c8 : ∀ d : Wd (CL w [(wp.heap.size, 0, a0), (wp.heap.size, 1, -1), (b, 0, -1), (b, 1, -1), (b, 2, a0), (b, 3, -1), (w.heap.size, 0, a0), (w.heap.size, 1, b0), (w.heap.size + 1, 0, (-1)), (w.heap.size + 1, 1, (-1))]), d.w.cell? ⟨w.heap.size + 1, 0, none⟩ = some (.int .i64 ((-1))) := fun d => d.h.at (w.heap.size + 1) 0 ((-1)) (by simp)
  have c9 : ∀ d : Wd (CL w [(wp.heap.size, 0, a0), (wp.heap.size, 1, -1), (b, 0, -1), (b, 1, -1), (b, 2, a0), (b, 3, -1), (w.heap.size, 0, a0), (w.heap.size, 1, b0), (w.heap.size + 1, 0, (-1)), (w.heap.size + 1, 1, (-1))]), d.w.cell? ⟨w.heap.size + 1, 1, none⟩ = some (.int .i64 ((-1))) := fun d => d.h.at (w.heap.size + 1) 1 ((-1)) (by simp)
  have hne : Nonempty (Wd (CL w [(wp.heap.size, 0, a0), (wp.heap.size, 1, -1), (b, 0, -1), (b, 1, -1), (b, 2, a0), (b, 3, -1), (w.heap.size, 0, a0), (w.heap.size, 1, b0), (w.heap.size + 1, 0, (-1)), (w.heap.size + 1, 1, (-1))])) := ⟨⟨_, h5⟩⟩
  repeat (first | go_big_quiet_step ((first | exact quietN CL.step (level_db _) | exact quietN CL.step (compare_val _ _ _ _ (-1) _ hcmp.out))) | quiet_step ((first | exact quietN CL.step (level_db _) | exact quietN CL.step (compare_val _ _ _ _ (-1) _ hcmp.out))))
  refine wpQuiet_nil ?_
  intro d
  have h6 := d.h
  clear c0 c1 c2 c3 c4 c5 c6 c7 c8 c9 hne h5
  revert h6
  generalize d.w = w6
  intro h6
  have x0 : w6.cell? ⟨wp.heap.size, 0, none⟩ = some (.int .i64 (a0)) := h6.at (wp.heap.size) 0 (a0) (by simp)
  have x1 : w6.cell? ⟨wp.heap.size, 1, none⟩ = some (.int .i64 (-1)) := h6.at (wp.heap.size) 1 (-1) (by simp)
  have x2 : w6.cell? ⟨b, 0, none⟩ = some (.int .i64 (-1)) := h6.at (b) 0 (-1) (by simp)
  have x3 : w6.cell? ⟨b, 1, none⟩ = some (.int .i64 (-1)) := h6.at (b) 1 (-1) (by simp)
  have x4 : w6.cell? ⟨b, 2, none⟩ = some (.int .i64 (a0)) := h6.at (b) 2 (a0) (by simp)
  have x5 : w6.cell? ⟨b, 3, none⟩ = some (.int .i64 (-1)) := h6.at (b) 3 (-1) (by simp)
  have x6 : w6.cell? ⟨w.heap.size, 0, none⟩ = some (.int .i64 (a0)) := h6.at (w.heap.size) 0 (a0) (by simp)
  have x7 : w6.cell? ⟨w.heap.size, 1, none⟩ = some (.int .i64 (b0)) := h6.at (w.heap.size) 1 (b0) (by simp)
  have x8 : w6.cell? ⟨w.heap.size + 1, 0, none⟩ = some (.int .i64 ((-1))) := h6.at (w.heap.size + 1) 0 ((-1)) (by simp)
  have x9 : w6.cell? ⟨w.heap.size + 1, 1, none⟩ = some (.int .i64 ((-1))) := h6.at (w.heap.size + 1) 1 ((-1)) (by simp)
  go_wp2
  clear x0 x1 x2 x3 x4 x5 x6 x7 x8 x9
  refine region_in (CL w [(wp.heap.size, 0, a0), (wp.heap.size, 1, -1), (b, 0, -1), (b, 1, -1), (b, 2, a0), (b, 3, -1), (w.heap.size, 0, a0), (w.heap.size, 1, b0), (w.heap.size + 1, 0, (-1)), (w.heap.size + 1, 1, (-1))]) (by kernel_rfl) (by kernel_rfl) (CL.step _ _ h6 (Nw.refl _).drew1) ?_
  have c0 : ∀ d : Wd (CL w [(wp.heap.size, 0, a0), (wp.heap.size, 1, -1), (b, 0, -1), (b, 1, -1), (b, 2, a0), (b, 3, -1), (w.heap.size, 0, a0), (w.heap.size, 1, b0), (w.heap.size + 1, 0, (-1)), (w.heap.size + 1, 1, (-1))]), d.w.cell? ⟨wp.heap.size, 0, none⟩ = some (.int .i64 (a0)) := fun d => d.h.at (wp.heap.size) 0 (a0) (by simp)
  have c1 : ∀ d : Wd (CL w [(wp.heap.size, 0, a0), (wp.heap.size, 1, -1), (b, 0, -1), (b, 1, -1), (b, 2, a0), (b, 3, -1), (w.heap.size, 0, a0), (w.heap.size, 1, b0), (w.heap.size + 1, 0, (-1)), (w.heap.size + 1, 1, (-1))]), d.w.cell? ⟨wp.heap.size, 1, none⟩ = some (.int .i64 (-1)) := fun d => d.h.at (wp.heap.size) 1 (-1) (by simp)
  have c2 : ∀ d : Wd (CL w [(wp.heap.size, 0, a0), (wp.heap.size, 1, -1), (b, 0, -1), (b, 1, -1), (b, 2, a0), (b, 3, -1), (w.heap.size, 0, a0), (w.heap.size, 1, b0), (w.heap.size + 1, 0, (-1)), (w.heap.size + 1, 1, (-1))]), d.w.cell? ⟨b, 0, none⟩ = some (.int .i64 (-1)) := fun d => d.h.at (b) 0 (-1) (by simp)
  have c3 : ∀ d : Wd (CL w [(wp.heap.size, 0, a0), (wp.heap.size, 1, -1), (b, 0, -1), (b, 1, -1), (b, 2, a0), (b, 3, -1), (w.heap.size, 0, a0), (w.heap.size, 1, b0), (w.heap.size + 1, 0, (-1)), (w.heap.size + 1, 1, (-1))]), d.w.cell? ⟨b, 1, none⟩ = some (.int .i64 (-1)) := fun d => d.h.at (b) 1 (-1) (by simp)
  have c4 : ∀ d : Wd (CL w [(wp.heap.size, 0, a0), (wp.heap.size, 1, -1), (b, 0, -1), (b, 1, -1), (b, 2, a0), (b, 3, -1), (w.heap.size, 0, a0), (w.heap.size, 1, b0), (w.heap.size + 1, 0, (-1)), (w.heap.size + 1, 1, (-1))]), d.w.cell? ⟨b, 2, none⟩ = some (.int .i64 (a0)) := fun d => d.h.at (b) 2 (a0) (by simp)
  have c5 : ∀ d : Wd (CL w [(wp.heap.size, 0, a0), (wp.heap.size, 1, -1), (b, 0, -1), (b, 1, -1), (b, 2, a0), (b, 3, -1), (w.heap.size, 0, a0), (w.heap.size, 1, b0), (w.heap.size + 1, 0, (-1)), (w.heap.size + 1, 1, (-1))]), d.w.cell? ⟨b, 3, none⟩ = some (.int .i64 (-1)) := fun d => d.h.at (b) 3 (-1) (by simp)
  have c6 : ∀ d : Wd (CL w [(wp.heap.size, 0, a0), (wp.heap.size, 1, -1), (b, 0, -1), (b, 1, -1), (b, 2, a0), (b, 3, -1), (w.heap.size, 0, a0), (w.heap.size, 1, b0), (w.heap.size + 1, 0, (-1)), (w.heap.size + 1, 1, (-1))]), d.w.cell? ⟨w.heap.size, 0, none⟩ = some (.int .i64 (a0)) := fun d => d.h.at (w.heap.size) 0 (a0) (by simp)
  have c7 : ∀ d : Wd (CL w [(wp.heap.size, 0, a0), (wp.heap.size, 1, -1), (b, 0, -1), (b, 1, -1), (b, 2, a0), (b, 3, -1), (w.heap.size, 0, a0), (w.heap.size, 1, b0), (w.heap.size + 1, 0, (-1)), (w.heap.size + 1, 1, (-1))]), d.w.cell? ⟨w.heap.size, 1, none⟩ = some (.int .i64 (b0)) := fun d => d.h.at (w.heap.size) 1 (b0) (by simp)
  have c8 : ∀ d : Wd (CL w [(wp.heap.size, 0, a0), (wp.heap.size, 1, -1), (b, 0, -1), (b, 1, -1), (b, 2, a0), (b, 3, -1), (w.heap.size, 0, a0), (w.heap.size, 1, b0), (w.heap.size + 1, 0, (-1)), (w.heap.size + 1, 1, (-1))]), d.w.cell? ⟨w.heap.size + 1, 0, none⟩ = some (.int .i64 ((-1))) := fun d => d.h.at (w.heap.size + 1) 0 ((-1)) (by simp)
  have c9 : ∀ d : Wd (CL w [(wp.heap.size, 0, a0), (wp.heap.size, 1, -1), (b, 0, -1), (b, 1, -1), (b, 2, a0), (b, 3, -1), (w.heap.size, 0, a0), (w.heap.size, 1, b0), (w.heap.size + 1, 0, (-1)), (w.heap.size + 1, 1, (-1))]), d.w.cell? ⟨w.heap.size + 1, 1, none⟩ = some (.int .i64 ((-1))) := fun d => d.h.at (w.heap.size + 1) 1 ((-1)) (by simp)
  have hne : Nonempty (Wd (CL w [(wp.heap.size, 0, a0), (wp.heap.size, 1, -1), (b, 0, -1), (b, 1, -1), (b, 2, a0), (b, 3, -1), (w.heap.size, 0, a0), (w.heap.size, 1, b0), (w.heap.size + 1, 0, (-1)), (w.heap.size + 1, 1, (-1))])) := ⟨⟨_, h6⟩⟩
  repeat (first | go_big_quiet_step (fail) | quiet_step (fail))
  refine wpQuiet_nil ?_
  intro d
  have h7 := d.h
  clear c0 c1 c2 c3 c4 c5 c6 c7 c8 c9 hne h6
  revert h7
  generalize d.w = w7
  intro h7
  have x0 : w7.cell? ⟨wp.heap.size, 0, none⟩ = some (.int .i64 (a0)) := h7.at (wp.heap.size) 0 (a0) (by simp)
  have x1 : w7.cell? ⟨wp.heap.size, 1, none⟩ = some (.int .i64 (-1)) := h7.at (wp.heap.size) 1 (-1) (by simp)
  have x2 : w7.cell? ⟨b, 0, none⟩ = some (.int .i64 (-1)) := h7.at (b) 0 (-1) (by simp)
  have x3 : w7.cell? ⟨b, 1, none⟩ = some (.int .i64 (-1)) := h7.at (b) 1 (-1) (by simp)
  have x4 : w7.cell? ⟨b, 2, none⟩ = some (.int .i64 (a0)) := h7.at (b) 2 (a0) (by simp)
  have x5 : w7.cell? ⟨b, 3, none⟩ = some (.int .i64 (-1)) := h7.at (b) 3 (-1) (by simp)
  have x6 : w7.cell? ⟨w.heap.size, 0, none⟩ = some (.int .i64 (a0)) := h7.at (w.heap.size) 0 (a0) (by simp)
  have x7 : w7.cell? ⟨w.heap.size, 1, none⟩ = some (.int .i64 (b0)) := h7.at (w.heap.size) 1 (b0) (by simp)
  have x8 : w7.cell? ⟨w.heap.size + 1, 0, none⟩ = some (.int .i64 ((-1))) := h7.at (w.heap.size + 1) 0 ((-1)) (by simp)
  have x9 : w7.cell? ⟨w.heap.size + 1, 1, none⟩ = some (.int .i64 ((-1))) := h7.at (w.heap.size + 1) 1 ((-1)) (by simp)
  go_wp2
  rw [rounds_succ]
  go_wp2
  clear x0 x1 x2 x3 x4 x5 x6 x7 x8 x9
  refine region_in (CL w [(wp.heap.size, 0, a0), (wp.heap.size, 1, -1), (b, 0, -1), (b, 1, -1), (b, 2, a0), (b, 3, -1), (w.heap.size, 0, a0), (w.heap.size, 1, b0), (w.heap.size + 1, 0, (-1)), (w.heap.size + 1, 1, (-1))]) (by kernel_rfl) (by kernel_rfl) (CL.step _ _ h7 (Nw.refl _).drew1) ?_
  have c0 : ∀ d : Wd (CL w [(wp.heap.size, 0, a0), (wp.heap.size, 1, -1), (b, 0, -1), (b, 1, -1), (b, 2, a0), (b, 3, -1), (w.heap.size, 0, a0), (w.heap.size, 1, b0), (w.heap.size + 1, 0, (-1)), (w.heap.size + 1, 1, (-1))]), d.w.cell? ⟨wp.heap.size, 0, none⟩ = some (.int .i64 (a0)) := fun d => d.h.at (wp.heap.size) 0 (a0) (by simp)
  have c1 : ∀ d : Wd (CL w [(wp.heap.size, 0, a0), (wp.heap.size, 1, -1), (b, 0, -1), (b, 1, -1), (b, 2, a0), (b, 3, -1), (w.heap.size, 0, a0), (w.heap.size, 1, b0), (w.heap.size + 1, 0, (-1)), (w.heap.size + 1, 1, (-1))]), d.w.cell? ⟨wp.heap.size, 1, none⟩ = some (.int .i64 (-1)) := fun d => d.h.at (wp.heap.size) 1 (-1) (by simp)
  have c2 : ∀ d : Wd (CL w [(wp.heap.size, 0, a0), (wp.heap.size, 1, -1), (b, 0, -1), (b, 1, -1), (b, 2, a0), (b, 3, -1), (w.heap.size, 0, a0), (w.heap.size, 1, b0), (w.heap.size + 1, 0, (-1)), (w.heap.size + 1, 1, (-1))]), d.w.cell? ⟨b, 0, none⟩ = some (.int .i64 (-1)) := fun d => d.h.at (b) 0 (-1) (by simp)
  have c3 : ∀ d : Wd (CL w [(wp.heap.size, 0, a0), (wp.heap.size, 1, -1), (b, 0, -1), (b, 1, -1), (b, 2, a0), (b, 3, -1), (w.heap.size, 0, a0), (w.heap.size, 1, b0), (w.heap.size + 1, 0, (-1)), (w.heap.size + 1, 1, (-1))]), d.w.cell? ⟨b, 1, none⟩ = some (.int .i64 (-1)) := fun d => d.h.at (b) 1 (-1) (by simp)
  have c4 : ∀ d : Wd (CL w [(wp.heap.size, 0, a0), (wp.heap.size, 1, -1), (b, 0, -1), (b, 1, -1), (b, 2, a0), (b, 3, -1), (w.heap.size, 0, a0), (w.heap.size, 1, b0), (w.heap.size + 1, 0, (-1)), (w.heap.size + 1, 1, (-1))]), d.w.cell? ⟨b, 2, none⟩ = some (.int .i64 (a0)) := fun d => d.h.at (b) 2 (a0) (by simp)
  have c5 : ∀ d : Wd (CL w [(wp.heap.size, 0, a0), (wp.heap.size, 1, -1), (b, 0, -1), (b, 1, -1), (b, 2, a0), (b, 3, -1), (w.heap.size, 0, a0), (w.heap.size, 1, b0), (w.heap.size + 1, 0, (-1)), (w.heap.size + 1, 1, (-1))]), d.w.cell? ⟨b, 3, none⟩ = some (.int .i64 (-1)) := fun d => d.h.at (b) 3 (-1) (by simp)
  have c6 : ∀ d : Wd (CL w [(wp.heap.size, 0, a0), (wp.heap.size, 1, -1), (b, 0, -1), (b, 1, -1), (b, 2, a0), (b, 3, -1), (w.heap.size, 0, a0), (w.heap.size, 1, b0), (w.heap.size + 1, 0, (-1)), (w.heap.size + 1, 1, (-1))]), d.w.cell? ⟨w.heap.size, 0, none⟩ = some (.int .i64 (a0)) := fun d => d.h.at (w.heap.size) 0 (a0) (by simp)
  have c7 : ∀ d : Wd (CL w [(wp.heap.size, 0, a0), (wp.heap.size, 1, -1), (b, 0, -1), (b, 1, -1), (b, 2, a0), (b, 3, -1), (w.heap.size, 0, a0), (w.heap.size, 1, b0), (w.heap.size + 1, 0, (-1)), (w.heap.size + 1, 1, (-1))]), d.w.cell? ⟨w.heap.size, 1, none⟩ = some (.int .i64 (b0)) := fun d => d.h.at (w.heap.size) 1 (b0) (by simp)
  have c8 : ∀ d : Wd (CL w [(wp.heap.size, 0, a0), (wp.heap.size, 1, -1), (b, 0, -1), (b, 1, -1), (b, 2, a0), (b, 3, -1), (w.heap.size, 0, a0), (w.heap.size, 1, b0), (w.heap.size + 1, 0, (-1)), (w.heap.size + 1, 1, (-1))]), d.w.cell? ⟨w.heap.size + 1, 0, none⟩ = some (.int .i64 ((-1))) := fun d => d.h.at (w.heap.size + 1) 0 ((-1)) (by simp)
  have c9 : ∀ d : Wd (CL w [(wp.heap.size, 0, a0), (wp.heap.size, 1, -1), (b, 0, -1), (b, 1, -1), (b, 2, a0), (b, 3, -1), (w.heap.size, 0, a0), (w.heap.size, 1, b0), (w.heap.size + 1, 0, (-1)), (w.heap.size + 1, 1, (-1))]), d.w.cell? ⟨w.heap.size + 1, 1, none⟩ = some (.int .i64 ((-1))) := fun d => d.h.at (w.heap.size + 1) 1 ((-1)) (by simp)
  have hne : Nonempty (Wd (CL w [(wp.heap.size, 0, a0), (wp.heap.size, 1, -1), (b, 0, -1), (b, 1, -1), (b, 2, a0), (b, 3, -1), (w.heap.size, 0, a0), (w.heap.size, 1, b0), (w.heap.size + 1, 0, (-1)), (w.heap.size + 1, 1, (-1))])) := ⟨⟨_, h7⟩⟩
  repeat (first | go_big_quiet_step ((first | exact quietN CL.step (level_val _ _ 1 _ hk1.out) | exact quietN CL.step (compare_val _ _ _ _ (-1) _ hcm2.out))) | quiet_step ((first | exact quietN CL.step (level_val _ _ 1 _ hk1.out) | exact quietN CL.step (compare_val _ _ _ _ (-1) _ hcm2.out))))
  refine wpQuiet_nil ?_
  intro d
  have h8 := d.h
  clear c0 c1 c2 c3 c4 c5 c6 c7 c8 c9 hne h7
  revert h8
  generalize d.w = w8
  intro h8
  have x0 : w8.cell? ⟨wp.heap.size, 0, none⟩ = some (.int .i64 (a0)) := h8.at (wp.heap.size) 0 (a0) (by simp)
  have x1 : w8.cell? ⟨wp.heap.size, 1, none⟩ = some (.int .i64 (-1)) := h8.at (wp.heap.size) 1 (-1) (by simp)
  have x2 : w8.cell? ⟨b, 0, none⟩ = some (.int .i64 (-1)) := h8.at (b) 0 (-1) (by simp)
  have x3 : w8.cell? ⟨b, 1, none⟩ = some (.int .i64 (-1)) := h8.at (b) 1 (-1) (by simp)
  have x4 : w8.cell? ⟨b, 2, none⟩ = some (.int .i64 (a0)) := h8.at (b) 2 (a0) (by simp)
  have x5 : w8.cell? ⟨b, 3, none⟩ = some (.int .i64 (-1)) := h8.at (b) 3 (-1) (by simp)
  have x6 : w8.cell? ⟨w.heap.size, 0, none⟩ = some (.int .i64 (a0)) := h8.at (w.heap.size) 0 (a0) (by simp)
  have x7 : w8.cell? ⟨w.heap.size, 1, none⟩ = some (.int .i64 (b0)) := h8.at (w.heap.size) 1 (b0) (by simp)
  have x8 : w8.cell? ⟨w.heap.size + 1, 0, none⟩ = some (.int .i64 ((-1))) := h8.at (w.heap.size + 1) 0 ((-1)) (by simp)
  have x9 : w8.cell? ⟨w.heap.size + 1, 1, none⟩ = some (.int .i64 ((-1))) := h8.at (w.heap.size + 1) 1 ((-1)) (by simp)
  go_wp2
  clear x0 x1 x2 x3 x4 x5 x6 x7 x8 x9
  refine region_in (CL w [(wp.heap.size, 0, a0), (wp.heap.size, 1, -1), (b, 0, -1), (b, 1, -1), (b, 2, a0), (b, 3, -1), (w.heap.size, 0, a0), (w.heap.size, 1, b0), (w.heap.size + 1, 0, (-1)), (w.heap.size + 1, 1, (-1))]) (by kernel_rfl) (by kernel_rfl) (CL.step _ _ h8 (Nw.refl _).drew1) ?_
  have c0 : ∀ d : Wd (CL w [(wp.heap.size, 0, a0), (wp.heap.size, 1, -1), (b, 0, -1), (b, 1, -1), (b, 2, a0), (b, 3, -1), (w.heap.size, 0, a0), (w.heap.size, 1, b0), (w.heap.size + 1, 0, (-1)), (w.heap.size + 1, 1, (-1))]), d.w.cell? ⟨wp.heap.size, 0, none⟩ = some (.int .i64 (a0)) := fun d => d.h.at (wp.heap.size) 0 (a0) (by simp)
  have c1 : ∀ d : Wd (CL w [(wp.heap.size, 0, a0), (wp.heap.size, 1, -1), (b, 0, -1), (b, 1, -1), (b, 2, a0), (b, 3, -1), (w.heap.size, 0, a0), (w.heap.size, 1, b0), (w.heap.size + 1, 0, (-1)), (w.heap.size + 1, 1, (-1))]), d.w.cell? ⟨wp.heap.size, 1, none⟩ = some (.int .i64 (-1)) := fun d => d.h.at (wp.heap.size) 1 (-1) (by simp)
  have c2 : ∀ d : Wd (CL w [(wp.heap.size, 0, a0), (wp.heap.size, 1, -1), (b, 0, -1), (b, 1, -1), (b, 2, a0), (b, 3, -1), (w.heap.size, 0, a0), (w.heap.size, 1, b0), (w.heap.size + 1, 0, (-1)), (w.heap.size + 1, 1, (-1))]), d.w.cell? ⟨b, 0, none⟩ = some (.int .i64 (-1)) := fun d => d.h.at (b) 0 (-1) (by simp)
  have c3 : ∀ d : Wd (CL w [(wp.heap.size, 0, a0), (wp.heap.size, 1, -1), (b, 0, -1), (b, 1, -1), (b, 2, a0), (b, 3, -1), (w.heap.size, 0, a0), (w.heap.size, 1, b0), (w.heap.size + 1, 0, (-1)), (w.heap.size + 1, 1, (-1))]), d.w.cell? ⟨b, 1, none⟩ = some (.int .i64 (-1)) := fun d => d.h.at (b) 1 (-1) (by simp)
  have c4 : ∀ d : Wd (CL w [(wp.heap.size, 0, a0), (wp.heap.size, 1, -1), (b, 0, -1), (b, 1, -1), (b, 2, a0), (b, 3, -1), (w.heap.size, 0, a0), (w.heap.size, 1, b0), (w.heap.size + 1, 0, (-1)), (w.heap.size + 1, 1, (-1))]), d.w.cell? ⟨b, 2, none⟩ = some (.int .i64 (a0)) := fun d => d.h.at (b) 2 (a0) (by simp)
  have c5 : ∀ d : Wd (CL w [(wp.heap.size, 0, a0), (wp.heap.size, 1, -1), (b, 0, -1), (b, 1, -1), (b, 2, a0), (b, 3, -1), (w.heap.size, 0, a0), (w.heap.size, 1, b0), (w.heap.size + 1, 0, (-1)), (w.heap.size + 1, 1, (-1))]), d.w.cell? ⟨b, 3, none⟩ = some (.int .i64 (-1)) := fun d => d.h.at (b) 3 (-1) (by simp)
  have c6 : ∀ d : Wd (CL w [(wp.heap.size, 0, a0), (wp.heap.size, 1, -1), (b, 0, -1), (b, 1, -1), (b, 2, a0), (b, 3, -1), (w.heap.size, 0, a0), (w.heap.size, 1, b0), (w.heap.size + 1, 0, (-1)), (w.heap.size + 1, 1, (-1))]), d.w.cell? ⟨w.heap.size, 0, none⟩ = some (.int .i64 (a0)) := fun d => d.h.at (w.heap.size) 0 (a0) (by simp)
  have c7 : ∀ d : Wd (CL w [(wp.heap.size, 0, a0), (wp.heap.size, 1, -1), (b, 0, -1), (b, 1, -1), (b, 2, a0), (b, 3, -1), (w.heap.size, 0, a0), (w.heap.size, 1, b0), (w.heap.size + 1, 0, (-1)), (w.heap.size + 1, 1, (-1))]), d.w.cell? ⟨w.heap.size, 1, none⟩ = some (.int .i64 (b0)) := fun d => d.h.at (w.heap.size) 1 (b0) (by simp)
  have c8 : ∀ d : Wd (CL w [(wp.heap.size, 0, a0), (wp.heap.size, 1, -1), (b, 0, -1), (b, 1, -1), (b, 2, a0), (b, 3, -1), (w.heap.size, 0, a0), (w.heap.size, 1, b0), (w.heap.size + 1, 0, (-1)), (w.heap.size + 1, 1, (-1))]), d.w.cell? ⟨w.heap.size + 1, 0, none⟩ = some (.int .i64 ((-1))) := fun d => d.h.at (w.heap.size + 1) 0 ((-1)) (by simp)
  have c9 : ∀ d : Wd (CL w [(wp.heap.size, 0, a0), (wp.heap.size, 1, -1), (b, 0, -1), (b, 1, -1), (b, 2, a0), (b, 3, -1), (w.heap.size, 0, a0), (w.heap.size, 1, b0), (w.heap.size + 1, 0, (-1)), (w.heap.size + 1, 1, (-1))]), d.w.cell? ⟨w.heap.size + 1, 1, none⟩ = some (.int .i64 ((-1))) := fun d => d.h.at (w.heap.size + 1) 1 ((-1)) (by simp)
  have hne : Nonempty (Wd (CL w [(wp.heap.size, 0, a0), (wp.heap.size, 1, -1), (b, 0, -1), (b, 1, -1), (b, 2, a0), (b, 3, -1), (w.heap.size, 0, a0), (w.heap.size, 1, b0), (w.heap.size + 1, 0, (-1)), (w.heap.size + 1, 1, (-1))])) := ⟨⟨_, h8⟩⟩
  repeat (first | go_big_quiet_step (fail) | quiet_step (fail))
  refine wpQuiet_nil ?_
  intro d
  have h9 := d.h
  clear c0 c1 c2 c3 c4 c5 c6 c7 c8 c9 hne h8
  revert h9
  generalize d.w = w9
  intro h9
  have x0 : w9.cell? ⟨wp.heap.size, 0, none⟩ = some (.int .i64 (a0)) := h9.at (wp.heap.size) 0 (a0) (by simp)
  have x1 : w9.cell? ⟨wp.heap.size, 1, none⟩ = some (.int .i64 (-1)) := h9.at (wp.heap.size) 1 (-1) (by simp)
  have x2 : w9.cell? ⟨b, 0, none⟩ = some (.int .i64 (-1)) := h9.at (b) 0 (-1) (by simp)
  have x3 : w9.cell? ⟨b, 1, none⟩ = some (.int .i64 (-1)) := h9.at (b) 1 (-1) (by simp)
  have x4 : w9.cell? ⟨b, 2, none⟩ = some (.int .i64 (a0)) := h9.at (b) 2 (a0) (by simp)
  have x5 : w9.cell? ⟨b, 3, none⟩ = some (.int .i64 (-1)) := h9.at (b) 3 (-1) (by simp)
  have x6 : w9.cell? ⟨w.heap.size, 0, none⟩ = some (.int .i64 (a0)) := h9.at (w.heap.size) 0 (a0) (by simp)
  have x7 : w9.cell? ⟨w.heap.size, 1, none⟩ = some (.int .i64 (b0)) := h9.at (w.heap.size) 1 (b0) (by simp)
  have x8 : w9.cell? ⟨w.heap.size + 1, 0, none⟩ = some (.int .i64 ((-1))) := h9.at (w.heap.size + 1) 0 ((-1)) (by simp)
  have x9 : w9.cell? ⟨w.heap.size + 1, 1, none⟩ = some (.int .i64 ((-1))) := h9.at (w.heap.size + 1) 1 ((-1)) (by simp)
  go_wp2
  rw [rounds_succ]
  go_wp2_with fail
  refine (under_val _ _ _ _ true _ hu.out).mono ?_
  rintro e w10 ⟨rfl, g10⟩
  go_wp2
  go_ret
  exact ⟨rfl, h9.2.trans g10⟩

set_option maxHeartbeats 4000000 in
theorem rec_tab (a0 b0 : Int) (w : World) (hk : Hid (lvl a0 b0 = 2)) (hk1 : Hid (lvl a0 (-1) = 1)) (hcmp : Hid (or2 (c3 (-1) a0) (c3 (-1) b0) = -1)) (hcm2 : Hid (or2 (c3 a0 a0) (c3 (-1) b0) = -1)) (x0 : ((-1 : Int) == a0) = false) (x1 : ((-1 : Int) == b0) = false) (hu : Hid (und a0 b0 a0 (-1) = true)) :
    Calls Tryd.prog 6 #[.agg #[.int .i64 a0, .int .i64 b0], .agg #[.int .i64 a0, .int .i64 (-1)]] w fun e w' => e = .returned (.bool true) ∧ Nw w w' := by
  have hW0 : Nw w ((w.alloc (.cells #[.int .i64 a0, .int .i64 b0] 24)).alloc (.cells #[.int .i64 a0, .int .i64 (-1)] 24)) := ((Nw.refl _).alloc _).alloc _
  go_enter Tryd.func6, Tryd.ntmps6
  go_wp2_with fail
  refine (lives_ok _).mono ?_
  rintro e w' ⟨rfl, hg⟩
  (first | (replace hG := Nw.trans hG hg; clear hc hf) | have hG := hg)
  clear hg
  obtain ⟨hc, hf⟩ := hG.rules
  go_wp2_with fail
  refine (anc_rec _ _ _ hk.out).mono ?_
  rintro e w2 ⟨b, rfl, hn, hb, hg⟩
  replace hG := Nw.trans hG hg
  clear hc hf hg
  obtain ⟨hc, hf⟩ := hG.rules
  go_wp2_with fail
  refine (parent_rec _ _ _ hk.out).mono ?_
  rintro e wp ⟨rfl, g3⟩
  have hB := CL.step _ _ (CL.two w a0 b0 (a0) ((-1)) 24) (hG.trans g3)
  have n0 := (hn.2 0 (by simp)).1
  have n1 := (hn.2 0 (by simp)).2
  have n2 := (hn.2 1 (by simp)).1
  have n3 := (hn.2 1 (by simp)).2
  simp only [Nat.zero_mul, Nat.one_mul, Nat.zero_add, List.getElem_cons_zero, List.getElem_cons_succ] at n0 n1 n2 n3
  replace hB := (((hB.cons (g3.keep n3)).cons (g3.keep n2)).cons (g3.keep n1)).cons (g3.keep n0)
  replace hB := CL.step _ _ hB ((Nw.refl _).alloc (.cells #[.int .i64 a0, .int .i64 (-1)] 24))
  have m0 : (wp.alloc (.cells #[.int .i64 a0, .int .i64 (-1)] 24)).cell? ⟨wp.heap.size, 0, none⟩ = some (.int .i64 a0) := by simp [go_sem]
  have m1 : (wp.alloc (.cells #[.int .i64 a0, .int .i64 (-1)] 24)).cell? ⟨wp.heap.size, 1, none⟩ = some (.int .i64 (-1)) := by simp [go_sem]
  replace hB := (hB.cons m1).cons m0
  clear hc hf hG hn n0 n1 n2 n3 m0 m1 g3 hb
  go_wp2
  have k1 : IntKind.i64.wrap ((2 : Int) - 1) = 1 := by decide
  have k2 : IntKind.i64.wrap (1 : Int) = 1 := by decide
  have c0 : ∀ x, CL w [(wp.heap.size, 0, a0), (wp.heap.size, 1, -1), (b, 0, -1), (b, 1, -1), (b, 2, a0), (b, 3, -1), (w.heap.size, 0, a0), (w.heap.size, 1, b0), (w.heap.size + 1, 0, a0), (w.heap.size + 1, 1, (-1))] x → x.cell? ⟨wp.heap.size, 0, none⟩ = some (.int .i64 (a0)) := fun x h => h.at (wp.heap.size) 0 (a0) (by simp)
  have c1 : ∀ x, CL w [(wp.heap.size, 0, a0), (wp.heap.size, 1, -1), (b, 0, -1), (b, 1, -1), (b, 2, a0), (b, 3, -1), (w.heap.size, 0, a0), (w.heap.size, 1, b0), (w.heap.size + 1, 0, a0), (w.heap.size + 1, 1, (-1))] x → x.cell? ⟨wp.heap.size, 1, none⟩ = some (.int .i64 (-1)) := fun x h => h.at (wp.heap.size) 1 (-1) (by simp)
  have c2 : ∀ x, CL w [(wp.heap.size, 0, a0), (wp.heap.size, 1, -1), (b, 0, -1), (b, 1, -1), (b, 2, a0), (b, 3, -1), (w.heap.size, 0, a0), (w.heap.size, 1, b0), (w.heap.size + 1, 0, a0), (w.heap.size + 1, 1, (-1))] x → x.cell? ⟨b, 0, none⟩ = some (.int .i64 (-1)) := fun x h => h.at (b) 0 (-1) (by simp)
  have c3 : ∀ x, CL w [(wp.heap.size, 0, a0), (wp.heap.size, 1, -1), (b, 0, -1), (b, 1, -1), (b, 2, a0), (b, 3, -1), (w.heap.size, 0, a0), (w.heap.size, 1, b0), (w.heap.size + 1, 0, a0), (w.heap.size + 1, 1, (-1))] x → x.cell? ⟨b, 1, none⟩ = some (.int .i64 (-1)) := fun x h => h.at (b) 1 (-1) (by simp)
  have c4 : ∀ x, CL w [(wp.heap.size, 0, a0), (wp.heap.size, 1, -1), (b, 0, -1), (b, 1, -1), (b, 2, a0), (b, 3, -1), (w.heap.size, 0, a0), (w.heap.size, 1, b0), (w.heap.size + 1, 0, a0), (w.heap.size + 1, 1, (-1))] x → x.cell? ⟨b, 2, none⟩ = some (.int .i64 (a0)) := fun x h => h.at (b) 2 (a0) (by simp)
  have c5 : ∀ x, CL w [(wp.heap.size, 0, a0), (wp.heap.size, 1, -1), (b, 0, -1), (b, 1, -1), (b, 2, a0), (b, 3, -1), (w.heap.size, 0, a0), (w.heap.size, 1, b0), (w.heap.size + 1, 0, a0), (w.heap.size + 1, 1, (-1))] x → x.cell? ⟨b, 3, none⟩ = some (.int .i64 (-1)) := fun x h => h.at (b) 3 (-1) (by simp)
  have c6 : ∀ x, CL w [(wp.heap.size, 0, a0), (wp.heap.size, 1, -1), (b, 0, -1), (b, 1, -1), (b, 2, a0), (b, 3, -1), (w.heap.size, 0, a0), (w.heap.size, 1, b0), (w.heap.size + 1, 0, a0), (w.heap.size + 1, 1, (-1))] x → x.cell? ⟨w.heap.size, 0, none⟩ = some (.int .i64 (a0)) := fun x h => h.at (w.heap.size) 0 (a0) (by simp)
  have c7 : ∀ x, CL w [(wp.heap.size, 0, a0), (wp.heap.size, 1, -1), (b, 0, -1), (b, 1, -1), (b, 2, a0), (b, 3, -1), (w.heap.size, 0, a0), (w.heap.size, 1, b0), (w.heap.size + 1, 0, a0), (w.heap.size + 1, 1, (-1))] x → x.cell? ⟨w.heap.size, 1, none⟩ = some (.int .i64 (b0)) := fun x h => h.at (w.heap.size) 1 (b0) (by simp)
  have c8 : ∀ x, CL w [(wp.heap.size, 0, a0), (wp.heap.size, 1, -1), (b, 0, -1), (b, 1, -1), (b, 2, a0), (b, 3, -1), (w.heap.size, 0, a0), (w.heap.size, 1, b0), (w.heap.size + 1, 0, a0), (w.heap.size + 1, 1, (-1))] x → x.cell? ⟨w.heap.size + 1, 0, none⟩ = some (.int .i64 (a0)) := fun x h => h.at (w.heap.size + 1) 0 (a0) (by simp)
  have c9 : ∀ x, CL w [(wp.heap.size, 0, a0), (wp.heap.size, 1, -1), (b, 0, -1), (b, 1, -1), (b, 2, a0), (b, 3, -1), (w.heap.size, 0, a0), (w.heap.size, 1, b0), (w.heap.size + 1, 0, a0), (w.heap.size + 1, 1, (-1))] x → x.cell? ⟨w.heap.size + 1, 1, none⟩ = some (.int .i64 ((-1))) := fun x h => h.at (w.heap.size + 1) 1 ((-1)) (by simp)
  go_region_held3 (fun x => CL w [(wp.heap.size, 0, a0), (wp.heap.size, 1, -1), (b, 0, -1), (b, 1, -1), (b, 2, a0), (b, 3, -1), (w.heap.size, 0, a0), (w.heap.size, 1, b0), (w.heap.size + 1, 0, a0), (w.heap.size + 1, 1, (-1))] x) (first | assumption | exact CL.step' (Nw.refl _).drew1 hB | exact CL.step' (by assumption) (by assumption))
    (first | (go_at_call 18; refine (level_val _ _ 2 _ hk.out).mono ?_; rintro e w' ⟨rfl, hg⟩) | (go_at_call 23; refine (anc_tab _ _ hk1.out).mono ?_; rintro e w' ⟨b', rfl, hn, hb, hg⟩) | (go_at_call 30; refine (same_names b 0 2 b' 0 1 [(-1, -1)] _ (ncells_one (c2 _ (by assumption)) (c3 _ (by assumption))) hn (by simp)).mono ?_; rintro e w' ⟨rfl, hg⟩))
  rename_i h5
  clear c0 c1 c2 c3 c4 c5 c6 c7 c8 c9 k1 k2 hB
  have x0 : w'.cell? ⟨wp.heap.size, 0, none⟩ = some (.int .i64 (a0)) := h5.at (wp.heap.size) 0 (a0) (by simp)
  have x1 : w'.cell? ⟨wp.heap.size, 1, none⟩ = some (.int .i64 (-1)) := h5.at (wp.heap.size) 1 (-1) (by simp)
  have x2 : w'.cell? ⟨b, 0, none⟩ = some (.int .i64 (-1)) := h5.at (b) 0 (-1) (by simp)
  have x3 : w'.cell? ⟨b, 1, none⟩ = some (.int .i64 (-1)) := h5.at (b) 1 (-1) (by simp)
  have x4 : w'.cell? ⟨b, 2, none⟩ = some (.int .i64 (a0)) := h5.at (b) 2 (a0) (by simp)
  have x5 : w'.cell? ⟨b, 3, none⟩ = some (.int .i64 (-1)) := h5.at (b) 3 (-1) (by simp)
  have x6 : w'.cell? ⟨w.heap.size, 0, none⟩ = some (.int .i64 (a0)) := h5.at (w.heap.size) 0 (a0) (by simp)
  have x7 : w'.cell? ⟨w.heap.size, 1, none⟩ = some (.int .i64 (b0)) := h5.at (w.heap.size) 1 (b0) (by simp)
  have x8 : w'.cell? ⟨w.heap.size + 1, 0, none⟩ = some (.int .i64 (a0)) := h5.at (w.heap.size + 1) 0 (a0) (by simp)
  have x9 : w'.cell? ⟨w.heap.size + 1, 1, none⟩ = some (.int .i64 ((-1))) := h5.at (w.heap.size + 1) 1 ((-1)) (by simp)
  go_wp2
  refine wp_loop_rounds 3 ?_
  rw [rounds_succ]
  go_wp2
  clear x0 x1 x2 x3 x4 x5 x6 x7 x8 x9
  refine region_in (CL w [(wp.heap.size, 0, a0), (wp.heap.size, 1, -1), (b, 0, -1), (b, 1, -1), (b, 2, a0), (b, 3, -1), (w.heap.size, 0, a0), (w.heap.size, 1, b0), (w.heap.size + 1, 0, a0), (w.heap.size + 1, 1, (-1))]) (by kernel_rfl) (by kernel_rfl) (CL.step _ _ h5 (Nw.refl _).drew1) ?_
  have c0 : ∀ d : Wd (CL w [(wp.heap.size, 0, a0), (wp.heap.size, 1, -1), (b, 0, -1), (b, 1, -1), (b, 2, a0), (b, 3, -1), (w.heap.size, 0, a0), (w.heap.size, 1, b0), (w.heap.size + 1, 0, a0), (w.heap.size + 1, 1, (-1))]), d.w.cell? ⟨wp.heap.size, 0, none⟩ = some (.int .i64 (a0)) := fun d => d.h.at (wp.heap.size) 0 (a0) (by simp)
  have c1 : ∀ d : Wd (CL w [(wp.heap.size, 0, a0), (wp.heap.size, 1, -1), (b, 0, -1), (b, 1, -1), (b, 2, a0), (b, 3, -1), (w.heap.size, 0, a0), (w.heap.size, 1, b0), (w.heap.size + 1, 0, a0), (w.heap.size + 1, 1, (-1))]), d.w.cell? ⟨wp.heap.size, 1, none⟩ = some (.int .i64 (-1)) := fun d => d.h.at (wp.heap.size) 1 (-1) (by simp)
  have c2 : ∀ d : Wd (CL w [(wp.heap.size, 0, a0), (wp.heap.size, 1, -1), (b, 0, -1), (b, 1, -1), (b, 2, a0), (b, 3, -1), (w.heap.size, 0, a0), (w.heap.size, 1, b0), (w.heap.size + 1, 0, a0), (w.heap.size + 1, 1, (-1))]), d.w.cell? ⟨b, 0, none⟩ = some (.int .i64 (-1)) := fun d => d.h.at (b) 0 (-1) (by simp)
  have c3 : ∀ d : Wd (CL w [(wp.heap.size, 0, a0), (wp.heap.size, 1, -1), (b, 0, -1), (b, 1, -1), (b, 2, a0), (b, 3, -1), (w.heap.size, 0, a0), (w.heap.size, 1, b0), (w.heap.size + 1, 0, a0), (w.heap.size + 1, 1, (-1))]), d.w.cell? ⟨b, 1, none⟩ = some (.int .i64 (-1)) := fun d => d.h.at (b) 1 (-1) (by simp)
  have c4 : ∀ d : Wd (CL w [(wp.heap.size, 0, a0), (wp.heap.size, 1, -1), (b, 0, -1), (b, 1, -1), (b, 2, a0), (b, 3, -1), (w.heap.size, 0, a0), (w.heap.size, 1, b0), (w.heap.size + 1, 0, a0), (w.heap.size + 1, 1, (-1))]), d.w.cell? ⟨b, 2, none⟩ = some (.int .i64 (a0)) := fun d => d.h.at (b) 2 (a0) (by simp)
  have c5 : ∀ d : Wd (CL w [(wp.heap.size, 0, a0), (wp.heap.size, 1, -1), (b, 0, -1), (b, 1, -1), (b, 2, a0), (b, 3, -1), (w.heap.size, 0, a0), (w.heap.size, 1, b0), (w.heap.size + 1, 0, a0), (w.heap.size + 1, 1, (-1))]), d.w.cell? ⟨b, 3, none⟩ = some (.int .i64 (-1)) := fun d => d.h.at (b) 3 (-1) (by simp)
  have c6 : ∀ d : Wd (CL w [(wp.heap.size, 0, a0), (wp.heap.size, 1, -1), (b, 0, -1), (b, 1, -1), (b, 2, a0), (b, 3, -1), (w.heap.size, 0, a0), (w.heap.size, 1, b0), (w.heap.size + 1, 0, a0), (w.heap.size + 1, 1, (-1))]), d.w.cell? ⟨w.heap.size, 0, none⟩ = some (.int .i64 (a0)) := fun d => d.h.at (w.heap.size) 0 (a0) (by simp)
  have c7 : ∀ d : Wd (CL w [(wp.heap.size, 0, a0), (wp.heap.size, 1, -1), (b, 0, -1), (b, 1, -1), (b, 2, a0), (b, 3, -1), (w.heap.size, 0, a0), (w.heap.size, 1, b0), (w.heap.size + 1, 0, a0), (w.heap.size + 1, 1, (-1))]), d.w.cell? ⟨w.heap.size, 1, none⟩ = some (.int .i64 (b0)) := fun d => d.h.at (w.heap.size) 1 (b0) (by simp)
  have c8 : ∀ d : Wd (CL w [(wp.heap.size, 0, a0), (wp.heap.size, 1, -1), (b, 0, -1), (b, 1, -1), (b, 2, a0), (b, 3, -1), (w.heap.size, 0, a0), (w.heap.size, 1, b0), (w.heap.size + 1, 0, a0), (w.heap.size + 1, 1, (-1))]), d.w.cell? ⟨w.heap.size + 1, 0, none⟩ = some (.int .i64 (a0)) := fun d => d.h.at (w.heap.size + 1) 0 (a0) (by simp)
  have c9 : ∀ d : Wd (CL w [(wp.heap.size, 0, a0), (wp.heap.size, 1, -1), (b, 0, -1), (b, 1, -1), (b, 2, a0), (b, 3, -1), (w.heap.size, 0, a0), (w.heap.size, 1, b0), (w.heap.size + 1, 0, a0), (w.heap.size + 1, 1, (-1))]), d.w.cell? ⟨w.heap.size + 1, 1, none⟩ = some (.int .i64 ((-1))) := fun d => d.h.at (w.heap.size + 1) 1 ((-1)) (by simp)
  have hne : Nonempty (Wd (CL w [(wp.heap.size, 0, a0), (wp.heap.size, 1, -1), (b, 0, -1), (b, 1, -1), (b, 2, a0), (b, 3, -1), (w.heap.size, 0, a0), (w.heap.size, 1, b0), (w.heap.size + 1, 0, a0), (w.heap.size + 1, 1, (-1))])) := ⟨⟨_, h5⟩⟩
  repeat (first | go_big_quiet_step ((first | exact quietN CL.step (level_db _) | exact quietN CL.step (compare_val _ _ _ _ (-1) _ hcmp.out))) | quiet_step ((first | exact quietN CL.step (level_db _) | exact quietN CL.step (compare_val _ _ _ _ (-1) _ hcmp.out))))
  refine wpQuiet_nil ?_
  intro d
  have h6 := d.h
  clear c0 c1 c2 c3 c4 c5 c6 c7 c8 c9 hne h5
  revert h6
  generalize d.w = w6
  intro h6
  have x0 : w6.cell? ⟨wp.heap.size, 0, none⟩ = some (.int .i64 (a0)) := h6.at (wp.heap.size) 0 (a0) (by simp)
  have x1 : w6.cell? ⟨wp.heap.size, 1, none⟩ = some (.int .i64 (-1)) := h6.at (wp.heap.size) 1 (-1) (by simp)
  have x2 : w6.cell? ⟨b, 0, none⟩ = some (.int .i64 (-1)) := h6.at (b) 0 (-1) (by simp)
  have x3 : w6.cell? ⟨b, 1, none⟩ = some (.int .i64 (-1)) := h6.at (b) 1 (-1) (by simp)
  have x4 : w6.cell? ⟨b, 2, none⟩ = some (.int .i64 (a0)) := h6.at (b) 2 (a0) (by simp)
  have x5 : w6.cell? ⟨b, 3, none⟩ = some (.int .i64 (-1)) := h6.at (b) 3 (-1) (by simp)
  have x6 : w6.cell? ⟨w.heap.size, 0, none⟩ = some (.int .i64 (a0)) := h6.at (w.heap.size) 0 (a0) (by simp)
  have x7 : w6.cell? ⟨w.heap.size, 1, none⟩ = some (.int .i64 (b0)) := h6.at (w.heap.size) 1 (b0) (by simp)
  have x8 : w6.cell? ⟨w.heap.size + 1, 0, none⟩ = some (.int .i64 (a0)) := h6.at (w.heap.size + 1) 0 (a0) (by simp)
  have x9 : w6.cell? ⟨w.heap.size + 1, 1, none⟩ = some (.int .i64 ((-1))) := h6.at (w.heap.size + 1) 1 ((-1)) (by simp)
  go_wp2
  clear x0 x1 x2 x3 x4 x5 x6 x7 x8 x9
  refine region_in (CL w [(wp.heap.size, 0, a0), (wp.heap.size, 1, -1), (b, 0, -1), (b, 1, -1), (b, 2, a0), (b, 3, -1), (w.heap.size, 0, a0), (w.heap.size, 1, b0), (w.heap.size + 1, 0, a0), (w.heap.size + 1, 1, (-1))]) (by kernel_rfl) (by kernel_rfl) (CL.step _ _ h6 (Nw.refl _).drew1) ?_
  have c0 : ∀ d : Wd (CL w [(wp.heap.size, 0, a0), (wp.heap.size, 1, -1), (b, 0, -1), (b, 1, -1), (b, 2, a0), (b, 3, -1), (w.heap.size, 0, a0), (w.heap.size, 1, b0), (w.heap.size + 1, 0, a0), (w.heap.size + 1, 1, (-1))]), d.w.cell? ⟨wp.heap.size, 0, none⟩ = some (.int .i64 (a0)) := fun d => d.h.at (wp.heap.size) 0 (a0) (by simp)
  have c1 : ∀ d : Wd (CL w [(wp.heap.size, 0, a0), (wp.heap.size, 1, -1), (b, 0, -1), (b, 1, -1), (b, 2, a0), (b, 3, -1), (w.heap.size, 0, a0), (w.heap.size, 1, b0), (w.heap.size + 1, 0, a0), (w.heap.size + 1, 1, (-1))]), d.w.cell? ⟨wp.heap.size, 1, none⟩ = some (.int .i64 (-1)) := fun d => d.h.at (wp.heap.size) 1 (-1) (by simp)
  have c2 : ∀ d : Wd (CL w [(wp.heap.size, 0, a0), (wp.heap.size, 1, -1), (b, 0, -1), (b, 1, -1), (b, 2, a0), (b, 3, -1), (w.heap.size, 0, a0), (w.heap.size, 1, b0), (w.heap.size + 1, 0, a0), (w.heap.size + 1, 1, (-1))]), d.w.cell? ⟨b, 0, none⟩ = some (.int .i64 (-1)) := fun d => d.h.at (b) 0 (-1) (by simp)
  have c3 : ∀ d : Wd (CL w [(wp.heap.size, 0, a0), (wp.heap.size, 1, -1), (b, 0, -1), (b, 1, -1), (b, 2, a0), (b, 3, -1), (w.heap.size, 0, a0), (w.heap.size, 1, b0), (w.heap.size + 1, 0, a0), (w.heap.size + 1, 1, (-1))]), d.w.cell? ⟨b, 1, none⟩ = some (.int .i64 (-1)) := fun d => d.h.at (b) 1 (-1) (by simp)
  have c4 : ∀ d : Wd (CL w [(wp.heap.size, 0, a0), (wp.heap.size, 1, -1), (b, 0, -1), (b, 1, -1), (b, 2, a0), (b, 3, -1), (w.heap.size, 0, a0), (w.heap.size, 1, b0), (w.heap.size + 1, 0, a0), (w.heap.size + 1, 1, (-1))]), d.w.cell? ⟨b, 2, none⟩ = some (.int .i64 (a0)) := fun d => d.h.at (b) 2 (a0) (by simp)
  have c5 : ∀ d : Wd (CL w [(wp.heap.size, 0, a0), (wp.heap.size, 1, -1), (b, 0, -1), (b, 1, -1), (b, 2, a0), (b, 3, -1), (w.heap.size, 0, a0), (w.heap.size, 1, b0), (w.heap.size + 1, 0, a0), (w.heap.size + 1, 1, (-1))]), d.w.cell? ⟨b, 3, none⟩ = some (.int .i64 (-1)) := fun d => d.h.at (b) 3 (-1) (by simp)
  have c6 : ∀ d : Wd (CL w [(wp.heap.size, 0, a0), (wp.heap.size, 1, -1), (b, 0, -1), (b, 1, -1), (b, 2, a0), (b, 3, -1), (w.heap.size, 0, a0), (w.heap.size, 1, b0), (w.heap.size + 1, 0, a0), (w.heap.size + 1, 1, (-1))]), d.w.cell? ⟨w.heap.size, 0, none⟩ = some (.int .i64 (a0)) := fun d => d.h.at (w.heap.size) 0 (a0) (by simp)
  have c7 : ∀ d : Wd (CL w [(wp.heap.size, 0, a0), (wp.heap.size, 1, -1), (b, 0, -1), (b, 1, -1), (b, 2, a0), (b, 3, -1), (w.heap.size, 0, a0), (w.heap.size, 1, b0), (w.heap.size + 1, 0, a0), (w.heap.size + 1, 1, (-1))]), d.w.cell? ⟨w.heap.size, 1, none⟩ = some (.int .i64 (b0)) := fun d => d.h.at (w.heap.size) 1 (b0) (by simp)
  have c8 : ∀ d : Wd (CL w [(wp.heap.size, 0, a0), (wp.heap.size, 1, -1), (b, 0, -1), (b, 1, -1), (b, 2, a0), (b, 3, -1), (w.heap.size, 0, a0), (w.heap.size, 1, b0), (w.heap.size + 1, 0, a0), (w.heap.size + 1, 1, (-1))]), d.w.cell? ⟨w.heap.size + 1, 0, none⟩ = some (.int .i64 (a0)) := fun d => d.h.at (w.heap.size + 1) 0 (a0) (by simp)
  have c9 : ∀ d : Wd (CL w [(wp.heap.size, 0, a0), (wp.heap.size, 1, -1), (b, 0, -1), (b, 1, -1), (b, 2, a0), (b, 3, -1), (w.heap.size, 0, a0), (w.heap.size, 1, b0), (w.heap.size + 1, 0, a0), (w.heap.size + 1, 1, (-1))]), d.w.cell? ⟨w.heap.size + 1, 1, none⟩ = some (.int .i64 ((-1))) := fun d => d.h.at (w.heap.size + 1) 1 ((-1)) (by simp)
  have hne : Nonempty (Wd (CL w [(wp.heap.size, 0, a0), (wp.heap.size, 1, -1), (b, 0, -1), (b, 1, -1), (b, 2, a0), (b, 3, -1), (w.heap.size, 0, a0), (w.heap.size, 1, b0), (w.heap.size + 1, 0, a0), (w.heap.size + 1, 1, (-1))])) := ⟨⟨_, h6⟩⟩
  repeat (first | go_big_quiet_step (fail) | quiet_step (fail))
  refine wpQuiet_nil ?_
  intro d
  have h7 := d.h
  clear c0 c1 c2 c3 c4 c5 c6 c7 c8 c9 hne h6
  revert h7
  generalize d.w = w7
  intro h7
  have x0 : w7.cell? ⟨wp.heap.size, 0, none⟩ = some (.int .i64 (a0)) := h7.at (wp.heap.size) 0 (a0) (by simp)
  have x1 : w7.cell? ⟨wp.heap.size, 1, none⟩ = some (.int .i64 (-1)) := h7.at (wp.heap.size) 1 (-1) (by simp)
  have x2 : w7.cell? ⟨b, 0, none⟩ = some (.int .i64 (-1)) := h7.at (b) 0 (-1) (by simp)
  have x3 : w7.cell? ⟨b, 1, none⟩ = some (.int .i64 (-1)) := h7.at (b) 1 (-1) (by simp)
  have x4 : w7.cell? ⟨b, 2, none⟩ = some (.int .i64 (a0)) := h7.at (b) 2 (a0) (by simp)
  have x5 : w7.cell? ⟨b, 3, none⟩ = some (.int .i64 (-1)) := h7.at (b) 3 (-1) (by simp)
  have x6 : w7.cell? ⟨w.heap.size, 0, none⟩ = some (.int .i64 (a0)) := h7.at (w.heap.size) 0 (a0) (by simp)
  have x7 : w7.cell? ⟨w.heap.size, 1, none⟩ = some (.int .i64 (b0)) := h7.at (w.heap.size) 1 (b0) (by simp)
  have x8 : w7.cell? ⟨w.heap.size + 1, 0, none⟩ = some (.int .i64 (a0)) := h7.at (w.heap.size + 1) 0 (a0) (by simp)
  have x9 : w7.cell? ⟨w.heap.size + 1, 1, none⟩ = some (.int .i64 ((-1))) := h7.at (w.heap.size + 1) 1 ((-1)) (by simp)
  go_wp2
  rw [rounds_succ]
  go_wp2
  clear x0 x1 x2 x3 x4 x5 x6 x7 x8 x9
  refine region_in (CL w [(wp.heap.size, 0, a0), (wp.heap.size, 1, -1), (b, 0, -1), (b, 1, -1), (b, 2, a0), (b, 3, -1), (w.heap.size, 0, a0), (w.heap.size, 1, b0), (w.heap.size + 1, 0, a0), (w.heap.size + 1, 1, (-1))]) (by kernel_rfl) (by kernel_rfl) (CL.step _ _ h7 (Nw.refl _).drew1) ?_
  have c0 : ∀ d : Wd (CL w [(wp.heap.size, 0, a0), (wp.heap.size, 1, -1), (b, 0, -1), (b, 1, -1), (b, 2, a0), (b, 3, -1), (w.heap.size, 0, a0), (w.heap.size, 1, b0), (w.heap.size + 1, 0, a0), (w.heap.size + 1, 1, (-1))]), d.w.cell? ⟨wp.heap.size, 0, none⟩ = some (.int .i64 (a0)) := fun d => d.h.at (wp.heap.size) 0 (a0) (by simp)
  have c1 : ∀ d : Wd (CL w [(wp.heap.size, 0, a0), (wp.heap.size, 1, -1), (b, 0, -1), (b, 1, -1), (b, 2, a0), (b, 3, -1), (w.heap.size, 0, a0), (w.heap.size, 1, b0), (w.heap.size + 1, 0, a0), (w.heap.size + 1, 1, (-1))]), d.w.cell? ⟨wp.heap.size, 1, none⟩ = some (.int .i64 (-1)) := fun d => d.h.at (wp.heap.size) 1 (-1) (by simp)
  have c2 : ∀ d : Wd (CL w [(wp.heap.size, 0, a0), (wp.heap.size, 1, -1), (b, 0, -1), (b, 1, -1), (b, 2, a0), (b, 3, -1), (w.heap.size, 0, a0), (w.heap.size, 1, b0), (w.heap.size + 1, 0, a0), (w.heap.size + 1, 1, (-1))]), d.w.cell? ⟨b, 0, none⟩ = some (.int .i64 (-1)) := fun d => d.h.at (b) 0 (-1) (by simp)
  have c3 : ∀ d : Wd (CL w [(wp.heap.size, 0, a0), (wp.heap.size, 1, -1), (b, 0, -1), (b, 1, -1), (b, 2, a0), (b, 3, -1), (w.heap.size, 0, a0), (w.heap.size, 1, b0), (w.heap.size + 1, 0, a0), (w.heap.size + 1, 1, (-1))]), d.w.cell? ⟨b, 1, none⟩ = some (.int .i64 (-1)) := fun d => d.h.at (b) 1 (-1) (by simp)
  have c4 : ∀ d : Wd (CL w [(wp.heap.size, 0, a0), (wp.heap.size, 1, -1), (b, 0, -1), (b, 1, -1), (b, 2, a0), (b, 3, -1), (w.heap.size, 0, a0), (w.heap.size, 1, b0), (w.heap.size + 1, 0, a0), (w.heap.size + 1, 1, (-1))]), d.w.cell? ⟨b, 2, none⟩ = some (.int .i64 (a0)) := fun d => d.h.at (b) 2 (a0) (by simp)
  have c5 : ∀ d : Wd (CL w [(wp.heap.size, 0, a0), (wp.heap.size, 1, -1), (b, 0, -1), (b, 1, -1), (b, 2, a0), (b, 3, -1), (w.heap.size, 0, a0), (w.heap.size, 1, b0), (w.heap.size + 1, 0, a0), (w.heap.size + 1, 1, (-1))]), d.w.cell? ⟨b, 3, none⟩ = some (.int .i64 (-1)) := fun d => d.h.at (b) 3 (-1) (by simp)
  have c6 : ∀ d : Wd (CL w [(wp.heap.size, 0, a0), (wp.heap.size, 1, -1), (b, 0, -1), (b, 1, -1), (b, 2, a0), (b, 3, -1), (w.heap.size, 0, a0), (w.heap.size, 1, b0), (w.heap.size + 1, 0, a0), (w.heap.size + 1, 1, (-1))]), d.w.cell? ⟨w.heap.size, 0, none⟩ = some (.int .i64 (a0)) := fun d => d.h.at (w.heap.size) 0 (a0) (by simp)
  have c7 : ∀ d : Wd (CL w [(wp.heap.size, 0, a0), (wp.heap.size, 1, -1), (b, 0, -1), (b, 1, -1), (b, 2, a0), (b, 3, -1), (w.heap.size, 0, a0), (w.heap.size, 1, b0), (w.heap.size + 1, 0, a0), (w.heap.size + 1, 1, (-1))]), d.w.cell? ⟨w.heap.size, 1, none⟩ = some (.int .i64 (b0)) := fun d => d.h.at (w.heap.size) 1 (b0) (by simp)
  have c8 : ∀ d : Wd (CL w [(wp.heap.size, 0, a0), (wp.heap.size, 1, -1), (b, 0, -1), (b, 1, -1), (b, 2, a0), (b, 3, -1), (w.heap.size, 0, a0), (w.heap.size, 1, b0), (w.heap.size + 1, 0, a0), (w.heap.size + 1, 1, (-1))]), d.w.cell? ⟨w.heap.size + 1, 0, none⟩ = some (.int .i64 (a0)) := fun d => d.h.at (w.heap.size + 1) 0 (a0) (by simp)
  have c9 : ∀ d : Wd (CL w [(wp.heap.size, 0, a0), (wp.heap.size, 1, -1), (b, 0, -1), (b, 1, -1), (b, 2, a0), (b, 3, -1), (w.heap.size, 0, a0), (w.heap.size, 1, b0), (w.heap.size + 1, 0, a0), (w.heap.size + 1, 1, (-1))]), d.w.cell? ⟨w.heap.size + 1, 1, none⟩ = some (.int .i64 ((-1))) := fun d => d.h.at (w.heap.size + 1) 1 ((-1)) (by simp)
  have hne : Nonempty (Wd (CL w [(wp.heap.size, 0, a0), (wp.heap.size, 1, -1), (b, 0, -1), (b, 1, -1), (b, 2, a0), (b, 3, -1), (w.heap.size, 0, a0), (w.heap.size, 1, b0), (w.heap.size + 1, 0, a0), (w.heap.size + 1, 1, (-1))])) := ⟨⟨_, h7⟩⟩
  repeat (first | go_big_quiet_step ((first | exact quietN CL.step (level_val _ _ 1 _ hk1.out) | exact quietN CL.step (compare_val _ _ _ _ (-1) _ hcm2.out))) | quiet_step ((first | exact quietN CL.step (level_val _ _ 1 _ hk1.out) | exact quietN CL.step (compare_val _ _ _ _ (-1) _ hcm2.out))))
  refine wpQuiet_nil ?_
  intro d
  have h8 := d.h
  clear c0 c1 c2 c3 c4 c5 c6 c7 c8 c9 hne h7
  revert h8
  generalize d.w = w8
  intro h8
  have x0 : w8.cell? ⟨wp.heap.size, 0, none⟩ = some (.int .i64 (a0)) := h8.at (wp.heap.size) 0 (a0) (by simp)
  have x1 : w8.cell? ⟨wp.heap.size, 1, none⟩ = some (.int .i64 (-1)) := h8.at (wp.heap.size) 1 (-1) (by simp)
  have x2 : w8.cell? ⟨b, 0, none⟩ = some (.int .i64 (-1)) := h8.at (b) 0 (-1) (by simp)
  have x3 : w8.cell? ⟨b, 1, none⟩ = some (.int .i64 (-1)) := h8.at (b) 1 (-1) (by simp)
  have x4 : w8.cell? ⟨b, 2, none⟩ = some (.int .i64 (a0)) := h8.at (b) 2 (a0) (by simp)
  have x5 : w8.cell? ⟨b, 3, none⟩ = some (.int .i64 (-1)) := h8.at (b) 3 (-1) (by simp)
  have x6 : w8.cell? ⟨w.heap.size, 0, none⟩ = some (.int .i64 (a0)) := h8.at (w.heap.size) 0 (a0) (by simp)
  have x7 : w8.cell? ⟨w.heap.size, 1, none⟩ = some (.int .i64 (b0)) := h8.at (w.heap.size) 1 (b0) (by simp)
  have x8 : w8.cell? ⟨w.heap.size + 1, 0, none⟩ = some (.int .i64 (a0)) := h8.at (w.heap.size + 1) 0 (a0) (by simp)
  have x9 : w8.cell? ⟨w.heap.size + 1, 1, none⟩ = some (.int .i64 ((-1))) := h8.at (w.heap.size + 1) 1 ((-1)) (by simp)
  go_wp2
  clear x0 x1 x2 x3 x4 x5 x6 x7 x8 x9
  refine region_in (CL w [(wp.heap.size, 0, a0), (wp.heap.size, 1, -1), (b, 0, -1), (b, 1, -1), (b, 2, a0), (b, 3, -1), (w.heap.size, 0, a0), (w.heap.size, 1, b0), (w.heap.size + 1, 0, a0), (w.heap.size + 1, 1, (-1))]) (by kernel_rfl) (by kernel_rfl) (CL.step _ _ h8 (Nw.refl _).drew1) ?_
  have c0 : ∀ d : Wd (CL w [(wp.heap.size, 0, a0), (wp.heap.size, 1, -1), (b, 0, -1), (b, 1, -1), (b, 2, a0), (b, 3, -1), (w.heap.size, 0, a0), (w.heap.size, 1, b0), (w.heap.size + 1, 0, a0), (w.heap.size + 1, 1, (-1))]), d.w.cell? ⟨wp.heap.size, 0, none⟩ = some (.int .i64 (a0)) := fun d => d.h.at (wp.heap.size) 0 (a0) (by simp)
  have c1 : ∀ d : Wd (CL w [(wp.heap.size, 0, a0), (wp.heap.size, 1, -1), (b, 0, -1), (b, 1, -1), (b, 2, a0), (b, 3, -1), (w.heap.size, 0, a0), (w.heap.size, 1, b0), (w.heap.size + 1, 0, a0), (w.heap.size + 1, 1, (-1))]), d.w.cell? ⟨wp.heap.size, 1, none⟩ = some (.int .i64 (-1)) := fun d => d.h.at (wp.heap.size) 1 (-1) (by simp)
  have c2 : ∀ d : Wd (CL w [(wp.heap.size, 0, a0), (wp.heap.size, 1, -1), (b, 0, -1), (b, 1, -1), (b, 2, a0), (b, 3, -1), (w.heap.size, 0, a0), (w.heap.size, 1, b0), (w.heap.size + 1, 0, a0), (w.heap.size + 1, 1, (-1))]), d.w.cell? ⟨b, 0, none⟩ = some (.int .i64 (-1)) := fun d => d.h.at (b) 0 (-1) (by simp)
  have c3 : ∀ d : Wd (CL w [(wp.heap.size, 0, a0), (wp.heap.size, 1, -1), (b, 0, -1), (b, 1, -1), (b, 2, a0), (b, 3, -1), (w.heap.size, 0, a0), (w.heap.size, 1, b0), (w.heap.size + 1, 0, a0), (w.heap.size + 1, 1, (-1))]), d.w.cell? ⟨b, 1, none⟩ = some (.int .i64 (-1)) := fun d => d.h.at (b) 1 (-1) (by simp)
  have c4 : ∀ d : Wd (CL w [(wp.heap.size, 0, a0), (wp.heap.size, 1, -1), (b, 0, -1), (b, 1, -1), (b, 2, a0), (b, 3, -1), (w.heap.size, 0, a0), (w.heap.size, 1, b0), (w.heap.size + 1, 0, a0), (w.heap.size + 1, 1, (-1))]), d.w.cell? ⟨b, 2, none⟩ = some (.int .i64 (a0)) := fun d => d.h.at (b) 2 (a0) (by simp)
  have c5 : ∀ d : Wd (CL w [(wp.heap.size, 0, a0), (wp.heap.size, 1, -1), (b, 0, -1), (b, 1, -1), (b, 2, a0), (b, 3, -1), (w.heap.size, 0, a0), (w.heap.size, 1, b0), (w.heap.size + 1, 0, a0), (w.heap.size + 1, 1, (-1))]), d.w.cell? ⟨b, 3, none⟩ = some (.int .i64 (-1)) := fun d => d.h.at (b) 3 (-1) (by simp)
  have c6 : ∀ d : Wd (CL w [(wp.heap.size, 0, a0), (wp.heap.size, 1, -1), (b, 0, -1), (b, 1, -1), (b, 2, a0), (b, 3, -1), (w.heap.size, 0, a0), (w.heap.size, 1, b0), (w.heap.size + 1, 0, a0), (w.heap.size + 1, 1, (-1))]), d.w.cell? ⟨w.heap.size, 0, none⟩ = some (.int .i64 (a0)) := fun d => d.h.at (w.heap.size) 0 (a0) (by simp)
  have c7 : ∀ d : Wd (CL w [(wp.heap.size, 0, a0), (wp.heap.size, 1, -1), (b, 0, -1), (b, 1, -1), (b, 2, a0), (b, 3, -1), (w.heap.size, 0, a0), (w.heap.size, 1, b0), (w.heap.size + 1, 0, a0), (w.heap.size + 1, 1, (-1))]), d.w.cell? ⟨w.heap.size, 1, none⟩ = some (.int .i64 (b0)) := fun d => d.h.at (w.heap.size) 1 (b0) (by simp)
  have c8 : ∀ d : Wd (CL w [(wp.heap.size, 0, a0), (wp.heap.size, 1, -1), (b, 0, -1), (b, 1, -1), (b, 2, a0), (b, 3, -1), (w.heap.size, 0, a0), (w.heap.size, 1, b0), (w.heap.size + 1, 0, a0), (w.heap.size + 1, 1, (-1))]), d.w.cell? ⟨w.heap.size + 1, 0, none⟩ = some (.int .i64 (a0)) := fun d => d.h.at (w.heap.size + 1) 0 (a0) (by simp)
  have c9 : ∀ d : Wd (CL w [(wp.heap.size, 0, a0), (wp.heap.size, 1, -1), (b, 0, -1), (b, 1, -1), (b, 2, a0), (b, 3, -1), (w.heap.size, 0, a0), (w.heap.size, 1, b0), (w.heap.size + 1, 0, a0), (w.heap.size + 1, 1, (-1))]), d.w.cell? ⟨w.heap.size + 1, 1, none⟩ = some (.int .i64 ((-1))) := fun d => d.h.at (w.heap.size + 1) 1 ((-1)) (by simp)
  have hne : Nonempty (Wd (CL w [(wp.heap.size, 0, a0), (wp.heap.size, 1, -1), (b, 0, -1), (b, 1, -1), (b, 2, a0), (b, 3, -1), (w.heap.size, 0, a0), (w.heap.size, 1, b0), (w.heap.size + 1, 0, a0), (w.heap.size + 1, 1, (-1))])) := ⟨⟨_, h8⟩⟩
  repeat (first | go_big_quiet_step (fail) | quiet_step (fail))
  refine wpQuiet_nil ?_
  intro d
  have h9 := d.h
  clear c0 c1 c2 c3 c4 c5 c6 c7 c8 c9 hne h8
  revert h9
  generalize d.w = w9
  intro h9
  have x0 : w9.cell? ⟨wp.heap.size, 0, none⟩ = some (.int .i64 (a0)) := h9.at (wp.heap.size) 0 (a0) (by simp)
  have x1 : w9.cell? ⟨wp.heap.size, 1, none⟩ = some (.int .i64 (-1)) := h9.at (wp.heap.size) 1 (-1) (by simp)
  have x2 : w9.cell? ⟨b, 0, none⟩ = some (.int .i64 (-1)) := h9.at (b) 0 (-1) (by simp)
  have x3 : w9.cell? ⟨b, 1, none⟩ = some (.int .i64 (-1)) := h9.at (b) 1 (-1) (by simp)
  have x4 : w9.cell? ⟨b, 2, none⟩ = some (.int .i64 (a0)) := h9.at (b) 2 (a0) (by simp)
  have x5 : w9.cell? ⟨b, 3, none⟩ = some (.int .i64 (-1)) := h9.at (b) 3 (-1) (by simp)
  have x6 : w9.cell? ⟨w.heap.size, 0, none⟩ = some (.int .i64 (a0)) := h9.at (w.heap.size) 0 (a0) (by simp)
  have x7 : w9.cell? ⟨w.heap.size, 1, none⟩ = some (.int .i64 (b0)) := h9.at (w.heap.size) 1 (b0) (by simp)
  have x8 : w9.cell? ⟨w.heap.size + 1, 0, none⟩ = some (.int .i64 (a0)) := h9.at (w.heap.size + 1) 0 (a0) (by simp)
  have x9 : w9.cell? ⟨w.heap.size + 1, 1, none⟩ = some (.int .i64 ((-1))) := h9.at (w.heap.size + 1) 1 ((-1)) (by simp)
  go_wp2
  rw [rounds_succ]
  go_wp2_with fail
  refine (under_val _ _ _ _ true _ hu.out).mono ?_
  rintro e w10 ⟨rfl, g10⟩
  go_wp2
  go_ret
  exact ⟨rfl, h9.2.trans g10⟩
end Go.Proofs.YtdcjhjmbfpkigaaDoor.nameAbove
