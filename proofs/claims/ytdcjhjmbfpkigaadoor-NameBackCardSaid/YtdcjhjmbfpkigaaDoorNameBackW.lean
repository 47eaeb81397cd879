/- The walk of NameBack. -/
import Derived.Test.YtdcjhjmbfpkigaaDoorNameT
namespace Go.Proofs.YtdcjhjmbfpkigaaDoor.nameBack
open Go.ChangeShapes Go.WideShapes Go.ChangeAt Go.RowKit
set_option linter.unusedVariables false      -- a walk need not use every fact
theorem way_far (a0 b0 a1 b1 : Int) (s : ByteArray) (w : World) (hs : ¬ s.size ≤ 60) :
    Calls Tryd.prog 5 #[.agg #[.int .i64 a0, .int .i64 b0], .agg #[.int .i64 a1, .int .i64 b1], .string s] w fun e w' => e = .returned (.bool true) ∧ Nw w w' := by
  have hz : (60 : Int) < s.size := by omega
  go_enter Tryd.func5, Tryd.ntmps5
  go_wp2_with fail
  refine (lives_ok _).mono ?_
  rintro e w' ⟨rfl, hg⟩
  (first | (replace hG := Nw.trans hG hg; clear hc hf) | have hG := hg)
  clear hg
  obtain ⟨hc, hf⟩ := hG.rules
  go_wp2
  go_ret
  exact ⟨rfl, (((Nw.refl _).alloc _).alloc _).trans hG⟩

set_option maxHeartbeats 2000000 in
theorem way_ok_bad_hit (a0 b0 a1 b1 : Int) (s : ByteArray) (w : World) (hl : Libs w) (hs : s.size ≤ 60) (hv : Hid (lvl a0 b0 ≠ -1)) (hb : Hid (lvl a1 b1 = -1)) (p q : Int) (hp : Hid (lvl p q ≠ -1)) (hh : Hid (s.data.toList = txtL p q)) (hq : ((txt p q).toList == s.toList) = true) :
    Calls Tryd.prog 5 #[.agg #[.int .i64 a0, .int .i64 b0], .agg #[.int .i64 a1, .int .i64 b1], .string s] w fun e w' => e = .returned (.bool true) ∧ Nw w w' := by
  have hW0 : Nw w ((w.alloc (.cells #[.int .i64 a0, .int .i64 b0] 24)).alloc (.cells #[.int .i64 a1, .int .i64 b1] 24)) := ((Nw.refl _).alloc _).alloc _
  have hs' : (s.size : Int) ≤ 60 := by omega
  go_enter Tryd.func5, Tryd.ntmps5
  go_wp2_with fail
  refine (lives_ok _).mono ?_
  rintro e w' ⟨rfl, hg⟩
  (first | (replace hG := Nw.trans hG hg; clear hc hf) | have hG := hg)
  clear hg
  obtain ⟨hc, hf⟩ := hG.rules
  go_wp2_with fail
  refine (text_any a0 b0 _).mono ?_
  rintro e w' ⟨rfl, hg⟩
  (first | (replace hG := Nw.trans hG hg; clear hc hf) | have hG := hg)
  clear hg
  obtain ⟨hc, hf⟩ := hG.rules
  go_wp2_with fail
  refine (read_text a0 b0 _ (hl.grown (hW0.trans hG)) hv.out).mono ?_
  rintro e w' ⟨rfl, hg⟩
  (first | (replace hG := Nw.trans hG hg; clear hc hf) | have hG := hg)
  clear hg
  obtain ⟨hc, hf⟩ := hG.rules
  have q0 : ∀ o, (w'.alloc o).cell? ⟨w.heap.size, 0, none⟩ = some (.int .i64 a0) := fun _ => ((Nw.refl _).alloc _).keep (by simp [hc, go_sem])
  have q1 : ∀ o, (w'.alloc o).cell? ⟨w.heap.size, 1, none⟩ = some (.int .i64 b0) := fun _ => ((Nw.refl _).alloc _).keep (by simp [hc, go_sem])
  have hB := BoxL.step _ _ (BoxL.two w a0 b0 a1 b1 24) hG
  clear hc hf hG
  go_wp2_with fail
  refine (check_ok a0 b0 _ hv.out).mono ?_
  rintro e w4 ⟨rfl, g4⟩
  clear q0 q1
  have hB1 := BoxL.step _ _ hB (((Nw.refl _).alloc (.cells #[.int .i64 a0, .int .i64 b0] 24)).trans g4)
  have n0 : w4.cell? ⟨w'.heap.size, 0, none⟩ = some (.int .i64 a0) := g4.keep (by simp [go_sem])
  have n1 : w4.cell? ⟨w'.heap.size, 1, none⟩ = some (.int .i64 b0) := g4.keep (by simp [go_sem])
  replace hB1 := hB1.one n0 n1
  clear hB n0 n1
  go_wp2
  refine region_in (BoxL w [(w'.heap.size, a0, b0), (w.heap.size, a0, b0), (w.heap.size + 1, a1, b1)]) (by kernel_rfl) (by kernel_rfl) (BoxL.step _ _ hB1 (Nw.refl _).drew1) ?_
  have c0 : ∀ d : Wd (BoxL w [(w'.heap.size, a0, b0), (w.heap.size, a0, b0), (w.heap.size + 1, a1, b1)]), d.w.cell? ⟨w'.heap.size, 0, none⟩ = some (.int .i64 a0) := fun d => d.h.c0 _ a0 b0 (by simp)
  have c1 : ∀ d : Wd (BoxL w [(w'.heap.size, a0, b0), (w.heap.size, a0, b0), (w.heap.size + 1, a1, b1)]), d.w.cell? ⟨w'.heap.size, 1, none⟩ = some (.int .i64 b0) := fun d => d.h.c1 _ a0 b0 (by simp)
  have c2 : ∀ d : Wd (BoxL w [(w'.heap.size, a0, b0), (w.heap.size, a0, b0), (w.heap.size + 1, a1, b1)]), d.w.cell? ⟨w.heap.size, 0, none⟩ = some (.int .i64 a0) := fun d => d.h.c0 _ a0 b0 (by simp)
  have c3 : ∀ d : Wd (BoxL w [(w'.heap.size, a0, b0), (w.heap.size, a0, b0), (w.heap.size + 1, a1, b1)]), d.w.cell? ⟨w.heap.size, 1, none⟩ = some (.int .i64 b0) := fun d => d.h.c1 _ a0 b0 (by simp)
  have c4 : ∀ d : Wd (BoxL w [(w'.heap.size, a0, b0), (w.heap.size, a0, b0), (w.heap.size + 1, a1, b1)]), d.w.cell? ⟨w.heap.size + 1, 0, none⟩ = some (.int .i64 a1) := fun d => d.h.c0 _ a1 b1 (by simp)
  have c5 : ∀ d : Wd (BoxL w [(w'.heap.size, a0, b0), (w.heap.size, a0, b0), (w.heap.size + 1, a1, b1)]), d.w.cell? ⟨w.heap.size + 1, 1, none⟩ = some (.int .i64 b1) := fun d => d.h.c1 _ a1 b1 (by simp)
  have hne : Nonempty (Wd (BoxL w [(w'.heap.size, a0, b0), (w.heap.size, a0, b0), (w.heap.size + 1, a1, b1)])) := ⟨⟨_, hB1⟩⟩
  repeat (first | go_big_quiet_step ((first | exact quietN BoxL.step (check_no a1 b1 _ hb.out))) | quiet_step ((first | exact quietN BoxL.step (check_no a1 b1 _ hb.out))))
  refine wpQuiet_nil ?_
  intro d
  have h5 := d.h.2
  clear c0 c1 c2 c3 c4 c5 hne hB1
  revert h5
  generalize d.w = w5
  intro h5
  go_wp2_with fail
  refine (read_hit p q s _ (hl.grown h5) hs hp.out hh.out).mono ?_
  rintro e w6 ⟨rfl, g6⟩
  go_wp2_with fail
  refine (check_ok p q _ hp.out).mono ?_
  rintro e w7 ⟨rfl, g7⟩
  have m0 : w7.cell? ⟨w6.heap.size, 0, none⟩ = some (.int .i64 p) := g7.keep (by simp [go_sem])
  have m1 : w7.cell? ⟨w6.heap.size, 1, none⟩ = some (.int .i64 q) := g7.keep (by simp [go_sem])
  go_wp2_with fail
  refine (text_any p q _).mono ?_
  rintro e w8 ⟨rfl, g8⟩
  go_wp2
  go_ret
  exact ⟨rfl, (((h5.trans g6).alloc _).trans g7).trans g8⟩

set_option maxHeartbeats 2000000 in
theorem way_ok_bad_miss (a0 b0 a1 b1 : Int) (s : ByteArray) (w : World) (hl : Libs w) (hs : s.size ≤ 60) (hv : Hid (lvl a0 b0 ≠ -1)) (hb : Hid (lvl a1 b1 = -1)) (hh : Hid (∀ t r, lvl t r ≠ -1 → s.data.toList ≠ txtL t r)) :
    Calls Tryd.prog 5 #[.agg #[.int .i64 a0, .int .i64 b0], .agg #[.int .i64 a1, .int .i64 b1], .string s] w fun e w' => e = .returned (.bool true) ∧ Nw w w' := by
  have hW0 : Nw w ((w.alloc (.cells #[.int .i64 a0, .int .i64 b0] 24)).alloc (.cells #[.int .i64 a1, .int .i64 b1] 24)) := ((Nw.refl _).alloc _).alloc _
  have hs' : (s.size : Int) ≤ 60 := by omega
  go_enter Tryd.func5, Tryd.ntmps5
  go_wp2_with fail
  refine (lives_ok _).mono ?_
  rintro e w' ⟨rfl, hg⟩
  (first | (replace hG := Nw.trans hG hg; clear hc hf) | have hG := hg)
  clear hg
  obtain ⟨hc, hf⟩ := hG.rules
  go_wp2_with fail
  refine (text_any a0 b0 _).mono ?_
  rintro e w' ⟨rfl, hg⟩
  (first | (replace hG := Nw.trans hG hg; clear hc hf) | have hG := hg)
  clear hg
  obtain ⟨hc, hf⟩ := hG.rules
  go_wp2_with fail
  refine (read_text a0 b0 _ (hl.grown (hW0.trans hG)) hv.out).mono ?_
  rintro e w' ⟨rfl, hg⟩
  (first | (replace hG := Nw.trans hG hg; clear hc hf) | have hG := hg)
  clear hg
  obtain ⟨hc, hf⟩ := hG.rules
  have q0 : ∀ o, (w'.alloc o).cell? ⟨w.heap.size, 0, none⟩ = some (.int .i64 a0) := fun _ => ((Nw.refl _).alloc _).keep (by simp [hc, go_sem])
  have q1 : ∀ o, (w'.alloc o).cell? ⟨w.heap.size, 1, none⟩ = some (.int .i64 b0) := fun _ => ((Nw.refl _).alloc _).keep (by simp [hc, go_sem])
  have hB := BoxL.step _ _ (BoxL.two w a0 b0 a1 b1 24) hG
  clear hc hf hG
  go_wp2_with fail
  refine (check_ok a0 b0 _ hv.out).mono ?_
  rintro e w4 ⟨rfl, g4⟩
  clear q0 q1
  have hB1 := BoxL.step _ _ hB (((Nw.refl _).alloc (.cells #[.int .i64 a0, .int .i64 b0] 24)).trans g4)
  have n0 : w4.cell? ⟨w'.heap.size, 0, none⟩ = some (.int .i64 a0) := g4.keep (by simp [go_sem])
  have n1 : w4.cell? ⟨w'.heap.size, 1, none⟩ = some (.int .i64 b0) := g4.keep (by simp [go_sem])
  replace hB1 := hB1.one n0 n1
  clear hB n0 n1
  go_wp2
  refine region_in (BoxL w [(w'.heap.size, a0, b0), (w.heap.size, a0, b0), (w.heap.size + 1, a1, b1)]) (by kernel_rfl) (by kernel_rfl) (BoxL.step _ _ hB1 (Nw.refl _).drew1) ?_
  have c0 : ∀ d : Wd (BoxL w [(w'.heap.size, a0, b0), (w.heap.size, a0, b0), (w.heap.size + 1, a1, b1)]), d.w.cell? ⟨w'.heap.size, 0, none⟩ = some (.int .i64 a0) := fun d => d.h.c0 _ a0 b0 (by simp)
  have c1 : ∀ d : Wd (BoxL w [(w'.heap.size, a0, b0), (w.heap.size, a0, b0), (w.heap.size + 1, a1, b1)]), d.w.cell? ⟨w'.heap.size, 1, none⟩ = some (.int .i64 b0) := fun d => d.h.c1 _ a0 b0 (by simp)
  have c2 : ∀ d : Wd (BoxL w [(w'.heap.size, a0, b0), (w.heap.size, a0, b0), (w.heap.size + 1, a1, b1)]), d.w.cell? ⟨w.heap.size, 0, none⟩ = some (.int .i64 a0) := fun d => d.h.c0 _ a0 b0 (by simp)
  have c3 : ∀ d : Wd (BoxL w [(w'.heap.size, a0, b0), (w.heap.size, a0, b0), (w.heap.size + 1, a1, b1)]), d.w.cell? ⟨w.heap.size, 1, none⟩ = some (.int .i64 b0) := fun d => d.h.c1 _ a0 b0 (by simp)
  have c4 : ∀ d : Wd (BoxL w [(w'.heap.size, a0, b0), (w.heap.size, a0, b0), (w.heap.size + 1, a1, b1)]), d.w.cell? ⟨w.heap.size + 1, 0, none⟩ = some (.int .i64 a1) := fun d => d.h.c0 _ a1 b1 (by simp)
  have c5 : ∀ d : Wd (BoxL w [(w'.heap.size, a0, b0), (w.heap.size, a0, b0), (w.heap.size + 1, a1, b1)]), d.w.cell? ⟨w.heap.size + 1, 1, none⟩ = some (.int .i64 b1) := fun d => d.h.c1 _ a1 b1 (by simp)
  have hne : Nonempty (Wd (BoxL w [(w'.heap.size, a0, b0), (w.heap.size, a0, b0), (w.heap.size + 1, a1, b1)])) := ⟨⟨_, hB1⟩⟩
  repeat (first | go_big_quiet_step ((first | exact quietN BoxL.step (check_no a1 b1 _ hb.out))) | quiet_step ((first | exact quietN BoxL.step (check_no a1 b1 _ hb.out))))
  refine wpQuiet_nil ?_
  intro d
  have h5 := d.h.2
  clear c0 c1 c2 c3 c4 c5 hne hB1
  revert h5
  generalize d.w = w5
  intro h5
  go_wp2_with fail
  refine (read_miss s _ (hl.grown h5) hs hh.out).mono ?_
  rintro e w6 ⟨rfl, g6⟩
  go_wp2
  go_ret
  exact ⟨rfl, (h5.trans g6).alloc _⟩

set_option maxHeartbeats 2000000 in
theorem way_ok_same_hit (a0 b0 : Int) (s : ByteArray) (w : World) (hl : Libs w) (hs : s.size ≤ 60) (hv : Hid (lvl a0 b0 ≠ -1))  (p q : Int) (hp : Hid (lvl p q ≠ -1)) (hh : Hid (s.data.toList = txtL p q)) (hq : ((txt p q).toList == s.toList) = true) :
    Calls Tryd.prog 5 #[.agg #[.int .i64 a0, .int .i64 b0], .agg #[.int .i64 a0, .int .i64 b0], .string s] w fun e w' => e = .returned (.bool true) ∧ Nw w w' := by
  have hW0 : Nw w ((w.alloc (.cells #[.int .i64 a0, .int .i64 b0] 24)).alloc (.cells #[.int .i64 a0, .int .i64 b0] 24)) := ((Nw.refl _).alloc _).alloc _
  have hs' : (s.size : Int) ≤ 60 := by omega
  go_enter Tryd.func5, Tryd.ntmps5
  go_wp2_with fail
  refine (lives_ok _).mono ?_
  rintro e w' ⟨rfl, hg⟩
  (first | (replace hG := Nw.trans hG hg; clear hc hf) | have hG := hg)
  clear hg
  obtain ⟨hc, hf⟩ := hG.rules
  go_wp2_with fail
  refine (text_any a0 b0 _).mono ?_
  rintro e w' ⟨rfl, hg⟩
  (first | (replace hG := Nw.trans hG hg; clear hc hf) | have hG := hg)
  clear hg
  obtain ⟨hc, hf⟩ := hG.rules
  go_wp2_with fail
  refine (read_text a0 b0 _ (hl.grown (hW0.trans hG)) hv.out).mono ?_
  rintro e w' ⟨rfl, hg⟩
  (first | (replace hG := Nw.trans hG hg; clear hc hf) | have hG := hg)
  clear hg
  obtain ⟨hc, hf⟩ := hG.rules
  have q0 : ∀ o, (w'.alloc o).cell? ⟨w.heap.size, 0, none⟩ = some (.int .i64 a0) := fun _ => ((Nw.refl _).alloc _).keep (by simp [hc, go_sem])
  have q1 : ∀ o, (w'.alloc o).cell? ⟨w.heap.size, 1, none⟩ = some (.int .i64 b0) := fun _ => ((Nw.refl _).alloc _).keep (by simp [hc, go_sem])
  have hB := BoxL.step _ _ (BoxL.two w a0 b0 a0 b0 24) hG
  clear hc hf hG
  go_wp2_with fail
  refine (check_ok a0 b0 _ hv.out).mono ?_
  rintro e w4 ⟨rfl, g4⟩
  clear q0 q1
  have hB1 := BoxL.step _ _ hB (((Nw.refl _).alloc (.cells #[.int .i64 a0, .int .i64 b0] 24)).trans g4)
  have n0 : w4.cell? ⟨w'.heap.size, 0, none⟩ = some (.int .i64 a0) := g4.keep (by simp [go_sem])
  have n1 : w4.cell? ⟨w'.heap.size, 1, none⟩ = some (.int .i64 b0) := g4.keep (by simp [go_sem])
  replace hB1 := hB1.one n0 n1
  clear hB n0 n1
  go_wp2
  refine region_in (BoxL w [(w'.heap.size, a0, b0), (w.heap.size, a0, b0), (w.heap.size + 1, a0, b0)]) (by kernel_rfl) (by kernel_rfl) (BoxL.step _ _ hB1 (Nw.refl _).drew1) ?_
  have c0 : ∀ d : Wd (BoxL w [(w'.heap.size, a0, b0), (w.heap.size, a0, b0), (w.heap.size + 1, a0, b0)]), d.w.cell? ⟨w'.heap.size, 0, none⟩ = some (.int .i64 a0) := fun d => d.h.c0 _ a0 b0 (by simp)
  have c1 : ∀ d : Wd (BoxL w [(w'.heap.size, a0, b0), (w.heap.size, a0, b0), (w.heap.size + 1, a0, b0)]), d.w.cell? ⟨w'.heap.size, 1, none⟩ = some (.int .i64 b0) := fun d => d.h.c1 _ a0 b0 (by simp)
  have c2 : ∀ d : Wd (BoxL w [(w'.heap.size, a0, b0), (w.heap.size, a0, b0), (w.heap.size + 1, a0, b0)]), d.w.cell? ⟨w.heap.size, 0, none⟩ = some (.int .i64 a0) := fun d => d.h.c0 _ a0 b0 (by simp)
  have c3 : ∀ d : Wd (BoxL w [(w'.heap.size, a0, b0), (w.heap.size, a0, b0), (w.heap.size + 1, a0, b0)]), d.w.cell? ⟨w.heap.size, 1, none⟩ = some (.int .i64 b0) := fun d => d.h.c1 _ a0 b0 (by simp)
  have c4 : ∀ d : Wd (BoxL w [(w'.heap.size, a0, b0), (w.heap.size, a0, b0), (w.heap.size + 1, a0, b0)]), d.w.cell? ⟨w.heap.size + 1, 0, none⟩ = some (.int .i64 a0) := fun d => d.h.c0 _ a0 b0 (by simp)
  have c5 : ∀ d : Wd (BoxL w [(w'.heap.size, a0, b0), (w.heap.size, a0, b0), (w.heap.size + 1, a0, b0)]), d.w.cell? ⟨w.heap.size + 1, 1, none⟩ = some (.int .i64 b0) := fun d => d.h.c1 _ a0 b0 (by simp)
  have hne : Nonempty (Wd (BoxL w [(w'.heap.size, a0, b0), (w.heap.size, a0, b0), (w.heap.size + 1, a0, b0)])) := ⟨⟨_, hB1⟩⟩
  repeat (first | go_big_quiet_step ((first | exact quietN BoxL.step (check_ok a0 b0 _ hv.out) | exact quietN BoxL.step (text_any _ _ _))) | quiet_step ((first | exact quietN BoxL.step (check_ok a0 b0 _ hv.out) | exact quietN BoxL.step (text_any _ _ _))))
  refine wpQuiet_nil ?_
  intro d
  have h5 := d.h.2
  clear c0 c1 c2 c3 c4 c5 hne hB1
  revert h5
  generalize d.w = w5
  intro h5
  go_wp2_with fail
  refine (read_hit p q s _ (hl.grown h5) hs hp.out hh.out).mono ?_
  rintro e w6 ⟨rfl, g6⟩
  go_wp2_with fail
  refine (check_ok p q _ hp.out).mono ?_
  rintro e w7 ⟨rfl, g7⟩
  have m0 : w7.cell? ⟨w6.heap.size, 0, none⟩ = some (.int .i64 p) := g7.keep (by simp [go_sem])
  have m1 : w7.cell? ⟨w6.heap.size, 1, none⟩ = some (.int .i64 q) := g7.keep (by simp [go_sem])
  go_wp2_with fail
  refine (text_any p q _).mono ?_
  rintro e w8 ⟨rfl, g8⟩
  go_wp2
  go_ret
  exact ⟨rfl, (((h5.trans g6).alloc _).trans g7).trans g8⟩

set_option maxHeartbeats 2000000 in
theorem way_ok_same_miss (a0 b0 : Int) (s : ByteArray) (w : World) (hl : Libs w) (hs : s.size ≤ 60) (hv : Hid (lvl a0 b0 ≠ -1))  (hh : Hid (∀ t r, lvl t r ≠ -1 → s.data.toList ≠ txtL t r)) :
    Calls Tryd.prog 5 #[.agg #[.int .i64 a0, .int .i64 b0], .agg #[.int .i64 a0, .int .i64 b0], .string s] w fun e w' => e = .returned (.bool true) ∧ Nw w w' := by
  have hW0 : Nw w ((w.alloc (.cells #[.int .i64 a0, .int .i64 b0] 24)).alloc (.cells #[.int .i64 a0, .int .i64 b0] 24)) := ((Nw.refl _).alloc _).alloc _
  have hs' : (s.size : Int) ≤ 60 := by omega
  go_enter Tryd.func5, Tryd.ntmps5
  go_wp2_with fail
  refine (lives_ok _).mono ?_
  rintro e w' ⟨rfl, hg⟩
  (first | (replace hG := Nw.trans hG hg; clear hc hf) | have hG := hg)
  clear hg
  obtain ⟨hc, hf⟩ := hG.rules
  go_wp2_with fail
  refine (text_any a0 b0 _).mono ?_
  rintro e w' ⟨rfl, hg⟩
  (first | (replace hG := Nw.trans hG hg; clear hc hf) | have hG := hg)
  clear hg
  obtain ⟨hc, hf⟩ := hG.rules
  go_wp2_with fail
  refine (read_text a0 b0 _ (hl.grown (hW0.trans hG)) hv.out).mono ?_
  rintro e w' ⟨rfl, hg⟩
  (first | (replace hG := Nw.trans hG hg; clear hc hf) | have hG := hg)
  clear hg
  obtain ⟨hc, hf⟩ := hG.rules
  have q0 : ∀ o, (w'.alloc o).cell? ⟨w.heap.size, 0, none⟩ = some (.int .i64 a0) := fun _ => ((Nw.refl _).alloc _).keep (by simp [hc, go_sem])
  have q1 : ∀ o, (w'.alloc o).cell? ⟨w.heap.size, 1, none⟩ = some (.int .i64 b0) := fun _ => ((Nw.refl _).alloc _).keep (by simp [hc, go_sem])
  have hB := BoxL.step _ _ (BoxL.two w a0 b0 a0 b0 24) hG
  clear hc hf hG
  go_wp2_with fail
  refine (check_ok a0 b0 _ hv.out).mono ?_
  rintro e w4 ⟨rfl, g4⟩
  clear q0 q1
  have hB1 := BoxL.step _ _ hB (((Nw.refl _).alloc (.cells #[.int .i64 a0, .int .i64 b0] 24)).trans g4)
  have n0 : w4.cell? ⟨w'.heap.size, 0, none⟩ = some (.int .i64 a0) := g4.keep (by simp [go_sem])
  have n1 : w4.cell? ⟨w'.heap.size, 1, none⟩ = some (.int .i64 b0) := g4.keep (by simp [go_sem])
  replace hB1 := hB1.one n0 n1
  clear hB n0 n1
  go_wp2
  refine region_in (BoxL w [(w'.heap.size, a0, b0), (w.heap.size, a0, b0), (w.heap.size + 1, a0, b0)]) (by kernel_rfl) (by kernel_rfl) (BoxL.step _ _ hB1 (Nw.refl _).drew1) ?_
  have c0 : ∀ d : Wd (BoxL w [(w'.heap.size, a0, b0), (w.heap.size, a0, b0), (w.heap.size + 1, a0, b0)]), d.w.cell? ⟨w'.heap.size, 0, none⟩ = some (.int .i64 a0) := fun d => d.h.c0 _ a0 b0 (by simp)
  have c1 : ∀ d : Wd (BoxL w [(w'.heap.size, a0, b0), (w.heap.size, a0, b0), (w.heap.size + 1, a0, b0)]), d.w.cell? ⟨w'.heap.size, 1, none⟩ = some (.int .i64 b0) := fun d => d.h.c1 _ a0 b0 (by simp)
  have c2 : ∀ d : Wd (BoxL w [(w'.heap.size, a0, b0), (w.heap.size, a0, b0), (w.heap.size + 1, a0, b0)]), d.w.cell? ⟨w.heap.size, 0, none⟩ = some (.int .i64 a0) := fun d => d.h.c0 _ a0 b0 (by simp)
  have c3 : ∀ d : Wd (BoxL w [(w'.heap.size, a0, b0), (w.heap.size, a0, b0), (w.heap.size + 1, a0, b0)]), d.w.cell? ⟨w.heap.size, 1, none⟩ = some (.int .i64 b0) := fun d => d.h.c1 _ a0 b0 (by simp)
  have c4 : ∀ d : Wd (BoxL w [(w'.heap.size, a0, b0), (w.heap.size, a0, b0), (w.heap.size + 1, a0, b0)]), d.w.cell? ⟨w.heap.size + 1, 0, none⟩ = some (.int .i64 a0) := fun d => d.h.c0 _ a0 b0 (by simp)
  have c5 : ∀ d : Wd (BoxL w [(w'.heap.size, a0, b0), (w.heap.size, a0, b0), (w.heap.size + 1, a0, b0)]), d.w.cell? ⟨w.heap.size + 1, 1, none⟩ = some (.int .i64 b0) := fun d => d.h.c1 _ a0 b0 (by simp)
  have hne : Nonempty (Wd (BoxL w [(w'.heap.size, a0, b0), (w.heap.size, a0, b0), (w.heap.size + 1, a0, b0)])) := ⟨⟨_, hB1⟩⟩
  repeat (first | go_big_quiet_step ((first | exact quietN BoxL.step (check_ok a0 b0 _ hv.out) | exact quietN BoxL.step (text_any _ _ _))) | quiet_step ((first | exact quietN BoxL.step (check_ok a0 b0 _ hv.out) | exact quietN BoxL.step (text_any _ _ _))))
  refine wpQuiet_nil ?_
  intro d
  have h5 := d.h.2
  clear c0 c1 c2 c3 c4 c5 hne hB1
  revert h5
  generalize d.w = w5
  intro h5
  go_wp2_with fail
  refine (read_miss s _ (hl.grown h5) hs hh.out).mono ?_
  rintro e w6 ⟨rfl, g6⟩
  go_wp2
  go_ret
  exact ⟨rfl, (h5.trans g6).alloc _⟩

set_option maxHeartbeats 2000000 in
theorem way_ok_a_hit (a0 b0 a1 b1 : Int) (s : ByteArray) (w : World) (hl : Libs w) (hs : s.size ≤ 60) (hv : Hid (lvl a0 b0 ≠ -1)) (hb : Hid (lvl a1 b1 ≠ -1)) (hp1 : (a0 == a1) = false) (ht : ((txt a0 b0).toList == (txt a1 b1).toList) = false) (p q : Int) (hp : Hid (lvl p q ≠ -1)) (hh : Hid (s.data.toList = txtL p q)) (hq : ((txt p q).toList == s.toList) = true) :
    Calls Tryd.prog 5 #[.agg #[.int .i64 a0, .int .i64 b0], .agg #[.int .i64 a1, .int .i64 b1], .string s] w fun e w' => e = .returned (.bool true) ∧ Nw w w' := by
  have hW0 : Nw w ((w.alloc (.cells #[.int .i64 a0, .int .i64 b0] 24)).alloc (.cells #[.int .i64 a1, .int .i64 b1] 24)) := ((Nw.refl _).alloc _).alloc _
  have hs' : (s.size : Int) ≤ 60 := by omega
  go_enter Tryd.func5, Tryd.ntmps5
  go_wp2_with fail
  refine (lives_ok _).mono ?_
  rintro e w' ⟨rfl, hg⟩
  (first | (replace hG := Nw.trans hG hg; clear hc hf) | have hG := hg)
  clear hg
  obtain ⟨hc, hf⟩ := hG.rules
  go_wp2_with fail
  refine (text_any a0 b0 _).mono ?_
  rintro e w' ⟨rfl, hg⟩
  (first | (replace hG := Nw.trans hG hg; clear hc hf) | have hG := hg)
  clear hg
  obtain ⟨hc, hf⟩ := hG.rules
  go_wp2_with fail
  refine (read_text a0 b0 _ (hl.grown (hW0.trans hG)) hv.out).mono ?_
  rintro e w' ⟨rfl, hg⟩
  (first | (replace hG := Nw.trans hG hg; clear hc hf) | have hG := hg)
  clear hg
  obtain ⟨hc, hf⟩ := hG.rules
  have q0 : ∀ o, (w'.alloc o).cell? ⟨w.heap.size, 0, none⟩ = some (.int .i64 a0) := fun _ => ((Nw.refl _).alloc _).keep (by simp [hc, go_sem])
  have q1 : ∀ o, (w'.alloc o).cell? ⟨w.heap.size, 1, none⟩ = some (.int .i64 b0) := fun _ => ((Nw.refl _).alloc _).keep (by simp [hc, go_sem])
  have hB := BoxL.step _ _ (BoxL.two w a0 b0 a1 b1 24) hG
  clear hc hf hG
  go_wp2_with fail
  refine (check_ok a0 b0 _ hv.out).mono ?_
  rintro e w4 ⟨rfl, g4⟩
  clear q0 q1
  have hB1 := BoxL.step _ _ hB (((Nw.refl _).alloc (.cells #[.int .i64 a0, .int .i64 b0] 24)).trans g4)
  have n0 : w4.cell? ⟨w'.heap.size, 0, none⟩ = some (.int .i64 a0) := g4.keep (by simp [go_sem])
  have n1 : w4.cell? ⟨w'.heap.size, 1, none⟩ = some (.int .i64 b0) := g4.keep (by simp [go_sem])
  replace hB1 := hB1.one n0 n1
  clear hB n0 n1
  go_wp2
  refine region_in (BoxL w [(w'.heap.size, a0, b0), (w.heap.size, a0, b0), (w.heap.size + 1, a1, b1)]) (by kernel_rfl) (by kernel_rfl) (BoxL.step _ _ hB1 (Nw.refl _).drew1) ?_
  have c0 : ∀ d : Wd (BoxL w [(w'.heap.size, a0, b0), (w.heap.size, a0, b0), (w.heap.size + 1, a1, b1)]), d.w.cell? ⟨w'.heap.size, 0, none⟩ = some (.int .i64 a0) := fun d => d.h.c0 _ a0 b0 (by simp)
  have c1 : ∀ d : Wd (BoxL w [(w'.heap.size, a0, b0), (w.heap.size, a0, b0), (w.heap.size + 1, a1, b1)]), d.w.cell? ⟨w'.heap.size, 1, none⟩ = some (.int .i64 b0) := fun d => d.h.c1 _ a0 b0 (by simp)
  have c2 : ∀ d : Wd (BoxL w [(w'.heap.size, a0, b0), (w.heap.size, a0, b0), (w.heap.size + 1, a1, b1)]), d.w.cell? ⟨w.heap.size, 0, none⟩ = some (.int .i64 a0) := fun d => d.h.c0 _ a0 b0 (by simp)
  have c3 : ∀ d : Wd (BoxL w [(w'.heap.size, a0, b0), (w.heap.size, a0, b0), (w.heap.size + 1, a1, b1)]), d.w.cell? ⟨w.heap.size, 1, none⟩ = some (.int .i64 b0) := fun d => d.h.c1 _ a0 b0 (by simp)
  have c4 : ∀ d : Wd (BoxL w [(w'.heap.size, a0, b0), (w.heap.size, a0, b0), (w.heap.size + 1, a1, b1)]), d.w.cell? ⟨w.heap.size + 1, 0, none⟩ = some (.int .i64 a1) := fun d => d.h.c0 _ a1 b1 (by simp)
  have c5 : ∀ d : Wd (BoxL w [(w'.heap.size, a0, b0), (w.heap.size, a0, b0), (w.heap.size + 1, a1, b1)]), d.w.cell? ⟨w.heap.size + 1, 1, none⟩ = some (.int .i64 b1) := fun d => d.h.c1 _ a1 b1 (by simp)
  have hne : Nonempty (Wd (BoxL w [(w'.heap.size, a0, b0), (w.heap.size, a0, b0), (w.heap.size + 1, a1, b1)])) := ⟨⟨_, hB1⟩⟩
  repeat (first | go_big_quiet_step ((first | exact quietN BoxL.step (check_ok a1 b1 _ hb.out) | exact quietN BoxL.step (text_any _ _ _))) | quiet_step ((first | exact quietN BoxL.step (check_ok a1 b1 _ hb.out) | exact quietN BoxL.step (text_any _ _ _))))
  refine wpQuiet_nil ?_
  intro d
  have h5 := d.h.2
  clear c0 c1 c2 c3 c4 c5 hne hB1
  revert h5
  generalize d.w = w5
  intro h5
  go_wp2_with fail
  refine (read_hit p q s _ (hl.grown h5) hs hp.out hh.out).mono ?_
  rintro e w6 ⟨rfl, g6⟩
  go_wp2_with fail
  refine (check_ok p q _ hp.out).mono ?_
  rintro e w7 ⟨rfl, g7⟩
  have m0 : w7.cell? ⟨w6.heap.size, 0, none⟩ = some (.int .i64 p) := g7.keep (by simp [go_sem])
  have m1 : w7.cell? ⟨w6.heap.size, 1, none⟩ = some (.int .i64 q) := g7.keep (by simp [go_sem])
  go_wp2_with fail
  refine (text_any p q _).mono ?_
  rintro e w8 ⟨rfl, g8⟩
  go_wp2
  go_ret
  exact ⟨rfl, (((h5.trans g6).alloc _).trans g7).trans g8⟩

set_option maxHeartbeats 2000000 in
theorem way_ok_a_miss (a0 b0 a1 b1 : Int) (s : ByteArray) (w : World) (hl : Libs w) (hs : s.size ≤ 60) (hv : Hid (lvl a0 b0 ≠ -1)) (hb : Hid (lvl a1 b1 ≠ -1)) (hp1 : (a0 == a1) = false) (ht : ((txt a0 b0).toList == (txt a1 b1).toList) = false) (hh : Hid (∀ t r, lvl t r ≠ -1 → s.data.toList ≠ txtL t r)) :
    Calls Tryd.prog 5 #[.agg #[.int .i64 a0, .int .i64 b0], .agg #[.int .i64 a1, .int .i64 b1], .string s] w fun e w' => e = .returned (.bool true) ∧ Nw w w' := by
  have hW0 : Nw w ((w.alloc (.cells #[.int .i64 a0, .int .i64 b0] 24)).alloc (.cells #[.int .i64 a1, .int .i64 b1] 24)) := ((Nw.refl _).alloc _).alloc _
  have hs' : (s.size : Int) ≤ 60 := by omega
  go_enter Tryd.func5, Tryd.ntmps5
  go_wp2_with fail
  refine (lives_ok _).mono ?_
  rintro e w' ⟨rfl, hg⟩
  (first | (replace hG := Nw.trans hG hg; clear hc hf) | have hG := hg)
  clear hg
  obtain ⟨hc, hf⟩ := hG.rules
  go_wp2_with fail
  refine (text_any a0 b0 _).mono ?_
  rintro e w' ⟨rfl, hg⟩
  (first | (replace hG := Nw.trans hG hg; clear hc hf) | have hG := hg)
  clear hg
  obtain ⟨hc, hf⟩ := hG.rules
  go_wp2_with fail
  refine (read_text a0 b0 _ (hl.grown (hW0.trans hG)) hv.out).mono ?_
  rintro e w' ⟨rfl, hg⟩
  (first | (replace hG := Nw.trans hG hg; clear hc hf) | have hG := hg)
  clear hg
  obtain ⟨hc, hf⟩ := hG.rules
  have q0 : ∀ o, (w'.alloc o).cell? ⟨w.heap.size, 0, none⟩ = some (.int .i64 a0) := fun _ => ((Nw.refl _).alloc _).keep (by simp [hc, go_sem])
  have q1 : ∀ o, (w'.alloc o).cell? ⟨w.heap.size, 1, none⟩ = some (.int .i64 b0) := fun _ => ((Nw.refl _).alloc _).keep (by simp [hc, go_sem])
  have hB := BoxL.step _ _ (BoxL.two w a0 b0 a1 b1 24) hG
  clear hc hf hG
  go_wp2_with fail
  refine (check_ok a0 b0 _ hv.out).mono ?_
  rintro e w4 ⟨rfl, g4⟩
  clear q0 q1
  have hB1 := BoxL.step _ _ hB (((Nw.refl _).alloc (.cells #[.int .i64 a0, .int .i64 b0] 24)).trans g4)
  have n0 : w4.cell? ⟨w'.heap.size, 0, none⟩ = some (.int .i64 a0) := g4.keep (by simp [go_sem])
  have n1 : w4.cell? ⟨w'.heap.size, 1, none⟩ = some (.int .i64 b0) := g4.keep (by simp [go_sem])
  replace hB1 := hB1.one n0 n1
  clear hB n0 n1
  go_wp2
  refine region_in (BoxL w [(w'.heap.size, a0, b0), (w.heap.size, a0, b0), (w.heap.size + 1, a1, b1)]) (by kernel_rfl) (by kernel_rfl) (BoxL.step _ _ hB1 (Nw.refl _).drew1) ?_
  have c0 : ∀ d : Wd (BoxL w [(w'.heap.size, a0, b0), (w.heap.size, a0, b0), (w.heap.size + 1, a1, b1)]), d.w.cell? ⟨w'.heap.size, 0, none⟩ = some (.int .i64 a0) := fun d => d.h.c0 _ a0 b0 (by simp)
  have c1 : ∀ d : Wd (BoxL w [(w'.heap.size, a0, b0), (w.heap.size, a0, b0), (w.heap.size + 1, a1, b1)]), d.w.cell? ⟨w'.heap.size, 1, none⟩ = some (.int .i64 b0) := fun d => d.h.c1 _ a0 b0 (by simp)
  have c2 : ∀ d : Wd (BoxL w [(w'.heap.size, a0, b0), (w.heap.size, a0, b0), (w.heap.size + 1, a1, b1)]), d.w.cell? ⟨w.heap.size, 0, none⟩ = some (.int .i64 a0) := fun d => d.h.c0 _ a0 b0 (by simp)
  have c3 : ∀ d : Wd (BoxL w [(w'.heap.size, a0, b0), (w.heap.size, a0, b0), (w.heap.size + 1, a1, b1)]), d.w.cell? ⟨w.heap.size, 1, none⟩ = some (.int .i64 b0) := fun d => d.h.c1 _ a0 b0 (by simp)
  have c4 : ∀ d : Wd (BoxL w [(w'.heap.size, a0, b0), (w.heap.size, a0, b0), (w.heap.size + 1, a1, b1)]), d.w.cell? ⟨w.heap.size + 1, 0, none⟩ = some (.int .i64 a1) := fun d => d.h.c0 _ a1 b1 (by simp)
  have c5 : ∀ d : Wd (BoxL w [(w'.heap.size, a0, b0), (w.heap.size, a0, b0), (w.heap.size + 1, a1, b1)]), d.w.cell? ⟨w.heap.size + 1, 1, none⟩ = some (.int .i64 b1) := fun d => d.h.c1 _ a1 b1 (by simp)
  have hne : Nonempty (Wd (BoxL w [(w'.heap.size, a0, b0), (w.heap.size, a0, b0), (w.heap.size + 1, a1, b1)])) := ⟨⟨_, hB1⟩⟩
  repeat (first | go_big_quiet_step ((first | exact quietN BoxL.step (check_ok a1 b1 _ hb.out) | exact quietN BoxL.step (text_any _ _ _))) | quiet_step ((first | exact quietN BoxL.step (check_ok a1 b1 _ hb.out) | exact quietN BoxL.step (text_any _ _ _))))
  refine wpQuiet_nil ?_
  intro d
  have h5 := d.h.2
  clear c0 c1 c2 c3 c4 c5 hne hB1
  revert h5
  generalize d.w = w5
  intro h5
  go_wp2_with fail
  refine (read_miss s _ (hl.grown h5) hs hh.out).mono ?_
  rintro e w6 ⟨rfl, g6⟩
  go_wp2
  go_ret
  exact ⟨rfl, (h5.trans g6).alloc _⟩

set_option maxHeartbeats 2000000 in
theorem way_ok_b_hit (a0 b0 b1 : Int) (s : ByteArray) (w : World) (hl : Libs w) (hs : s.size ≤ 60) (hv : Hid (lvl a0 b0 ≠ -1)) (hb : Hid (lvl a0 b1 ≠ -1)) (hp1 : (b0 == b1) = false) (ht : ((txt a0 b0).toList == (txt a0 b1).toList) = false) (p q : Int) (hp : Hid (lvl p q ≠ -1)) (hh : Hid (s.data.toList = txtL p q)) (hq : ((txt p q).toList == s.toList) = true) :
    Calls Tryd.prog 5 #[.agg #[.int .i64 a0, .int .i64 b0], .agg #[.int .i64 a0, .int .i64 b1], .string s] w fun e w' => e = .returned (.bool true) ∧ Nw w w' := by
  have hW0 : Nw w ((w.alloc (.cells #[.int .i64 a0, .int .i64 b0] 24)).alloc (.cells #[.int .i64 a0, .int .i64 b1] 24)) := ((Nw.refl _).alloc _).alloc _
  have hs' : (s.size : Int) ≤ 60 := by omega
  go_enter Tryd.func5, Tryd.ntmps5
  go_wp2_with fail
  refine (lives_ok _).mono ?_
  rintro e w' ⟨rfl, hg⟩
  (first | (replace hG := Nw.trans hG hg; clear hc hf) | have hG := hg)
  clear hg
  obtain ⟨hc, hf⟩ := hG.rules
  go_wp2_with fail
  refine (text_any a0 b0 _).mono ?_
  rintro e w' ⟨rfl, hg⟩
  (first | (replace hG := Nw.trans hG hg; clear hc hf) | have hG := hg)
  clear hg
  obtain ⟨hc, hf⟩ := hG.rules
  go_wp2_with fail
  refine (read_text a0 b0 _ (hl.grown (hW0.trans hG)) hv.out).mono ?_
  rintro e w' ⟨rfl, hg⟩
  (first | (replace hG := Nw.trans hG hg; clear hc hf) | have hG := hg)
  clear hg
  obtain ⟨hc, hf⟩ := hG.rules
  have q0 : ∀ o, (w'.alloc o).cell? ⟨w.heap.size, 0, none⟩ = some (.int .i64 a0) := fun _ => ((Nw.refl _).alloc _).keep (by simp [hc, go_sem])
  have q1 : ∀ o, (w'.alloc o).cell? ⟨w.heap.size, 1, none⟩ = some (.int .i64 b0) := fun _ => ((Nw.refl _).alloc _).keep (by simp [hc, go_sem])
  have hB := BoxL.step _ _ (BoxL.two w a0 b0 a0 b1 24) hG
  clear hc hf hG
  go_wp2_with fail
  refine (check_ok a0 b0 _ hv.out).mono ?_
  rintro e w4 ⟨rfl, g4⟩
  clear q0 q1
  have hB1 := BoxL.step _ _ hB (((Nw.refl _).alloc (.cells #[.int .i64 a0, .int .i64 b0] 24)).trans g4)
  have n0 : w4.cell? ⟨w'.heap.size, 0, none⟩ = some (.int .i64 a0) := g4.keep (by simp [go_sem])
  have n1 : w4.cell? ⟨w'.heap.size, 1, none⟩ = some (.int .i64 b0) := g4.keep (by simp [go_sem])
  replace hB1 := hB1.one n0 n1
  clear hB n0 n1
  go_wp2
  refine region_in (BoxL w [(w'.heap.size, a0, b0), (w.heap.size, a0, b0), (w.heap.size + 1, a0, b1)]) (by kernel_rfl) (by kernel_rfl) (BoxL.step _ _ hB1 (Nw.refl _).drew1) ?_
  have c0 : ∀ d : Wd (BoxL w [(w'.heap.size, a0, b0), (w.heap.size, a0, b0), (w.heap.size + 1, a0, b1)]), d.w.cell? ⟨w'.heap.size, 0, none⟩ = some (.int .i64 a0) := fun d => d.h.c0 _ a0 b0 (by simp)
  have c1 : ∀ d : Wd (BoxL w [(w'.heap.size, a0, b0), (w.heap.size, a0, b0), (w.heap.size + 1, a0, b1)]), d.w.cell? ⟨w'.heap.size, 1, none⟩ = some (.int .i64 b0) := fun d => d.h.c1 _ a0 b0 (by simp)
  have c2 : ∀ d : Wd (BoxL w [(w'.heap.size, a0, b0), (w.heap.size, a0, b0), (w.heap.size + 1, a0, b1)]), d.w.cell? ⟨w.heap.size, 0, none⟩ = some (.int .i64 a0) := fun d => d.h.c0 _ a0 b0 (by simp)
  have c3 : ∀ d : Wd (BoxL w [(w'.heap.size, a0, b0), (w.heap.size, a0, b0), (w.heap.size + 1, a0, b1)]), d.w.cell? ⟨w.heap.size, 1, none⟩ = some (.int .i64 b0) := fun d => d.h.c1 _ a0 b0 (by simp)
  have c4 : ∀ d : Wd (BoxL w [(w'.heap.size, a0, b0), (w.heap.size, a0, b0), (w.heap.size + 1, a0, b1)]), d.w.cell? ⟨w.heap.size + 1, 0, none⟩ = some (.int .i64 a0) := fun d => d.h.c0 _ a0 b1 (by simp)
  have c5 : ∀ d : Wd (BoxL w [(w'.heap.size, a0, b0), (w.heap.size, a0, b0), (w.heap.size + 1, a0, b1)]), d.w.cell? ⟨w.heap.size + 1, 1, none⟩ = some (.int .i64 b1) := fun d => d.h.c1 _ a0 b1 (by simp)
  have hne : Nonempty (Wd (BoxL w [(w'.heap.size, a0, b0), (w.heap.size, a0, b0), (w.heap.size + 1, a0, b1)])) := ⟨⟨_, hB1⟩⟩
  repeat (first | go_big_quiet_step ((first | exact quietN BoxL.step (check_ok a0 b1 _ hb.out) | exact quietN BoxL.step (text_any _ _ _))) | quiet_step ((first | exact quietN BoxL.step (check_ok a0 b1 _ hb.out) | exact quietN BoxL.step (text_any _ _ _))))
  refine wpQuiet_nil ?_
  intro d
  have h5 := d.h.2
  clear c0 c1 c2 c3 c4 c5 hne hB1
  revert h5
  generalize d.w = w5
  intro h5
  go_wp2_with fail
  refine (read_hit p q s _ (hl.grown h5) hs hp.out hh.out).mono ?_
  rintro e w6 ⟨rfl, g6⟩
  go_wp2_with fail
  refine (check_ok p q _ hp.out).mono ?_
  rintro e w7 ⟨rfl, g7⟩
  have m0 : w7.cell? ⟨w6.heap.size, 0, none⟩ = some (.int .i64 p) := g7.keep (by simp [go_sem])
  have m1 : w7.cell? ⟨w6.heap.size, 1, none⟩ = some (.int .i64 q) := g7.keep (by simp [go_sem])
  go_wp2_with fail
  refine (text_any p q _).mono ?_
  rintro e w8 ⟨rfl, g8⟩
  go_wp2
  go_ret
  exact ⟨rfl, (((h5.trans g6).alloc _).trans g7).trans g8⟩

set_option maxHeartbeats 2000000 in
theorem way_ok_b_miss (a0 b0 b1 : Int) (s : ByteArray) (w : World) (hl : Libs w) (hs : s.size ≤ 60) (hv : Hid (lvl a0 b0 ≠ -1)) (hb : Hid (lvl a0 b1 ≠ -1)) (hp1 : (b0 == b1) = false) (ht : ((txt a0 b0).toList == (txt a0 b1).toList) = false) (hh : Hid (∀ t r, lvl t r ≠ -1 → s.data.toList ≠ txtL t r)) :
    Calls Tryd.prog 5 #[.agg #[.int .i64 a0, .int .i64 b0], .agg #[.int .i64 a0, .int .i64 b1], .string s] w fun e w' => e = .returned (.bool true) ∧ Nw w w' := by
  have hW0 : Nw w ((w.alloc (.cells #[.int .i64 a0, .int .i64 b0] 24)).alloc (.cells #[.int .i64 a0, .int .i64 b1] 24)) := ((Nw.refl _).alloc _).alloc _
  have hs' : (s.size : Int) ≤ 60 := by omega
  go_enter Tryd.func5, Tryd.ntmps5
  go_wp2_with fail
  refine (lives_ok _).mono ?_
  rintro e w' ⟨rfl, hg⟩
  (first | (replace hG := Nw.trans hG hg; clear hc hf) | have hG := hg)
  clear hg
  obtain ⟨hc, hf⟩ := hG.rules
  go_wp2_with fail
  refine (text_any a0 b0 _).mono ?_
  rintro e w' ⟨rfl, hg⟩
  (first | (replace hG := Nw.trans hG hg; clear hc hf) | have hG := hg)
  clear hg
  obtain ⟨hc, hf⟩ := hG.rules
  go_wp2_with fail
  refine (read_text a0 b0 _ (hl.grown (hW0.trans hG)) hv.out).mono ?_
  rintro e w' ⟨rfl, hg⟩
  (first | (replace hG := Nw.trans hG hg; clear hc hf) | have hG := hg)
  clear hg
  obtain ⟨hc, hf⟩ := hG.rules
  have q0 : ∀ o, (w'.alloc o).cell? ⟨w.heap.size, 0, none⟩ = some (.int .i64 a0) := fun _ => ((Nw.refl _).alloc _).keep (by simp [hc, go_sem])
  have q1 : ∀ o, (w'.alloc o).cell? ⟨w.heap.size, 1, none⟩ = some (.int .i64 b0) := fun _ => ((Nw.refl _).alloc _).keep (by simp [hc, go_sem])
  have hB := BoxL.step _ _ (BoxL.two w a0 b0 a0 b1 24) hG
  clear hc hf hG
  go_wp2_with fail
  refine (check_ok a0 b0 _ hv.out).mono ?_
  rintro e w4 ⟨rfl, g4⟩
  clear q0 q1
  have hB1 := BoxL.step _ _ hB (((Nw.refl _).alloc (.cells #[.int .i64 a0, .int .i64 b0] 24)).trans g4)
  have n0 : w4.cell? ⟨w'.heap.size, 0, none⟩ = some (.int .i64 a0) := g4.keep (by simp [go_sem])
  have n1 : w4.cell? ⟨w'.heap.size, 1, none⟩ = some (.int .i64 b0) := g4.keep (by simp [go_sem])
  replace hB1 := hB1.one n0 n1
  clear hB n0 n1
  go_wp2
  refine region_in (BoxL w [(w'.heap.size, a0, b0), (w.heap.size, a0, b0), (w.heap.size + 1, a0, b1)]) (by kernel_rfl) (by kernel_rfl) (BoxL.step _ _ hB1 (Nw.refl _).drew1) ?_
  have c0 : ∀ d : Wd (BoxL w [(w'.heap.size, a0, b0), (w.heap.size, a0, b0), (w.heap.size + 1, a0, b1)]), d.w.cell? ⟨w'.heap.size, 0, none⟩ = some (.int .i64 a0) := fun d => d.h.c0 _ a0 b0 (by simp)
  have c1 : ∀ d : Wd (BoxL w [(w'.heap.size, a0, b0), (w.heap.size, a0, b0), (w.heap.size + 1, a0, b1)]), d.w.cell? ⟨w'.heap.size, 1, none⟩ = some (.int .i64 b0) := fun d => d.h.c1 _ a0 b0 (by simp)
  have c2 : ∀ d : Wd (BoxL w [(w'.heap.size, a0, b0), (w.heap.size, a0, b0), (w.heap.size + 1, a0, b1)]), d.w.cell? ⟨w.heap.size, 0, none⟩ = some (.int .i64 a0) := fun d => d.h.c0 _ a0 b0 (by simp)
  have c3 : ∀ d : Wd (BoxL w [(w'.heap.size, a0, b0), (w.heap.size, a0, b0), (w.heap.size + 1, a0, b1)]), d.w.cell? ⟨w.heap.size, 1, none⟩ = some (.int .i64 b0) := fun d => d.h.c1 _ a0 b0 (by simp)
  have c4 : ∀ d : Wd (BoxL w [(w'.heap.size, a0, b0), (w.heap.size, a0, b0), (w.heap.size + 1, a0, b1)]), d.w.cell? ⟨w.heap.size + 1, 0, none⟩ = some (.int .i64 a0) := fun d => d.h.c0 _ a0 b1 (by simp)
  have c5 : ∀ d : Wd (BoxL w [(w'.heap.size, a0, b0), (w.heap.size, a0, b0), (w.heap.size + 1, a0, b1)]), d.w.cell? ⟨w.heap.size + 1, 1, none⟩ = some (.int .i64 b1) := fun d => d.h.c1 _ a0 b1 (by simp)
  have hne : Nonempty (Wd (BoxL w [(w'.heap.size, a0, b0), (w.heap.size, a0, b0), (w.heap.size + 1, a0, b1)])) := ⟨⟨_, hB1⟩⟩
  repeat (first | go_big_quiet_step ((first | exact quietN BoxL.step (check_ok a0 b1 _ hb.out) | exact quietN BoxL.step (text_any _ _ _))) | quiet_step ((first | exact quietN BoxL.step (check_ok a0 b1 _ hb.out) | exact quietN BoxL.step (text_any _ _ _))))
  refine wpQuiet_nil ?_
  intro d
  have h5 := d.h.2
  clear c0 c1 c2 c3 c4 c5 hne hB1
  revert h5
  generalize d.w = w5
  intro h5
  go_wp2_with fail
  refine (read_miss s _ (hl.grown h5) hs hh.out).mono ?_
  rintro e w6 ⟨rfl, g6⟩
  go_wp2
  go_ret
  exact ⟨rfl, (h5.trans g6).alloc _⟩

set_option maxHeartbeats 2000000 in
theorem way_no_hit (a0 b0 a1 b1 : Int) (s : ByteArray) (w : World) (hl : Libs w) (hs : s.size ≤ 60) (hv : Hid (lvl a0 b0 = -1))  (p q : Int) (hp : Hid (lvl p q ≠ -1)) (hh : Hid (s.data.toList = txtL p q)) (hq : ((txt p q).toList == s.toList) = true) :
    Calls Tryd.prog 5 #[.agg #[.int .i64 a0, .int .i64 b0], .agg #[.int .i64 a1, .int .i64 b1], .string s] w fun e w' => e = .returned (.bool true) ∧ Nw w w' := by
  have hW0 : Nw w ((w.alloc (.cells #[.int .i64 a0, .int .i64 b0] 24)).alloc (.cells #[.int .i64 a1, .int .i64 b1] 24)) := ((Nw.refl _).alloc _).alloc _
  have hs' : (s.size : Int) ≤ 60 := by omega
  go_enter Tryd.func5, Tryd.ntmps5
  go_wp2_with fail
  refine (lives_ok _).mono ?_
  rintro e w' ⟨rfl, hg⟩
  (first | (replace hG := Nw.trans hG hg; clear hc hf) | have hG := hg)
  clear hg
  obtain ⟨hc, hf⟩ := hG.rules
  go_wp2_with fail
  refine (text_bad a0 b0 _ hv.out).mono ?_
  rintro e w' ⟨rfl, hg⟩
  (first | (replace hG := Nw.trans hG hg; clear hc hf) | have hG := hg)
  clear hg
  obtain ⟨hc, hf⟩ := hG.rules
  go_wp2_with fail
  refine (read_mark _ (hl.grown (hW0.trans hG))).mono ?_
  rintro e w' ⟨rfl, hg⟩
  (first | (replace hG := Nw.trans hG hg; clear hc hf) | have hG := hg)
  clear hg
  obtain ⟨hc, hf⟩ := hG.rules
  have q0 : ∀ o, (w'.alloc o).cell? ⟨w.heap.size, 0, none⟩ = some (.int .i64 a0) := fun _ => ((Nw.refl _).alloc _).keep (by simp [hc, go_sem])
  have q1 : ∀ o, (w'.alloc o).cell? ⟨w.heap.size, 1, none⟩ = some (.int .i64 b0) := fun _ => ((Nw.refl _).alloc _).keep (by simp [hc, go_sem])
  have hB := BoxL.step _ _ (BoxL.two w a0 b0 a1 b1 24) hG
  clear hc hf hG
  go_wp2_with fail
  refine (check_no a0 b0 _ hv.out).mono ?_
  rintro e w4 ⟨rfl, g4⟩
  clear q0 q1
  have hB1 := BoxL.step _ _ hB (((Nw.refl _).alloc (.cells #[.int .i64 0, .int .i64 0] 24)).trans g4)
  have n0 : w4.cell? ⟨w'.heap.size, 0, none⟩ = some (.int .i64 0) := g4.keep (by simp [go_sem])
  have n1 : w4.cell? ⟨w'.heap.size, 1, none⟩ = some (.int .i64 0) := g4.keep (by simp [go_sem])
  replace hB1 := hB1.one n0 n1
  clear hB n0 n1
  have c0 := hB1.c0 w.heap.size a0 b0 (by simp)
  have c1 := hB1.c1 w.heap.size a0 b0 (by simp)
  have h4 := hB1.2
  clear hB1
  go_wp2_with fail
  refine (text_bad a0 b0 _ hv.out).mono ?_
  rintro e w5 ⟨rfl, g5⟩
  have h5 := h4.trans g5
  clear c0 c1
  go_wp2_with fail
  refine (read_hit p q s _ (hl.grown h5) hs hp.out hh.out).mono ?_
  rintro e w6 ⟨rfl, g6⟩
  go_wp2_with fail
  refine (check_ok p q _ hp.out).mono ?_
  rintro e w7 ⟨rfl, g7⟩
  have m0 : w7.cell? ⟨w6.heap.size, 0, none⟩ = some (.int .i64 p) := g7.keep (by simp [go_sem])
  have m1 : w7.cell? ⟨w6.heap.size, 1, none⟩ = some (.int .i64 q) := g7.keep (by simp [go_sem])
  go_wp2_with fail
  refine (text_any p q _).mono ?_
  rintro e w8 ⟨rfl, g8⟩
  go_wp2
  go_ret
  exact ⟨rfl, (((h5.trans g6).alloc _).trans g7).trans g8⟩

set_option maxHeartbeats 2000000 in
theorem way_no_miss (a0 b0 a1 b1 : Int) (s : ByteArray) (w : World) (hl : Libs w) (hs : s.size ≤ 60) (hv : Hid (lvl a0 b0 = -1))  (hh : Hid (∀ t r, lvl t r ≠ -1 → s.data.toList ≠ txtL t r)) :
    Calls Tryd.prog 5 #[.agg #[.int .i64 a0, .int .i64 b0], .agg #[.int .i64 a1, .int .i64 b1], .string s] w fun e w' => e = .returned (.bool true) ∧ Nw w w' := by
  have hW0 : Nw w ((w.alloc (.cells #[.int .i64 a0, .int .i64 b0] 24)).alloc (.cells #[.int .i64 a1, .int .i64 b1] 24)) := ((Nw.refl _).alloc _).alloc _
  have hs' : (s.size : Int) ≤ 60 := by omega
  go_enter Tryd.func5, Tryd.ntmps5
  go_wp2_with fail
  refine (lives_ok _).mono ?_
  rintro e w' ⟨rfl, hg⟩
  (first | (replace hG := Nw.trans hG hg; clear hc hf) | have hG := hg)
  clear hg
  obtain ⟨hc, hf⟩ := hG.rules
  go_wp2_with fail
  refine (text_bad a0 b0 _ hv.out).mono ?_
  rintro e w' ⟨rfl, hg⟩
  (first | (replace hG := Nw.trans hG hg; clear hc hf) | have hG := hg)
  clear hg
  obtain ⟨hc, hf⟩ := hG.rules
  go_wp2_with fail
  refine (read_mark _ (hl.grown (hW0.trans hG))).mono ?_
  rintro e w' ⟨rfl, hg⟩
  (first | (replace hG := Nw.trans hG hg; clear hc hf) | have hG := hg)
  clear hg
  obtain ⟨hc, hf⟩ := hG.rules
  have q0 : ∀ o, (w'.alloc o).cell? ⟨w.heap.size, 0, none⟩ = some (.int .i64 a0) := fun _ => ((Nw.refl _).alloc _).keep (by simp [hc, go_sem])
  have q1 : ∀ o, (w'.alloc o).cell? ⟨w.heap.size, 1, none⟩ = some (.int .i64 b0) := fun _ => ((Nw.refl _).alloc _).keep (by simp [hc, go_sem])
  have hB := BoxL.step _ _ (BoxL.two w a0 b0 a1 b1 24) hG
  clear hc hf hG
  go_wp2_with fail
  refine (check_no a0 b0 _ hv.out).mono ?_
  rintro e w4 ⟨rfl, g4⟩
  clear q0 q1
  have hB1 := BoxL.step _ _ hB (((Nw.refl _).alloc (.cells #[.int .i64 0, .int .i64 0] 24)).trans g4)
  have n0 : w4.cell? ⟨w'.heap.size, 0, none⟩ = some (.int .i64 0) := g4.keep (by simp [go_sem])
  have n1 : w4.cell? ⟨w'.heap.size, 1, none⟩ = some (.int .i64 0) := g4.keep (by simp [go_sem])
  replace hB1 := hB1.one n0 n1
  clear hB n0 n1
  have c0 := hB1.c0 w.heap.size a0 b0 (by simp)
  have c1 := hB1.c1 w.heap.size a0 b0 (by simp)
  have h4 := hB1.2
  clear hB1
  go_wp2_with fail
  refine (text_bad a0 b0 _ hv.out).mono ?_
  rintro e w5 ⟨rfl, g5⟩
  have h5 := h4.trans g5
  clear c0 c1
  go_wp2_with fail
  refine (read_miss s _ (hl.grown h5) hs hh.out).mono ?_
  rintro e w6 ⟨rfl, g6⟩
  go_wp2
  go_ret
  exact ⟨rfl, (h5.trans g6).alloc _⟩

theorem walk (a0 b0 a1 b1 : Int) (s : ByteArray) (w0 : (Lit.int .i64 a0).wf = true) (u0 : (Lit.int .i64 b0).wf = true) (w1 : (Lit.int .i64 a1).wf = true) (u1 : (Lit.int .i64 b1).wf = true) (w2 : s.size ≤ maxLen) (w : World) (hsh : w.ShapedOpen Tryd.prog) (hL : laidMetH Tryd.prog Rows.nameBackRow.laid w) :
    Calls Tryd.prog 5 #[.agg #[.int .i64 a0, .int .i64 b0], .agg #[.int .i64 a1, .int .i64 b1], .string s] w fun e w' => e = .returned (.bool true) ∧ Nw w w' := by
  have hl := libs_of hsh hL
  by_cases hs : s.size ≤ 60
  · have te : ∀ {t r t' r' : Int}, lvl t r ≠ -1 → lvl t' r' ≠ -1 → ¬ (t = t' ∧ r = r') → ((txt t r).toList == (txt t' r').toList) = false := fun {t r t' r'} h h' hn => by
      rw [txt_list, txt_list, beq_eq_false_iff_ne]
      exact fun e => hn (txt_inj h h' e)
    rcases text_or s.data.toList with ⟨p, q, hp, hh⟩ | hh
    · have hq : ((txt p q).toList == s.toList) = true := by rw [txt_list, ByteArray.toList_eq, hh]; simp
      by_cases hv : lvl a0 b0 = -1
      · exact way_no_hit a0 b0 a1 b1 s w hl hs (Lib.hid hv) p q (Lib.hid hp) (Lib.hid hh) hq
      · by_cases hb : lvl a1 b1 = -1
        · exact way_ok_bad_hit a0 b0 a1 b1 s w hl hs (Lib.hid hv) (Lib.hid hb) p q (Lib.hid hp) (Lib.hid hh) hq
        · by_cases hn : a0 = a1 ∧ b0 = b1
          · obtain ⟨rfl, rfl⟩ := hn
            exact way_ok_same_hit a0 b0 s w hl hs (Lib.hid hv) p q (Lib.hid hp) (Lib.hid hh) hq
          · have ht := te hv hb hn
            rcases parted_of hn with h1 | ⟨rfl, h1⟩
            · exact way_ok_a_hit a0 b0 a1 b1 s w hl hs (Lib.hid hv) (Lib.hid hb) h1 ht p q (Lib.hid hp) (Lib.hid hh) hq
            · exact way_ok_b_hit a0 b0 b1 s w hl hs (Lib.hid hv) (Lib.hid hb) h1 ht p q (Lib.hid hp) (Lib.hid hh) hq
    · by_cases hv : lvl a0 b0 = -1
      · exact way_no_miss a0 b0 a1 b1 s w hl hs (Lib.hid hv) (Lib.hid hh)
      · by_cases hb : lvl a1 b1 = -1
        · exact way_ok_bad_miss a0 b0 a1 b1 s w hl hs (Lib.hid hv) (Lib.hid hb) (Lib.hid hh)
        · by_cases hn : a0 = a1 ∧ b0 = b1
          · obtain ⟨rfl, rfl⟩ := hn
            exact way_ok_same_miss a0 b0 s w hl hs (Lib.hid hv) (Lib.hid hh)
          · have ht := te hv hb hn
            rcases parted_of hn with h1 | ⟨rfl, h1⟩
            · exact way_ok_a_miss a0 b0 a1 b1 s w hl hs (Lib.hid hv) (Lib.hid hb) h1 ht (Lib.hid hh)
            · exact way_ok_b_miss a0 b0 b1 s w hl hs (Lib.hid hv) (Lib.hid hb) h1 ht (Lib.hid hh)
  · exact way_far a0 b0 a1 b1 s w hs
end Go.Proofs.YtdcjhjmbfpkigaaDoor.nameBack
