/- The walk of NameOrder. -/
import Derived.Test.YtdcjhjmbfpkigaaDoorNameE
import Derived.Test.YtdcjhjmbfpkigaaDoorWrap
namespace Go.Proofs.YtdcjhjmbfpkigaaDoor.nameOrder
open Go.ChangeShapes Go.WideShapes Go.ChangeAt Go.RowKit
set_option linter.unusedVariables false      -- a walk need not use every fact

def cmpN (t r t' r' : Int) : Int := or2 (c3 t t') (c3 r r')
theorem cmp_val (t r t' r' x : Int) (w : World) (h : cmpN t r t' r' = x) :
    Calls Tryd.prog 21 #[.agg #[.int .i64 t, .int .i64 r], .agg #[.int .i64 t', .int .i64 r']] w fun e w' => e = .returned (.int .i64 x) ∧ Nw w w' := by
  subst h; exact compare_any t r t' r' w
theorem cmp_lt {t r t' r' : Int} (h : t < t' ∨ (t = t' ∧ r < r')) : cmpN t r t' r' = -1 := by
  unfold cmpN or2 c3; repeat' split
  all_goals omega
theorem cmp_gt {t r t' r' : Int} (h : t' < t ∨ (t = t' ∧ r' < r)) : cmpN t r t' r' = 1 := by
  unfold cmpN or2 c3; repeat' split
  all_goals omega
theorem cmp_self (t r : Int) : cmpN t r t r = 0 := by unfold cmpN or2 c3; simp
theorem parted_lt {t r t' r' : Int} (h : t < t' ∨ (t = t' ∧ r < r')) : (t == t') = false ∨ (t = t' ∧ (r == r') = false) := by
  rcases h with h | ⟨h, k⟩
  · exact .inl (beq_eq_false_iff_ne.2 (by omega))
  · exact .inr ⟨h, beq_eq_false_iff_ne.2 (by omega)⟩
theorem parted_gt {t r t' r' : Int} (h : t' < t ∨ (t = t' ∧ r' < r)) : (t == t') = false ∨ (t = t' ∧ (r == r') = false) := by
  rcases h with h | ⟨h, k⟩
  · exact .inl (beq_eq_false_iff_ne.2 (by omega))
  · exact .inr ⟨h, beq_eq_false_iff_ne.2 (by omega)⟩
theorem level_ways (t r : Int) : (∃ L, Hid (lvl t r = L) ∧ (L == 2) = false ∧ (L != 2) = true) ∨ (0 ≤ t ∧ t < 100 ∧ Hid (lvl t r = 2) ∧ Hid (cmpN t (-1) t r = -1) ∧ Hid (cmpN t r (t + 1) (-1) = -1)) := by
  rcases kinds t r with ⟨rfl, rfl⟩ | ⟨h0, h1, rfl⟩ | ⟨h0, h1, h2, h3⟩ | h
  · exact .inl ⟨0, Lib.hid lvl_db, by decide, by decide⟩
  · exact .inl ⟨1, Lib.hid (lvl_tab t h0 h1), by decide, by decide⟩
  · exact .inr ⟨h0, h1, Lib.hid (lvl_rec t r h0 h1 h2 h3), Lib.hid (cmp_lt (by omega)), Lib.hid (cmp_lt (by omega))⟩
  · exact .inl ⟨-1, Lib.hid h, by decide, by decide⟩
theorem cmp_three (t r t' r' : Int) : (t < t' ∨ (t = t' ∧ r < r')) ∨ (t = t' ∧ r = r') ∨ (t' < t ∨ (t = t' ∧ r' < r)) := by omega

set_option maxHeartbeats 1000000 in
theorem way_gt_a_no (a0 b0 a1 b1 a2 b2 : Int) (w : World) (hp : (a0 == a1) = false) (hx : Hid (cmpN a0 b0 a1 b1 = 1)) (hx2 : Hid (cmpN a1 b1 a0 b0 = -1)) (L : Int) (hL : Hid (lvl a0 b0 = L)) (hL2 : (L == 2) = false) (hL3 : (L != 2) = true) :
    Calls Tryd.prog 7 #[.agg #[.int .i64 a0, .int .i64 b0], .agg #[.int .i64 a1, .int .i64 b1], .agg #[.int .i64 a2, .int .i64 b2]] w fun e w' => e = .returned (.bool true) ∧ Nw w w' := by
  go_enter Tryd.func7, Tryd.ntmps7
  go_wp2_with fail
  refine (lives_ok _).mono ?_
  rintro e w' ⟨rfl, hg⟩
  (first | (replace hG := Nw.trans hG hg; clear hc hf) | have hG := hg)
  clear hg
  obtain ⟨hc, hf⟩ := hG.rules
  go_wp2_with fail
  refine (cmp_val _ _ _ _ 1 _ hx.out).mono ?_
  rintro e w' ⟨rfl, hg⟩
  (first | (replace hG := Nw.trans hG hg; clear hc hf) | have hG := hg)
  clear hg
  obtain ⟨hc, hf⟩ := hG.rules
  go_wp2_with fail
  refine (cmp_val _ _ _ _ (-1) _ hx2.out).mono ?_
  rintro e w' ⟨rfl, hg⟩
  (first | (replace hG := Nw.trans hG hg; clear hc hf) | have hG := hg)
  clear hg
  obtain ⟨hc, hf⟩ := hG.rules
  go_wp2_with fail
  refine (level_val _ _ L _ hL.out).mono ?_
  rintro e w' ⟨rfl, hg⟩
  (first | (replace hG := Nw.trans hG hg; clear hc hf) | have hG := hg)
  clear hg
  obtain ⟨hc, hf⟩ := hG.rules
  go_wp2
  go_ret
  exact ⟨rfl, ((((Nw.refl _).alloc _).alloc _).alloc _).trans hG⟩

set_option maxHeartbeats 1000000 in
theorem way_gt_a_rec (a0 b0 a1 b1 a2 b2 : Int) (w : World) (hp : (a0 == a1) = false) (hx : Hid (cmpN a0 b0 a1 b1 = 1)) (hx2 : Hid (cmpN a1 b1 a0 b0 = -1)) (h0 : 0 ≤ a0) (h1 : a0 < 100) (hL : Hid (lvl a0 b0 = 2)) (hP : Hid (cmpN a0 (-1) a0 b0 = -1)) (hQ : Hid (cmpN a0 b0 (a0 + 1) (-1) = -1)) :
    Calls Tryd.prog 7 #[.agg #[.int .i64 a0, .int .i64 b0], .agg #[.int .i64 a1, .int .i64 b1], .agg #[.int .i64 a2, .int .i64 b2]] w fun e w' => e = .returned (.bool true) ∧ Nw w w' := by
  go_enter Tryd.func7, Tryd.ntmps7
  go_wp2_with fail
  refine (lives_ok _).mono ?_
  rintro e w' ⟨rfl, hg⟩
  (first | (replace hG := Nw.trans hG hg; clear hc hf) | have hG := hg)
  clear hg
  obtain ⟨hc, hf⟩ := hG.rules
  go_wp2_with fail
  refine (cmp_val _ _ _ _ 1 _ hx.out).mono ?_
  rintro e w' ⟨rfl, hg⟩
  (first | (replace hG := Nw.trans hG hg; clear hc hf) | have hG := hg)
  clear hg
  obtain ⟨hc, hf⟩ := hG.rules
  go_wp2_with fail
  refine (cmp_val _ _ _ _ (-1) _ hx2.out).mono ?_
  rintro e w' ⟨rfl, hg⟩
  (first | (replace hG := Nw.trans hG hg; clear hc hf) | have hG := hg)
  clear hg
  obtain ⟨hc, hf⟩ := hG.rules
  go_wp2_with fail
  refine (level_val _ _ 2 _ hL.out).mono ?_
  rintro e w' ⟨rfl, hg⟩
  (first | (replace hG := Nw.trans hG hg; clear hc hf) | have hG := hg)
  clear hg
  obtain ⟨hc, hf⟩ := hG.rules
  go_wp2_with fail
  refine (parent_rec _ _ _ hL.out).mono ?_
  rintro e w' ⟨rfl, hg⟩
  (first | (replace hG := Nw.trans hG hg; clear hc hf) | have hG := hg)
  clear hg
  obtain ⟨hc, hf⟩ := hG.rules
  have c0 : w'.cell? ⟨w.heap.size, 0, none⟩ = some (.int .i64 a0) := by simp [hc, go_sem]
  have c1 : w'.cell? ⟨w.heap.size, 1, none⟩ = some (.int .i64 b0) := by simp [hc, go_sem]
  have d0 : ∀ o1 o2, ((w'.alloc o1).alloc o2).cell? ⟨w.heap.size, 0, none⟩ = some (.int .i64 a0) := fun _ _ => ((Nw.refl _).alloc _).keep (((Nw.refl _).alloc _).keep c0)
  have d1 : ∀ o1 o2, ((w'.alloc o1).alloc o2).cell? ⟨w.heap.size, 1, none⟩ = some (.int .i64 b0) := fun _ _ => ((Nw.refl _).alloc _).keep (((Nw.refl _).alloc _).keep c1)
  clear hc hf c0 c1
  go_wp2_with fail
  refine (cmp_val _ _ _ _ (-1) _ hP.out).mono ?_
  rintro e w3 ⟨rfl, hg⟩
  obtain ⟨hc, hf⟩ := hg.rules
  have c0 := hg.keep (d0 _ _)
  have c1 := hg.keep (d1 _ _)
  go_wp2_with fail
  refine (cmp_val _ _ _ _ (-1) _ hQ.out).mono ?_
  rintro e w4 ⟨rfl, hg4⟩
  go_wp2
  go_ret
  exact ⟨rfl, ((((((((Nw.refl _).alloc _).alloc _).alloc _).trans hG).alloc _).alloc _).trans hg).trans hg4⟩

set_option maxHeartbeats 1000000 in
theorem way_lt1_a_no (a0 b0 a1 b1 a2 b2 : Int) (w : World) (hp : (a0 == a1) = false) (y : Int) (hy0 : 0 ≤ y) (hx : Hid (cmpN a0 b0 a1 b1 = -1)) (hx2 : Hid (cmpN a1 b1 a0 b0 = 1)) (hy : Hid (cmpN a1 b1 a2 b2 = y)) (L : Int) (hL : Hid (lvl a0 b0 = L)) (hL2 : (L == 2) = false) (hL3 : (L != 2) = true) :
    Calls Tryd.prog 7 #[.agg #[.int .i64 a0, .int .i64 b0], .agg #[.int .i64 a1, .int .i64 b1], .agg #[.int .i64 a2, .int .i64 b2]] w fun e w' => e = .returned (.bool true) ∧ Nw w w' := by
  go_enter Tryd.func7, Tryd.ntmps7
  go_wp2_with fail
  refine (lives_ok _).mono ?_
  rintro e w' ⟨rfl, hg⟩
  (first | (replace hG := Nw.trans hG hg; clear hc hf) | have hG := hg)
  clear hg
  obtain ⟨hc, hf⟩ := hG.rules
  go_wp2_with fail
  refine (cmp_val _ _ _ _ (-1) _ hx.out).mono ?_
  rintro e w' ⟨rfl, hg⟩
  (first | (replace hG := Nw.trans hG hg; clear hc hf) | have hG := hg)
  clear hg
  obtain ⟨hc, hf⟩ := hG.rules
  go_wp2_with fail
  refine (cmp_val _ _ _ _ 1 _ hx2.out).mono ?_
  rintro e w' ⟨rfl, hg⟩
  (first | (replace hG := Nw.trans hG hg; clear hc hf) | have hG := hg)
  clear hg
  obtain ⟨hc, hf⟩ := hG.rules
  go_wp2_with fail
  refine (cmp_val _ _ _ _ y _ hy.out).mono ?_
  rintro e w' ⟨rfl, hg⟩
  (first | (replace hG := Nw.trans hG hg; clear hc hf) | have hG := hg)
  clear hg
  obtain ⟨hc, hf⟩ := hG.rules
  go_wp2_with fail
  refine (level_val _ _ L _ hL.out).mono ?_
  rintro e w' ⟨rfl, hg⟩
  (first | (replace hG := Nw.trans hG hg; clear hc hf) | have hG := hg)
  clear hg
  obtain ⟨hc, hf⟩ := hG.rules
  go_wp2
  go_ret
  exact ⟨rfl, ((((Nw.refl _).alloc _).alloc _).alloc _).trans hG⟩

set_option maxHeartbeats 1000000 in
theorem way_lt1_a_rec (a0 b0 a1 b1 a2 b2 : Int) (w : World) (hp : (a0 == a1) = false) (y : Int) (hy0 : 0 ≤ y) (hx : Hid (cmpN a0 b0 a1 b1 = -1)) (hx2 : Hid (cmpN a1 b1 a0 b0 = 1)) (hy : Hid (cmpN a1 b1 a2 b2 = y)) (h0 : 0 ≤ a0) (h1 : a0 < 100) (hL : Hid (lvl a0 b0 = 2)) (hP : Hid (cmpN a0 (-1) a0 b0 = -1)) (hQ : Hid (cmpN a0 b0 (a0 + 1) (-1) = -1)) :
    Calls Tryd.prog 7 #[.agg #[.int .i64 a0, .int .i64 b0], .agg #[.int .i64 a1, .int .i64 b1], .agg #[.int .i64 a2, .int .i64 b2]] w fun e w' => e = .returned (.bool true) ∧ Nw w w' := by
  go_enter Tryd.func7, Tryd.ntmps7
  go_wp2_with fail
  refine (lives_ok _).mono ?_
  rintro e w' ⟨rfl, hg⟩
  (first | (replace hG := Nw.trans hG hg; clear hc hf) | have hG := hg)
  clear hg
  obtain ⟨hc, hf⟩ := hG.rules
  go_wp2_with fail
  refine (cmp_val _ _ _ _ (-1) _ hx.out).mono ?_
  rintro e w' ⟨rfl, hg⟩
  (first | (replace hG := Nw.trans hG hg; clear hc hf) | have hG := hg)
  clear hg
  obtain ⟨hc, hf⟩ := hG.rules
  go_wp2_with fail
  refine (cmp_val _ _ _ _ 1 _ hx2.out).mono ?_
  rintro e w' ⟨rfl, hg⟩
  (first | (replace hG := Nw.trans hG hg; clear hc hf) | have hG := hg)
  clear hg
  obtain ⟨hc, hf⟩ := hG.rules
  go_wp2_with fail
  refine (cmp_val _ _ _ _ y _ hy.out).mono ?_
  rintro e w' ⟨rfl, hg⟩
  (first | (replace hG := Nw.trans hG hg; clear hc hf) | have hG := hg)
  clear hg
  obtain ⟨hc, hf⟩ := hG.rules
  go_wp2_with fail
  refine (level_val _ _ 2 _ hL.out).mono ?_
  rintro e w' ⟨rfl, hg⟩
  (first | (replace hG := Nw.trans hG hg; clear hc hf) | have hG := hg)
  clear hg
  obtain ⟨hc, hf⟩ := hG.rules
  go_wp2_with fail
  refine (parent_rec _ _ _ hL.out).mono ?_
  rintro e w' ⟨rfl, hg⟩
  (first | (replace hG := Nw.trans hG hg; clear hc hf) | have hG := hg)
  clear hg
  obtain ⟨hc, hf⟩ := hG.rules
  have c0 : w'.cell? ⟨w.heap.size, 0, none⟩ = some (.int .i64 a0) := by simp [hc, go_sem]
  have c1 : w'.cell? ⟨w.heap.size, 1, none⟩ = some (.int .i64 b0) := by simp [hc, go_sem]
  have d0 : ∀ o1 o2, ((w'.alloc o1).alloc o2).cell? ⟨w.heap.size, 0, none⟩ = some (.int .i64 a0) := fun _ _ => ((Nw.refl _).alloc _).keep (((Nw.refl _).alloc _).keep c0)
  have d1 : ∀ o1 o2, ((w'.alloc o1).alloc o2).cell? ⟨w.heap.size, 1, none⟩ = some (.int .i64 b0) := fun _ _ => ((Nw.refl _).alloc _).keep (((Nw.refl _).alloc _).keep c1)
  clear hc hf c0 c1
  go_wp2_with fail
  refine (cmp_val _ _ _ _ (-1) _ hP.out).mono ?_
  rintro e w3 ⟨rfl, hg⟩
  obtain ⟨hc, hf⟩ := hg.rules
  have c0 := hg.keep (d0 _ _)
  have c1 := hg.keep (d1 _ _)
  go_wp2_with fail
  refine (cmp_val _ _ _ _ (-1) _ hQ.out).mono ?_
  rintro e w4 ⟨rfl, hg4⟩
  go_wp2
  go_ret
  exact ⟨rfl, ((((((((Nw.refl _).alloc _).alloc _).alloc _).trans hG).alloc _).alloc _).trans hg).trans hg4⟩

set_option maxHeartbeats 1000000 in
theorem way_lt2_a_no (a0 b0 a1 b1 a2 b2 : Int) (w : World) (hp : (a0 == a1) = false) (hx : Hid (cmpN a0 b0 a1 b1 = -1)) (hx2 : Hid (cmpN a1 b1 a0 b0 = 1)) (hy : Hid (cmpN a1 b1 a2 b2 = -1)) (hz : Hid (cmpN a0 b0 a2 b2 = -1)) (L : Int) (hL : Hid (lvl a0 b0 = L)) (hL2 : (L == 2) = false) (hL3 : (L != 2) = true) :
    Calls Tryd.prog 7 #[.agg #[.int .i64 a0, .int .i64 b0], .agg #[.int .i64 a1, .int .i64 b1], .agg #[.int .i64 a2, .int .i64 b2]] w fun e w' => e = .returned (.bool true) ∧ Nw w w' := by
  go_enter Tryd.func7, Tryd.ntmps7
  go_wp2_with fail
  refine (lives_ok _).mono ?_
  rintro e w' ⟨rfl, hg⟩
  (first | (replace hG := Nw.trans hG hg; clear hc hf) | have hG := hg)
  clear hg
  obtain ⟨hc, hf⟩ := hG.rules
  go_wp2_with fail
  refine (cmp_val _ _ _ _ (-1) _ hx.out).mono ?_
  rintro e w' ⟨rfl, hg⟩
  (first | (replace hG := Nw.trans hG hg; clear hc hf) | have hG := hg)
  clear hg
  obtain ⟨hc, hf⟩ := hG.rules
  go_wp2_with fail
  refine (cmp_val _ _ _ _ 1 _ hx2.out).mono ?_
  rintro e w' ⟨rfl, hg⟩
  (first | (replace hG := Nw.trans hG hg; clear hc hf) | have hG := hg)
  clear hg
  obtain ⟨hc, hf⟩ := hG.rules
  go_wp2_with fail
  refine (cmp_val _ _ _ _ (-1) _ hy.out).mono ?_
  rintro e w' ⟨rfl, hg⟩
  (first | (replace hG := Nw.trans hG hg; clear hc hf) | have hG := hg)
  clear hg
  obtain ⟨hc, hf⟩ := hG.rules
  go_wp2_with fail
  refine (cmp_val _ _ _ _ (-1) _ hz.out).mono ?_
  rintro e w' ⟨rfl, hg⟩
  (first | (replace hG := Nw.trans hG hg; clear hc hf) | have hG := hg)
  clear hg
  obtain ⟨hc, hf⟩ := hG.rules
  go_wp2_with fail
  refine (level_val _ _ L _ hL.out).mono ?_
  rintro e w' ⟨rfl, hg⟩
  (first | (replace hG := Nw.trans hG hg; clear hc hf) | have hG := hg)
  clear hg
  obtain ⟨hc, hf⟩ := hG.rules
  go_wp2
  go_ret
  exact ⟨rfl, ((((Nw.refl _).alloc _).alloc _).alloc _).trans hG⟩

set_option maxHeartbeats 1000000 in
theorem way_lt2_a_rec (a0 b0 a1 b1 a2 b2 : Int) (w : World) (hp : (a0 == a1) = false) (hx : Hid (cmpN a0 b0 a1 b1 = -1)) (hx2 : Hid (cmpN a1 b1 a0 b0 = 1)) (hy : Hid (cmpN a1 b1 a2 b2 = -1)) (hz : Hid (cmpN a0 b0 a2 b2 = -1)) (h0 : 0 ≤ a0) (h1 : a0 < 100) (hL : Hid (lvl a0 b0 = 2)) (hP : Hid (cmpN a0 (-1) a0 b0 = -1)) (hQ : Hid (cmpN a0 b0 (a0 + 1) (-1) = -1)) :
    Calls Tryd.prog 7 #[.agg #[.int .i64 a0, .int .i64 b0], .agg #[.int .i64 a1, .int .i64 b1], .agg #[.int .i64 a2, .int .i64 b2]] w fun e w' => e = .returned (.bool true) ∧ Nw w w' := by
  go_enter Tryd.func7, Tryd.ntmps7
  go_wp2_with fail
  refine (lives_ok _).mono ?_
  rintro e w' ⟨rfl, hg⟩
  (first | (replace hG := Nw.trans hG hg; clear hc hf) | have hG := hg)
  clear hg
  obtain ⟨hc, hf⟩ := hG.rules
  go_wp2_with fail
  refine (cmp_val _ _ _ _ (-1) _ hx.out).mono ?_
  rintro e w' ⟨rfl, hg⟩
  (first | (replace hG := Nw.trans hG hg; clear hc hf) | have hG := hg)
  clear hg
  obtain ⟨hc, hf⟩ := hG.rules
  go_wp2_with fail
  refine (cmp_val _ _ _ _ 1 _ hx2.out).mono ?_
  rintro e w' ⟨rfl, hg⟩
  (first | (replace hG := Nw.trans hG hg; clear hc hf) | have hG := hg)
  clear hg
  obtain ⟨hc, hf⟩ := hG.rules
  go_wp2_with fail
  refine (cmp_val _ _ _ _ (-1) _ hy.out).mono ?_
  rintro e w' ⟨rfl, hg⟩
  (first | (replace hG := Nw.trans hG hg; clear hc hf) | have hG := hg)
  clear hg
  obtain ⟨hc, hf⟩ := hG.rules
  go_wp2_with fail
  refine (cmp_val _ _ _ _ (-1) _ hz.out).mono ?_
  rintro e w' ⟨rfl, hg⟩
  (first | (replace hG := Nw.trans hG hg; clear hc hf) | have hG := hg)
  clear hg
  obtain ⟨hc, hf⟩ := hG.rules
  go_wp2_with fail
  refine (level_val _ _ 2 _ hL.out).mono ?_
  rintro e w' ⟨rfl, hg⟩
  (first | (replace hG := Nw.trans hG hg; clear hc hf) | have hG := hg)
  clear hg
  obtain ⟨hc, hf⟩ := hG.rules
  go_wp2_with fail
  refine (parent_rec _ _ _ hL.out).mono ?_
  rintro e w' ⟨rfl, hg⟩
  (first | (replace hG := Nw.trans hG hg; clear hc hf) | have hG := hg)
  clear hg
  obtain ⟨hc, hf⟩ := hG.rules
  have c0 : w'.cell? ⟨w.heap.size, 0, none⟩ = some (.int .i64 a0) := by simp [hc, go_sem]
  have c1 : w'.cell? ⟨w.heap.size, 1, none⟩ = some (.int .i64 b0) := by simp [hc, go_sem]
  have d0 : ∀ o1 o2, ((w'.alloc o1).alloc o2).cell? ⟨w.heap.size, 0, none⟩ = some (.int .i64 a0) := fun _ _ => ((Nw.refl _).alloc _).keep (((Nw.refl _).alloc _).keep c0)
  have d1 : ∀ o1 o2, ((w'.alloc o1).alloc o2).cell? ⟨w.heap.size, 1, none⟩ = some (.int .i64 b0) := fun _ _ => ((Nw.refl _).alloc _).keep (((Nw.refl _).alloc _).keep c1)
  clear hc hf c0 c1
  go_wp2_with fail
  refine (cmp_val _ _ _ _ (-1) _ hP.out).mono ?_
  rintro e w3 ⟨rfl, hg⟩
  obtain ⟨hc, hf⟩ := hg.rules
  have c0 := hg.keep (d0 _ _)
  have c1 := hg.keep (d1 _ _)
  go_wp2_with fail
  refine (cmp_val _ _ _ _ (-1) _ hQ.out).mono ?_
  rintro e w4 ⟨rfl, hg4⟩
  go_wp2
  go_ret
  exact ⟨rfl, ((((((((Nw.refl _).alloc _).alloc _).alloc _).trans hG).alloc _).alloc _).trans hg).trans hg4⟩

set_option maxHeartbeats 1000000 in
theorem way_gt_b_no (a0 b0 b1 a2 b2 : Int) (w : World) (hp : (b0 == b1) = false) (hx : Hid (cmpN a0 b0 a0 b1 = 1)) (hx2 : Hid (cmpN a0 b1 a0 b0 = -1)) (L : Int) (hL : Hid (lvl a0 b0 = L)) (hL2 : (L == 2) = false) (hL3 : (L != 2) = true) :
    Calls Tryd.prog 7 #[.agg #[.int .i64 a0, .int .i64 b0], .agg #[.int .i64 a0, .int .i64 b1], .agg #[.int .i64 a2, .int .i64 b2]] w fun e w' => e = .returned (.bool true) ∧ Nw w w' := by
  go_enter Tryd.func7, Tryd.ntmps7
  go_wp2_with fail
  refine (lives_ok _).mono ?_
  rintro e w' ⟨rfl, hg⟩
  (first | (replace hG := Nw.trans hG hg; clear hc hf) | have hG := hg)
  clear hg
  obtain ⟨hc, hf⟩ := hG.rules
  go_wp2_with fail
  refine (cmp_val _ _ _ _ 1 _ hx.out).mono ?_
  rintro e w' ⟨rfl, hg⟩
  (first | (replace hG := Nw.trans hG hg; clear hc hf) | have hG := hg)
  clear hg
  obtain ⟨hc, hf⟩ := hG.rules
  go_wp2_with fail
  refine (cmp_val _ _ _ _ (-1) _ hx2.out).mono ?_
  rintro e w' ⟨rfl, hg⟩
  (first | (replace hG := Nw.trans hG hg; clear hc hf) | have hG := hg)
  clear hg
  obtain ⟨hc, hf⟩ := hG.rules
  go_wp2_with fail
  refine (level_val _ _ L _ hL.out).mono ?_
  rintro e w' ⟨rfl, hg⟩
  (first | (replace hG := Nw.trans hG hg; clear hc hf) | have hG := hg)
  clear hg
  obtain ⟨hc, hf⟩ := hG.rules
  go_wp2
  go_ret
  exact ⟨rfl, ((((Nw.refl _).alloc _).alloc _).alloc _).trans hG⟩

set_option maxHeartbeats 1000000 in
theorem way_gt_b_rec (a0 b0 b1 a2 b2 : Int) (w : World) (hp : (b0 == b1) = false) (hx : Hid (cmpN a0 b0 a0 b1 = 1)) (hx2 : Hid (cmpN a0 b1 a0 b0 = -1)) (h0 : 0 ≤ a0) (h1 : a0 < 100) (hL : Hid (lvl a0 b0 = 2)) (hP : Hid (cmpN a0 (-1) a0 b0 = -1)) (hQ : Hid (cmpN a0 b0 (a0 + 1) (-1) = -1)) :
    Calls Tryd.prog 7 #[.agg #[.int .i64 a0, .int .i64 b0], .agg #[.int .i64 a0, .int .i64 b1], .agg #[.int .i64 a2, .int .i64 b2]] w fun e w' => e = .returned (.bool true) ∧ Nw w w' := by
  go_enter Tryd.func7, Tryd.ntmps7
  go_wp2_with fail
  refine (lives_ok _).mono ?_
  rintro e w' ⟨rfl, hg⟩
  (first | (replace hG := Nw.trans hG hg; clear hc hf) | have hG := hg)
  clear hg
  obtain ⟨hc, hf⟩ := hG.rules
  go_wp2_with fail
  refine (cmp_val _ _ _ _ 1 _ hx.out).mono ?_
  rintro e w' ⟨rfl, hg⟩
  (first | (replace hG := Nw.trans hG hg; clear hc hf) | have hG := hg)
  clear hg
  obtain ⟨hc, hf⟩ := hG.rules
  go_wp2_with fail
  refine (cmp_val _ _ _ _ (-1) _ hx2.out).mono ?_
  rintro e w' ⟨rfl, hg⟩
  (first | (replace hG := Nw.trans hG hg; clear hc hf) | have hG := hg)
  clear hg
  obtain ⟨hc, hf⟩ := hG.rules
  go_wp2_with fail
  refine (level_val _ _ 2 _ hL.out).mono ?_
  rintro e w' ⟨rfl, hg⟩
  (first | (replace hG := Nw.trans hG hg; clear hc hf) | have hG := hg)
  clear hg
  obtain ⟨hc, hf⟩ := hG.rules
  go_wp2_with fail
  refine (parent_rec _ _ _ hL.out).mono ?_
  rintro e w' ⟨rfl, hg⟩
  (first | (replace hG := Nw.trans hG hg; clear hc hf) | have hG := hg)
  clear hg
  obtain ⟨hc, hf⟩ := hG.rules
  have c0 : w'.cell? ⟨w.heap.size, 0, none⟩ = some (.int .i64 a0) := by simp [hc, go_sem]
  have c1 : w'.cell? ⟨w.heap.size, 1, none⟩ = some (.int .i64 b0) := by simp [hc, go_sem]
  have d0 : ∀ o1 o2, ((w'.alloc o1).alloc o2).cell? ⟨w.heap.size, 0, none⟩ = some (.int .i64 a0) := fun _ _ => ((Nw.refl _).alloc _).keep (((Nw.refl _).alloc _).keep c0)
  have d1 : ∀ o1 o2, ((w'.alloc o1).alloc o2).cell? ⟨w.heap.size, 1, none⟩ = some (.int .i64 b0) := fun _ _ => ((Nw.refl _).alloc _).keep (((Nw.refl _).alloc _).keep c1)
  clear hc hf c0 c1
  go_wp2_with fail
  refine (cmp_val _ _ _ _ (-1) _ hP.out).mono ?_
  rintro e w3 ⟨rfl, hg⟩
  obtain ⟨hc, hf⟩ := hg.rules
  have c0 := hg.keep (d0 _ _)
  have c1 := hg.keep (d1 _ _)
  go_wp2_with fail
  refine (cmp_val _ _ _ _ (-1) _ hQ.out).mono ?_
  rintro e w4 ⟨rfl, hg4⟩
  go_wp2
  go_ret
  exact ⟨rfl, ((((((((Nw.refl _).alloc _).alloc _).alloc _).trans hG).alloc _).alloc _).trans hg).trans hg4⟩

set_option maxHeartbeats 1000000 in
theorem way_lt1_b_no (a0 b0 b1 a2 b2 : Int) (w : World) (hp : (b0 == b1) = false) (y : Int) (hy0 : 0 ≤ y) (hx : Hid (cmpN a0 b0 a0 b1 = -1)) (hx2 : Hid (cmpN a0 b1 a0 b0 = 1)) (hy : Hid (cmpN a0 b1 a2 b2 = y)) (L : Int) (hL : Hid (lvl a0 b0 = L)) (hL2 : (L == 2) = false) (hL3 : (L != 2) = true) :
    Calls Tryd.prog 7 #[.agg #[.int .i64 a0, .int .i64 b0], .agg #[.int .i64 a0, .int .i64 b1], .agg #[.int .i64 a2, .int .i64 b2]] w fun e w' => e = .returned (.bool true) ∧ Nw w w' := by
  go_enter Tryd.func7, Tryd.ntmps7
  go_wp2_with fail
  refine (lives_ok _).mono ?_
  rintro e w' ⟨rfl, hg⟩
  (first | (replace hG := Nw.trans hG hg; clear hc hf) | have hG := hg)
  clear hg
  obtain ⟨hc, hf⟩ := hG.rules
  go_wp2_with fail
  refine (cmp_val _ _ _ _ (-1) _ hx.out).mono ?_
  rintro e w' ⟨rfl, hg⟩
  (first | (replace hG := Nw.trans hG hg; clear hc hf) | have hG := hg)
  clear hg
  obtain ⟨hc, hf⟩ := hG.rules
  go_wp2_with fail
  refine (cmp_val _ _ _ _ 1 _ hx2.out).mono ?_
  rintro e w' ⟨rfl, hg⟩
  (first | (replace hG := Nw.trans hG hg; clear hc hf) | have hG := hg)
  clear hg
  obtain ⟨hc, hf⟩ := hG.rules
  go_wp2_with fail
  refine (cmp_val _ _ _ _ y _ hy.out).mono ?_
  rintro e w' ⟨rfl, hg⟩
  (first | (replace hG := Nw.trans hG hg; clear hc hf) | have hG := hg)
  clear hg
  obtain ⟨hc, hf⟩ := hG.rules
  go_wp2_with fail
  refine (level_val _ _ L _ hL.out).mono ?_
  rintro e w' ⟨rfl, hg⟩
  (first | (replace hG := Nw.trans hG hg; clear hc hf) | have hG := hg)
  clear hg
  obtain ⟨hc, hf⟩ := hG.rules
  go_wp2
  go_ret
  exact ⟨rfl, ((((Nw.refl _).alloc _).alloc _).alloc _).trans hG⟩

set_option maxHeartbeats 1000000 in
theorem way_lt1_b_rec (a0 b0 b1 a2 b2 : Int) (w : World) (hp : (b0 == b1) = false) (y : Int) (hy0 : 0 ≤ y) (hx : Hid (cmpN a0 b0 a0 b1 = -1)) (hx2 : Hid (cmpN a0 b1 a0 b0 = 1)) (hy : Hid (cmpN a0 b1 a2 b2 = y)) (h0 : 0 ≤ a0) (h1 : a0 < 100) (hL : Hid (lvl a0 b0 = 2)) (hP : Hid (cmpN a0 (-1) a0 b0 = -1)) (hQ : Hid (cmpN a0 b0 (a0 + 1) (-1) = -1)) :
    Calls Tryd.prog 7 #[.agg #[.int .i64 a0, .int .i64 b0], .agg #[.int .i64 a0, .int .i64 b1], .agg #[.int .i64 a2, .int .i64 b2]] w fun e w' => e = .returned (.bool true) ∧ Nw w w' := by
  go_enter Tryd.func7, Tryd.ntmps7
  go_wp2_with fail
  refine (lives_ok _).mono ?_
  rintro e w' ⟨rfl, hg⟩
  (first | (replace hG := Nw.trans hG hg; clear hc hf) | have hG := hg)
  clear hg
  obtain ⟨hc, hf⟩ := hG.rules
  go_wp2_with fail
  refine (cmp_val _ _ _ _ (-1) _ hx.out).mono ?_
  rintro e w' ⟨rfl, hg⟩
  (first | (replace hG := Nw.trans hG hg; clear hc hf) | have hG := hg)
  clear hg
  obtain ⟨hc, hf⟩ := hG.rules
  go_wp2_with fail
  refine (cmp_val _ _ _ _ 1 _ hx2.out).mono ?_
  rintro e w' ⟨rfl, hg⟩
  (first | (replace hG := Nw.trans hG hg; clear hc hf) | have hG := hg)
  clear hg
  obtain ⟨hc, hf⟩ := hG.rules
  go_wp2_with fail
  refine (cmp_val _ _ _ _ y _ hy.out).mono ?_
  rintro e w' ⟨rfl, hg⟩
  (first | (replace hG := Nw.trans hG hg; clear hc hf) | have hG := hg)
  clear hg
  obtain ⟨hc, hf⟩ := hG.rules
  go_wp2_with fail
  refine (level_val _ _ 2 _ hL.out).mono ?_
  rintro e w' ⟨rfl, hg⟩
  (first | (replace hG := Nw.trans hG hg; clear hc hf) | have hG := hg)
  clear hg
  obtain ⟨hc, hf⟩ := hG.rules
  go_wp2_with fail
  refine (parent_rec _ _ _ hL.out).mono ?_
  rintro e w' ⟨rfl, hg⟩
  (first | (replace hG := Nw.trans hG hg; clear hc hf) | have hG := hg)
  clear hg
  obtain ⟨hc, hf⟩ := hG.rules
  have c0 : w'.cell? ⟨w.heap.size, 0, none⟩ = some (.int .i64 a0) := by simp [hc, go_sem]
  have c1 : w'.cell? ⟨w.heap.size, 1, none⟩ = some (.int .i64 b0) := by simp [hc, go_sem]
  have d0 : ∀ o1 o2, ((w'.alloc o1).alloc o2).cell? ⟨w.heap.size, 0, none⟩ = some (.int .i64 a0) := fun _ _ => ((Nw.refl _).alloc _).keep (((Nw.refl _).alloc _).keep c0)
  have d1 : ∀ o1 o2, ((w'.alloc o1).alloc o2).cell? ⟨w.heap.size, 1, none⟩ = some (.int .i64 b0) := fun _ _ => ((Nw.refl _).alloc _).keep (((Nw.refl _).alloc _).keep c1)
  clear hc hf c0 c1
  go_wp2_with fail
  refine (cmp_val _ _ _ _ (-1) _ hP.out).mono ?_
  rintro e w3 ⟨rfl, hg⟩
  obtain ⟨hc, hf⟩ := hg.rules
  have c0 := hg.keep (d0 _ _)
  have c1 := hg.keep (d1 _ _)
  go_wp2_with fail
  refine (cmp_val _ _ _ _ (-1) _ hQ.out).mono ?_
  rintro e w4 ⟨rfl, hg4⟩
  go_wp2
  go_ret
  exact ⟨rfl, ((((((((Nw.refl _).alloc _).alloc _).alloc _).trans hG).alloc _).alloc _).trans hg).trans hg4⟩

set_option maxHeartbeats 1000000 in
theorem way_lt2_b_no (a0 b0 b1 a2 b2 : Int) (w : World) (hp : (b0 == b1) = false) (hx : Hid (cmpN a0 b0 a0 b1 = -1)) (hx2 : Hid (cmpN a0 b1 a0 b0 = 1)) (hy : Hid (cmpN a0 b1 a2 b2 = -1)) (hz : Hid (cmpN a0 b0 a2 b2 = -1)) (L : Int) (hL : Hid (lvl a0 b0 = L)) (hL2 : (L == 2) = false) (hL3 : (L != 2) = true) :
    Calls Tryd.prog 7 #[.agg #[.int .i64 a0, .int .i64 b0], .agg #[.int .i64 a0, .int .i64 b1], .agg #[.int .i64 a2, .int .i64 b2]] w fun e w' => e = .returned (.bool true) ∧ Nw w w' := by
  go_enter Tryd.func7, Tryd.ntmps7
  go_wp2_with fail
  refine (lives_ok _).mono ?_
  rintro e w' ⟨rfl, hg⟩
  (first | (replace hG := Nw.trans hG hg; clear hc hf) | have hG := hg)
  clear hg
  obtain ⟨hc, hf⟩ := hG.rules
  go_wp2_with fail
  refine (cmp_val _ _ _ _ (-1) _ hx.out).mono ?_
  rintro e w' ⟨rfl, hg⟩
  (first | (replace hG := Nw.trans hG hg; clear hc hf) | have hG := hg)
  clear hg
  obtain ⟨hc, hf⟩ := hG.rules
  go_wp2_with fail
  refine (cmp_val _ _ _ _ 1 _ hx2.out).mono ?_
  rintro e w' ⟨rfl, hg⟩
  (first | (replace hG := Nw.trans hG hg; clear hc hf) | have hG := hg)
  clear hg
  obtain ⟨hc, hf⟩ := hG.rules
  go_wp2_with fail
  refine (cmp_val _ _ _ _ (-1) _ hy.out).mono ?_
  rintro e w' ⟨rfl, hg⟩
  (first | (replace hG := Nw.trans hG hg; clear hc hf) | have hG := hg)
  clear hg
  obtain ⟨hc, hf⟩ := hG.rules
  go_wp2_with fail
  refine (cmp_val _ _ _ _ (-1) _ hz.out).mono ?_
  rintro e w' ⟨rfl, hg⟩
  (first | (replace hG := Nw.trans hG hg; clear hc hf) | have hG := hg)
  clear hg
  obtain ⟨hc, hf⟩ := hG.rules
  go_wp2_with fail
  refine (level_val _ _ L _ hL.out).mono ?_
  rintro e w' ⟨rfl, hg⟩
  (first | (replace hG := Nw.trans hG hg; clear hc hf) | have hG := hg)
  clear hg
  obtain ⟨hc, hf⟩ := hG.rules
  go_wp2
  go_ret
  exact ⟨rfl, ((((Nw.refl _).alloc _).alloc _).alloc _).trans hG⟩

set_option maxHeartbeats 1000000 in
theorem way_lt2_b_rec (a0 b0 b1 a2 b2 : Int) (w : World) (hp : (b0 == b1) = false) (hx : Hid (cmpN a0 b0 a0 b1 = -1)) (hx2 : Hid (cmpN a0 b1 a0 b0 = 1)) (hy : Hid (cmpN a0 b1 a2 b2 = -1)) (hz : Hid (cmpN a0 b0 a2 b2 = -1)) (h0 : 0 ≤ a0) (h1 : a0 < 100) (hL : Hid (lvl a0 b0 = 2)) (hP : Hid (cmpN a0 (-1) a0 b0 = -1)) (hQ : Hid (cmpN a0 b0 (a0 + 1) (-1) = -1)) :
    Calls Tryd.prog 7 #[.agg #[.int .i64 a0, .int .i64 b0], .agg #[.int .i64 a0, .int .i64 b1], .agg #[.int .i64 a2, .int .i64 b2]] w fun e w' => e = .returned (.bool true) ∧ Nw w w' := by
  go_enter Tryd.func7, Tryd.ntmps7
  go_wp2_with fail
  refine (lives_ok _).mono ?_
  rintro e w' ⟨rfl, hg⟩
  (first | (replace hG := Nw.trans hG hg; clear hc hf) | have hG := hg)
  clear hg
  obtain ⟨hc, hf⟩ := hG.rules
  go_wp2_with fail
  refine (cmp_val _ _ _ _ (-1) _ hx.out).mono ?_
  rintro e w' ⟨rfl, hg⟩
  (first | (replace hG := Nw.trans hG hg; clear hc hf) | have hG := hg)
  clear hg
  obtain ⟨hc, hf⟩ := hG.rules
  go_wp2_with fail
  refine (cmp_val _ _ _ _ 1 _ hx2.out).mono ?_
  rintro e w' ⟨rfl, hg⟩
  (first | (replace hG := Nw.trans hG hg; clear hc hf) | have hG := hg)
  clear hg
  obtain ⟨hc, hf⟩ := hG.rules
  go_wp2_with fail
  refine (cmp_val _ _ _ _ (-1) _ hy.out).mono ?_
  rintro e w' ⟨rfl, hg⟩
  (first | (replace hG := Nw.trans hG hg; clear hc hf) | have hG := hg)
  clear hg
  obtain ⟨hc, hf⟩ := hG.rules
  go_wp2_with fail
  refine (cmp_val _ _ _ _ (-1) _ hz.out).mono ?_
  rintro e w' ⟨rfl, hg⟩
  (first | (replace hG := Nw.trans hG hg; clear hc hf) | have hG := hg)
  clear hg
  obtain ⟨hc, hf⟩ := hG.rules
  go_wp2_with fail
  refine (level_val _ _ 2 _ hL.out).mono ?_
  rintro e w' ⟨rfl, hg⟩
  (first | (replace hG := Nw.trans hG hg; clear hc hf) | have hG := hg)
  clear hg
  obtain ⟨hc, hf⟩ := hG.rules
  go_wp2_with fail
  refine (parent_rec _ _ _ hL.out).mono ?_
  rintro e w' ⟨rfl, hg⟩
  (first | (replace hG := Nw.trans hG hg; clear hc hf) | have hG := hg)
  clear hg
  obtain ⟨hc, hf⟩ := hG.rules
  have c0 : w'.cell? ⟨w.heap.size, 0, none⟩ = some (.int .i64 a0) := by simp [hc, go_sem]
  have c1 : w'.cell? ⟨w.heap.size, 1, none⟩ = some (.int .i64 b0) := by simp [hc, go_sem]
  have d0 : ∀ o1 o2, ((w'.alloc o1).alloc o2).cell? ⟨w.heap.size, 0, none⟩ = some (.int .i64 a0) := fun _ _ => ((Nw.refl _).alloc _).keep (((Nw.refl _).alloc _).keep c0)
  have d1 : ∀ o1 o2, ((w'.alloc o1).alloc o2).cell? ⟨w.heap.size, 1, none⟩ = some (.int .i64 b0) := fun _ _ => ((Nw.refl _).alloc _).keep (((Nw.refl _).alloc _).keep c1)
  clear hc hf c0 c1
  go_wp2_with fail
  refine (cmp_val _ _ _ _ (-1) _ hP.out).mono ?_
  rintro e w3 ⟨rfl, hg⟩
  obtain ⟨hc, hf⟩ := hg.rules
  have c0 := hg.keep (d0 _ _)
  have c1 := hg.keep (d1 _ _)
  go_wp2_with fail
  refine (cmp_val _ _ _ _ (-1) _ hQ.out).mono ?_
  rintro e w4 ⟨rfl, hg4⟩
  go_wp2
  go_ret
  exact ⟨rfl, ((((((((Nw.refl _).alloc _).alloc _).alloc _).trans hG).alloc _).alloc _).trans hg).trans hg4⟩

set_option maxHeartbeats 1000000 in
theorem way_eq_no (a0 b0 a2 b2 : Int) (w : World) (hx : Hid (cmpN a0 b0 a0 b0 = 0)) (L : Int) (hL : Hid (lvl a0 b0 = L)) (hL2 : (L == 2) = false) (hL3 : (L != 2) = true) :
    Calls Tryd.prog 7 #[.agg #[.int .i64 a0, .int .i64 b0], .agg #[.int .i64 a0, .int .i64 b0], .agg #[.int .i64 a2, .int .i64 b2]] w fun e w' => e = .returned (.bool true) ∧ Nw w w' := by
  go_enter Tryd.func7, Tryd.ntmps7
  go_wp2_with fail
  refine (lives_ok _).mono ?_
  rintro e w' ⟨rfl, hg⟩
  (first | (replace hG := Nw.trans hG hg; clear hc hf) | have hG := hg)
  clear hg
  obtain ⟨hc, hf⟩ := hG.rules
  go_wp2_with fail
  refine (cmp_val _ _ _ _ 0 _ hx.out).mono ?_
  rintro e w' ⟨rfl, hg⟩
  (first | (replace hG := Nw.trans hG hg; clear hc hf) | have hG := hg)
  clear hg
  obtain ⟨hc, hf⟩ := hG.rules
  go_wp2_with fail
  refine (cmp_val _ _ _ _ 0 _ hx.out).mono ?_
  rintro e w' ⟨rfl, hg⟩
  (first | (replace hG := Nw.trans hG hg; clear hc hf) | have hG := hg)
  clear hg
  obtain ⟨hc, hf⟩ := hG.rules
  go_wp2_with fail
  refine (level_val _ _ L _ hL.out).mono ?_
  rintro e w' ⟨rfl, hg⟩
  (first | (replace hG := Nw.trans hG hg; clear hc hf) | have hG := hg)
  clear hg
  obtain ⟨hc, hf⟩ := hG.rules
  go_wp2
  go_ret
  exact ⟨rfl, ((((Nw.refl _).alloc _).alloc _).alloc _).trans hG⟩

set_option maxHeartbeats 1000000 in
theorem way_eq_rec (a0 b0 a2 b2 : Int) (w : World) (hx : Hid (cmpN a0 b0 a0 b0 = 0)) (h0 : 0 ≤ a0) (h1 : a0 < 100) (hL : Hid (lvl a0 b0 = 2)) (hP : Hid (cmpN a0 (-1) a0 b0 = -1)) (hQ : Hid (cmpN a0 b0 (a0 + 1) (-1) = -1)) :
    Calls Tryd.prog 7 #[.agg #[.int .i64 a0, .int .i64 b0], .agg #[.int .i64 a0, .int .i64 b0], .agg #[.int .i64 a2, .int .i64 b2]] w fun e w' => e = .returned (.bool true) ∧ Nw w w' := by
  go_enter Tryd.func7, Tryd.ntmps7
  go_wp2_with fail
  refine (lives_ok _).mono ?_
  rintro e w' ⟨rfl, hg⟩
  (first | (replace hG := Nw.trans hG hg; clear hc hf) | have hG := hg)
  clear hg
  obtain ⟨hc, hf⟩ := hG.rules
  go_wp2_with fail
  refine (cmp_val _ _ _ _ 0 _ hx.out).mono ?_
  rintro e w' ⟨rfl, hg⟩
  (first | (replace hG := Nw.trans hG hg; clear hc hf) | have hG := hg)
  clear hg
  obtain ⟨hc, hf⟩ := hG.rules
  go_wp2_with fail
  refine (cmp_val _ _ _ _ 0 _ hx.out).mono ?_
  rintro e w' ⟨rfl, hg⟩
  (first | (replace hG := Nw.trans hG hg; clear hc hf) | have hG := hg)
  clear hg
  obtain ⟨hc, hf⟩ := hG.rules
  go_wp2_with fail
  refine (level_val _ _ 2 _ hL.out).mono ?_
  rintro e w' ⟨rfl, hg⟩
  (first | (replace hG := Nw.trans hG hg; clear hc hf) | have hG := hg)
  clear hg
  obtain ⟨hc, hf⟩ := hG.rules
  go_wp2_with fail
  refine (parent_rec _ _ _ hL.out).mono ?_
  rintro e w' ⟨rfl, hg⟩
  (first | (replace hG := Nw.trans hG hg; clear hc hf) | have hG := hg)
  clear hg
  obtain ⟨hc, hf⟩ := hG.rules
  have c0 : w'.cell? ⟨w.heap.size, 0, none⟩ = some (.int .i64 a0) := by simp [hc, go_sem]
  have c1 : w'.cell? ⟨w.heap.size, 1, none⟩ = some (.int .i64 b0) := by simp [hc, go_sem]
  have d0 : ∀ o1 o2, ((w'.alloc o1).alloc o2).cell? ⟨w.heap.size, 0, none⟩ = some (.int .i64 a0) := fun _ _ => ((Nw.refl _).alloc _).keep (((Nw.refl _).alloc _).keep c0)
  have d1 : ∀ o1 o2, ((w'.alloc o1).alloc o2).cell? ⟨w.heap.size, 1, none⟩ = some (.int .i64 b0) := fun _ _ => ((Nw.refl _).alloc _).keep (((Nw.refl _).alloc _).keep c1)
  clear hc hf c0 c1
  go_wp2_with fail
  refine (cmp_val _ _ _ _ (-1) _ hP.out).mono ?_
  rintro e w3 ⟨rfl, hg⟩
  obtain ⟨hc, hf⟩ := hg.rules
  have c0 := hg.keep (d0 _ _)
  have c1 := hg.keep (d1 _ _)
  go_wp2_with fail
  refine (cmp_val _ _ _ _ (-1) _ hQ.out).mono ?_
  rintro e w4 ⟨rfl, hg4⟩
  go_wp2
  go_ret
  exact ⟨rfl, ((((((((Nw.refl _).alloc _).alloc _).alloc _).trans hG).alloc _).alloc _).trans hg).trans hg4⟩

theorem walk (a0 b0 a1 b1 a2 b2 : Int) (w0 : (Lit.int .i64 a0).wf = true) (u0 : (Lit.int .i64 b0).wf = true) (w1 : (Lit.int .i64 a1).wf = true) (u1 : (Lit.int .i64 b1).wf = true) (w2 : (Lit.int .i64 a2).wf = true) (u2 : (Lit.int .i64 b2).wf = true) (w : World) (hsh : w.ShapedOpen Tryd.prog) :
    Calls Tryd.prog 7 #[.agg #[.int .i64 a0, .int .i64 b0], .agg #[.int .i64 a1, .int .i64 b1], .agg #[.int .i64 a2, .int .i64 b2]] w fun e w' => e = .returned (.bool true) ∧ Nw w w' := by
  clear w0 u0 w1 u1 w2 u2 hsh
  rcases level_ways a0 b0 with ⟨L, hL, hL2, hL3⟩ | ⟨h0, h1, hL, hP, hQ⟩
  · rcases cmp_three a0 b0 a1 b1 with h | ⟨rfl, rfl⟩ | h
    · rcases cmp_three a1 b1 a2 b2 with k | k | k
      · have hz := cmp_lt (t := a0) (r := b0) (t' := a2) (r' := b2) (by omega)
        rcases parted_lt h with hp | ⟨rfl, hp⟩
        · exact way_lt2_a_no a0 b0 a1 b1 a2 b2 w hp (Lib.hid (cmp_lt h)) (Lib.hid (cmp_gt (by omega))) (Lib.hid (cmp_lt k)) (Lib.hid hz) L hL hL2 hL3
        · exact way_lt2_b_no a0 b0 b1 a2 b2 w hp (Lib.hid (cmp_lt h)) (Lib.hid (cmp_gt (by omega))) (Lib.hid (cmp_lt k)) (Lib.hid hz) L hL hL2 hL3
      · obtain ⟨rfl, rfl⟩ := k
        rcases parted_lt h with hp | ⟨rfl, hp⟩
        · exact way_lt1_a_no a0 b0 a1 b1 a1 b1 w hp 0 (by decide) (Lib.hid (cmp_lt h)) (Lib.hid (cmp_gt (by omega))) (Lib.hid (cmp_self _ _)) L hL hL2 hL3
        · exact way_lt1_b_no a0 b0 b1 a0 b1 w hp 0 (by decide) (Lib.hid (cmp_lt h)) (Lib.hid (cmp_gt (by omega))) (Lib.hid (cmp_self _ _)) L hL hL2 hL3
      · rcases parted_lt h with hp | ⟨rfl, hp⟩
        · exact way_lt1_a_no a0 b0 a1 b1 a2 b2 w hp 1 (by decide) (Lib.hid (cmp_lt h)) (Lib.hid (cmp_gt (by omega))) (Lib.hid (cmp_gt k)) L hL hL2 hL3
        · exact way_lt1_b_no a0 b0 b1 a2 b2 w hp 1 (by decide) (Lib.hid (cmp_lt h)) (Lib.hid (cmp_gt (by omega))) (Lib.hid (cmp_gt k)) L hL hL2 hL3
    · exact way_eq_no a0 b0 a2 b2 w (Lib.hid (cmp_self _ _)) L hL hL2 hL3
    · rcases parted_gt h with hp | ⟨rfl, hp⟩
      · exact way_gt_a_no a0 b0 a1 b1 a2 b2 w hp (Lib.hid (cmp_gt h)) (Lib.hid (cmp_lt (by omega))) L hL hL2 hL3
      · exact way_gt_b_no a0 b0 b1 a2 b2 w hp (Lib.hid (cmp_gt h)) (Lib.hid (cmp_lt (by omega))) L hL hL2 hL3
  · rcases cmp_three a0 b0 a1 b1 with h | ⟨rfl, rfl⟩ | h
    · rcases cmp_three a1 b1 a2 b2 with k | k | k
      · have hz := cmp_lt (t := a0) (r := b0) (t' := a2) (r' := b2) (by omega)
        rcases parted_lt h with hp | ⟨rfl, hp⟩
        · exact way_lt2_a_rec a0 b0 a1 b1 a2 b2 w hp (Lib.hid (cmp_lt h)) (Lib.hid (cmp_gt (by omega))) (Lib.hid (cmp_lt k)) (Lib.hid hz) h0 h1 hL hP hQ
        · exact way_lt2_b_rec a0 b0 b1 a2 b2 w hp (Lib.hid (cmp_lt h)) (Lib.hid (cmp_gt (by omega))) (Lib.hid (cmp_lt k)) (Lib.hid hz) h0 h1 hL hP hQ
      · obtain ⟨rfl, rfl⟩ := k
        rcases parted_lt h with hp | ⟨rfl, hp⟩
        · exact way_lt1_a_rec a0 b0 a1 b1 a1 b1 w hp 0 (by decide) (Lib.hid (cmp_lt h)) (Lib.hid (cmp_gt (by omega))) (Lib.hid (cmp_self _ _)) h0 h1 hL hP hQ
        · exact way_lt1_b_rec a0 b0 b1 a0 b1 w hp 0 (by decide) (Lib.hid (cmp_lt h)) (Lib.hid (cmp_gt (by omega))) (Lib.hid (cmp_self _ _)) h0 h1 hL hP hQ
      · rcases parted_lt h with hp | ⟨rfl, hp⟩
        · exact way_lt1_a_rec a0 b0 a1 b1 a2 b2 w hp 1 (by decide) (Lib.hid (cmp_lt h)) (Lib.hid (cmp_gt (by omega))) (Lib.hid (cmp_gt k)) h0 h1 hL hP hQ
        · exact way_lt1_b_rec a0 b0 b1 a2 b2 w hp 1 (by decide) (Lib.hid (cmp_lt h)) (Lib.hid (cmp_gt (by omega))) (Lib.hid (cmp_gt k)) h0 h1 hL hP hQ
    · exact way_eq_rec a0 b0 a2 b2 w (Lib.hid (cmp_self _ _)) h0 h1 hL hP hQ
    · rcases parted_gt h with hp | ⟨rfl, hp⟩
      · exact way_gt_a_rec a0 b0 a1 b1 a2 b2 w hp (Lib.hid (cmp_gt h)) (Lib.hid (cmp_lt (by omega))) h0 h1 hL hP hQ
      · exact way_gt_b_rec a0 b0 b1 a2 b2 w hp (Lib.hid (cmp_gt h)) (Lib.hid (cmp_lt (by omega))) h0 h1 hL hP hQ
end Go.Proofs.YtdcjhjmbfpkigaaDoor.nameOrder
