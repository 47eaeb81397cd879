/- Contracts of package name, fourth part: Under. -/
import Derived.Test.YtdcjhjmbfpkigaaDoorNameC
namespace Go.Proofs.YtdcjhjmbfpkigaaDoor
open Go.ChangeShapes Go.WideShapes Go.ChangeAt Go.RowKit

/-- One name is under another one. -/
def und (t r t' r' : Int) : Bool := decide (lvl t r ≠ -1 ∧ lvl t' r' ≠ -1 ∧ ((t' = -1 ∧ r' = -1) ∨ (t' = t ∧ (r' = -1 ∨ r' = r))))
theorem boxes_start' (w : World) (t r t' r' : Int) (ty : TypeId) :
    (((w.alloc (.cells #[.int .i64 t, .int .i64 r] ty)).alloc (.cells #[.int .i64 t', .int .i64 r'] ty)).cell? ⟨w.heap.size, 0, none⟩ = some (.int .i64 t) ∧ ((w.alloc (.cells #[.int .i64 t, .int .i64 r] ty)).alloc (.cells #[.int .i64 t', .int .i64 r'] ty)).cell? ⟨w.heap.size, 1, none⟩ = some (.int .i64 r) ∧ ((w.alloc (.cells #[.int .i64 t, .int .i64 r] ty)).alloc (.cells #[.int .i64 t', .int .i64 r'] ty)).cell? ⟨w.heap.size + 1, 0, none⟩ = some (.int .i64 t') ∧ ((w.alloc (.cells #[.int .i64 t, .int .i64 r] ty)).alloc (.cells #[.int .i64 t', .int .i64 r'] ty)).cell? ⟨w.heap.size + 1, 1, none⟩ = some (.int .i64 r')) ∧ (w.heap.size + 1 < ((w.alloc (.cells #[.int .i64 t, .int .i64 r] ty)).alloc (.cells #[.int .i64 t', .int .i64 r'] ty)).heap.size ∧ Nw w ((w.alloc (.cells #[.int .i64 t, .int .i64 r] ty)).alloc (.cells #[.int .i64 t', .int .i64 r'] ty))) :=
  by
  have h := box_start' w t r ty
  have hz : (w.alloc (.cells #[.int .i64 t, .int .i64 r] ty)).heap.size = w.heap.size + 1 := by show (w.heap.push _).size = _; simp
  have k := box_start' (w.alloc (.cells #[.int .i64 t, .int .i64 r] ty)) t' r' ty
  rw [hz] at k
  have g : Nw (w.alloc (.cells #[.int .i64 t, .int .i64 r] ty)) ((w.alloc (.cells #[.int .i64 t, .int .i64 r] ty)).alloc (.cells #[.int .i64 t', .int .i64 r'] ty)) := (Nw.refl _).alloc _
  have h2 := box_step g h
  exact ⟨⟨h2.1, h2.2.1, k.1, k.2.1⟩, k.2.2.1, h2.2.2.2⟩

theorem under_bad1 (t r t' r' : Int) (w : World) (h : lvl t r = -1) :
    Calls Tryd.prog 20 #[.agg #[.int .i64 t, .int .i64 r], .agg #[.int .i64 t', .int .i64 r']] w fun e w' => e = .returned (.bool false) ∧ Nw w w' := by
  have H := Lib.hid h
  clear h
  go_enter Tryd.func20, Tryd.ntmps20
  go_wp2_with (go_at_call 19; refine (check_no _ _ _ H.out).mono ?_; rintro e w' ⟨rfl, hg⟩; (first | (replace hG := Nw.trans hG hg; clear hc hf) | have hG := hg); clear hg; obtain ⟨hc, hf⟩ := hG.rules)
  go_ret
  exact ⟨rfl, (((Nw.refl _).alloc _).alloc _).trans hG⟩
theorem under_bad2 (t r t' r' : Int) (w : World) (h : lvl t r ≠ -1) (h' : lvl t' r' = -1) :
    Calls Tryd.prog 20 #[.agg #[.int .i64 t, .int .i64 r], .agg #[.int .i64 t', .int .i64 r']] w fun e w' => e = .returned (.bool false) ∧ Nw w w' := by
  have H := Lib.hid h
  have H' := Lib.hid h'
  clear h h'
  go_enter Tryd.func20, Tryd.ntmps20
  go_wp2_with fail
  refine (check_ok _ _ _ H.out).mono ?_
  rintro e w' ⟨rfl, hg⟩; (first | (replace hG := Nw.trans hG hg; clear hc hf) | have hG := hg); clear hg; obtain ⟨hc, hf⟩ := hG.rules
  go_wp2_with fail
  refine (check_no _ _ _ H'.out).mono ?_
  rintro e w' ⟨rfl, hg⟩; (first | (replace hG := Nw.trans hG hg; clear hc hf) | have hG := hg); clear hg; obtain ⟨hc, hf⟩ := hG.rules
  go_wp2
  go_ret
  exact ⟨rfl, (((Nw.refl _).alloc _).alloc _).trans hG⟩
theorem under_same (t r : Int) (w : World) (h : lvl t r ≠ -1) (h' : lvl t r ≠ -1) :
    Calls Tryd.prog 20 #[.agg #[.int .i64 t, .int .i64 r], .agg #[.int .i64 t, .int .i64 r]] w fun e w' => e = .returned (.bool true) ∧ Nw w w' := by
  have H := Lib.hid h
  have H' := Lib.hid h'
  clear h h'
  go_enter Tryd.func20, Tryd.ntmps20
  go_wp2_with fail
  refine (check_ok _ _ _ H.out).mono ?_
  rintro e w' ⟨rfl, hg⟩; (first | (replace hG := Nw.trans hG hg; clear hc hf) | have hG := hg); clear hg; obtain ⟨hc, hf⟩ := hG.rules
  go_wp2_with fail
  refine (check_ok _ _ _ H'.out).mono ?_
  rintro e w' ⟨rfl, hg⟩; (first | (replace hG := Nw.trans hG hg; clear hc hf) | have hG := hg); clear hg; obtain ⟨hc, hf⟩ := hG.rules
  have hS := boxes_step hG (boxes_start' w t r t r 24)
  clear hc hf
  go_wp2
  obtain ⟨⟨c0, c1, c2, c3⟩, _, hN⟩ := hS
  go_quiet (fail)
  go_wp2
  go_ret
  exact ⟨rfl, hN.drewN _⟩
/-- Two names are not the same. -/
def Parted (t r t' r' : Int) : Prop := (t == t') = false ∨ (t = t' ∧ (r == r') = false)
theorem parted_of {t r t' r' : Int} (h : ¬ (t = t' ∧ r = r')) : Parted t r t' r' := by
  by_cases e : t = t'
  · refine .inr ⟨e, ?_⟩; simp; intro e2; exact h ⟨e, e2⟩
  · exact .inl (by simpa using e)
set_option maxHeartbeats 400000 in
theorem under_db_false_a (t' : Int) (r' : Int) (w : World) (h : lvl (-1) (-1) ≠ -1) (h' : lvl t' r' ≠ -1) (hp : ((-1) == t') = false) :
    Calls Tryd.prog 20 #[.agg #[.int .i64 (-1), .int .i64 (-1)], .agg #[.int .i64 t', .int .i64 r']] w fun e w' => e = .returned (.bool false) ∧ Nw w w' := by
  have H := Lib.hid h
  have H' := Lib.hid h'
  clear h h'
  go_enter Tryd.func20, Tryd.ntmps20
  go_wp2_with fail
  refine (check_ok _ _ _ H.out).mono ?_
  rintro e w' ⟨rfl, hg⟩; (first | (replace hG := Nw.trans hG hg; clear hc hf) | have hG := hg); clear hg; obtain ⟨hc, hf⟩ := hG.rules
  go_wp2_with fail
  refine (check_ok _ _ _ H'.out).mono ?_
  rintro e w' ⟨rfl, hg⟩; (first | (replace hG := Nw.trans hG hg; clear hc hf) | have hG := hg); clear hg; obtain ⟨hc, hf⟩ := hG.rules
  have hS := boxes_step hG (boxes_start' w (-1) (-1) t' r' 24)
  clear hc hf
  go_wp2
  go_region_held3 (fun w' => (w'.cell? ⟨w.heap.size, 0, none⟩ = some (.int .i64 (-1)) ∧ w'.cell? ⟨w.heap.size, 1, none⟩ = some (.int .i64 (-1)) ∧ w'.cell? ⟨w.heap.size + 1, 0, none⟩ = some (.int .i64 t') ∧ w'.cell? ⟨w.heap.size + 1, 1, none⟩ = some (.int .i64 r')) ∧ (w.heap.size + 1 < w'.heap.size ∧ Nw w w'))
    (first | assumption | exact boxes_step (Nw.refl _).drew1 hS | exact boxes_step ((Nw.refl _).alloc _) (by assumption) | exact boxes_step (Nw.refl _).drew1 (by assumption) | exact boxes_step (by assumption) (by assumption))
    (first | (go_at_call 23; refine (anc_none _ _ _ (.inl lvl_db)).mono ?_; rintro e w' ⟨rfl, hg⟩) | (go_at_call 40; refine (contains_nil _ _ _).mono ?_; rintro e w' ⟨rfl, hg⟩))
  all_goals
    rename_i hS2
    go_wp2
    go_ret
    exact ⟨rfl, hS2.2.2⟩
set_option maxHeartbeats 400000 in
theorem under_db_false_b (r' : Int) (w : World) (h : lvl (-1) (-1) ≠ -1) (h' : lvl (-1) r' ≠ -1) (hp : ((-1) == r') = false) :
    Calls Tryd.prog 20 #[.agg #[.int .i64 (-1), .int .i64 (-1)], .agg #[.int .i64 (-1), .int .i64 r']] w fun e w' => e = .returned (.bool false) ∧ Nw w w' := by
  have H := Lib.hid h
  have H' := Lib.hid h'
  clear h h'
  go_enter Tryd.func20, Tryd.ntmps20
  go_wp2_with fail
  refine (check_ok _ _ _ H.out).mono ?_
  rintro e w' ⟨rfl, hg⟩; (first | (replace hG := Nw.trans hG hg; clear hc hf) | have hG := hg); clear hg; obtain ⟨hc, hf⟩ := hG.rules
  go_wp2_with fail
  refine (check_ok _ _ _ H'.out).mono ?_
  rintro e w' ⟨rfl, hg⟩; (first | (replace hG := Nw.trans hG hg; clear hc hf) | have hG := hg); clear hg; obtain ⟨hc, hf⟩ := hG.rules
  have hS := boxes_step hG (boxes_start' w (-1) (-1) (-1) r' 24)
  clear hc hf
  go_wp2
  go_region_held3 (fun w' => (w'.cell? ⟨w.heap.size, 0, none⟩ = some (.int .i64 (-1)) ∧ w'.cell? ⟨w.heap.size, 1, none⟩ = some (.int .i64 (-1)) ∧ w'.cell? ⟨w.heap.size + 1, 0, none⟩ = some (.int .i64 (-1)) ∧ w'.cell? ⟨w.heap.size + 1, 1, none⟩ = some (.int .i64 r')) ∧ (w.heap.size + 1 < w'.heap.size ∧ Nw w w'))
    (first | assumption | exact boxes_step (Nw.refl _).drew1 hS | exact boxes_step ((Nw.refl _).alloc _) (by assumption) | exact boxes_step (Nw.refl _).drew1 (by assumption) | exact boxes_step (by assumption) (by assumption))
    (first | (go_at_call 23; refine (anc_none _ _ _ (.inl lvl_db)).mono ?_; rintro e w' ⟨rfl, hg⟩) | (go_at_call 40; refine (contains_nil _ _ _).mono ?_; rintro e w' ⟨rfl, hg⟩))
  all_goals
    rename_i hS2
    go_wp2
    go_ret
    exact ⟨rfl, hS2.2.2⟩
set_option maxHeartbeats 400000 in
theorem under_tab_true_a (t : Int) (t' : Int) (r' : Int) (w : World) (h : lvl t (-1) ≠ -1) (hk : lvl t (-1) = 1) (h' : lvl t' r' ≠ -1) (hp : (t == t') = false) (hin : (t', r') ∈ ([(-1, -1)] : List (Int × Int))) :
    Calls Tryd.prog 20 #[.agg #[.int .i64 t, .int .i64 (-1)], .agg #[.int .i64 t', .int .i64 r']] w fun e w' => e = .returned (.bool true) ∧ Nw w w' := by
  have HK := Lib.hid hk
  have HI := Lib.hid hin
  clear hk hin
  have H := Lib.hid h
  have H' := Lib.hid h'
  clear h h'
  go_enter Tryd.func20, Tryd.ntmps20
  go_wp2_with fail
  refine (check_ok _ _ _ H.out).mono ?_
  rintro e w' ⟨rfl, hg⟩; (first | (replace hG := Nw.trans hG hg; clear hc hf) | have hG := hg); clear hg; obtain ⟨hc, hf⟩ := hG.rules
  go_wp2_with fail
  refine (check_ok _ _ _ H'.out).mono ?_
  rintro e w' ⟨rfl, hg⟩; (first | (replace hG := Nw.trans hG hg; clear hc hf) | have hG := hg); clear hg; obtain ⟨hc, hf⟩ := hG.rules
  have hS := boxes_step hG (boxes_start' w t (-1) t' r' 24)
  clear hc hf
  go_wp2
  go_region_held3 (fun w' => (w'.cell? ⟨w.heap.size, 0, none⟩ = some (.int .i64 t) ∧ w'.cell? ⟨w.heap.size, 1, none⟩ = some (.int .i64 (-1)) ∧ w'.cell? ⟨w.heap.size + 1, 0, none⟩ = some (.int .i64 t') ∧ w'.cell? ⟨w.heap.size + 1, 1, none⟩ = some (.int .i64 r')) ∧ (w.heap.size + 1 < w'.heap.size ∧ Nw w w'))
    (first | assumption | exact boxes_step (Nw.refl _).drew1 hS | exact boxes_step ((Nw.refl _).alloc _) (by assumption) | exact boxes_step (Nw.refl _).drew1 (by assumption) | exact boxes_step (by assumption) (by assumption))
    (first | (go_at_call 23; refine (anc_tab _  _ HK.out).mono ?_; rintro e w' ⟨b', rfl, hn, hb, hg⟩) | (go_at_call 40; refine (contains_yes _ 0 _ [(-1, -1)] _ _ _ hn (by simp) HI.out).mono ?_; rintro e w' ⟨rfl, hg⟩))
  all_goals
    rename_i hS2
    go_wp2
    go_ret
    exact ⟨rfl, hS2.2.2⟩
set_option maxHeartbeats 400000 in
theorem under_tab_true_b (t : Int) (r' : Int) (w : World) (h : lvl t (-1) ≠ -1) (hk : lvl t (-1) = 1) (h' : lvl t r' ≠ -1) (hp : ((-1) == r') = false) (hin : (t, r') ∈ ([(-1, -1)] : List (Int × Int))) :
    Calls Tryd.prog 20 #[.agg #[.int .i64 t, .int .i64 (-1)], .agg #[.int .i64 t, .int .i64 r']] w fun e w' => e = .returned (.bool true) ∧ Nw w w' := by
  have HK := Lib.hid hk
  have HI := Lib.hid hin
  clear hk hin
  have H := Lib.hid h
  have H' := Lib.hid h'
  clear h h'
  go_enter Tryd.func20, Tryd.ntmps20
  go_wp2_with fail
  refine (check_ok _ _ _ H.out).mono ?_
  rintro e w' ⟨rfl, hg⟩; (first | (replace hG := Nw.trans hG hg; clear hc hf) | have hG := hg); clear hg; obtain ⟨hc, hf⟩ := hG.rules
  go_wp2_with fail
  refine (check_ok _ _ _ H'.out).mono ?_
  rintro e w' ⟨rfl, hg⟩; (first | (replace hG := Nw.trans hG hg; clear hc hf) | have hG := hg); clear hg; obtain ⟨hc, hf⟩ := hG.rules
  have hS := boxes_step hG (boxes_start' w t (-1) t r' 24)
  clear hc hf
  go_wp2
  go_region_held3 (fun w' => (w'.cell? ⟨w.heap.size, 0, none⟩ = some (.int .i64 t) ∧ w'.cell? ⟨w.heap.size, 1, none⟩ = some (.int .i64 (-1)) ∧ w'.cell? ⟨w.heap.size + 1, 0, none⟩ = some (.int .i64 t) ∧ w'.cell? ⟨w.heap.size + 1, 1, none⟩ = some (.int .i64 r')) ∧ (w.heap.size + 1 < w'.heap.size ∧ Nw w w'))
    (first | assumption | exact boxes_step (Nw.refl _).drew1 hS | exact boxes_step ((Nw.refl _).alloc _) (by assumption) | exact boxes_step (Nw.refl _).drew1 (by assumption) | exact boxes_step (by assumption) (by assumption))
    (first | (go_at_call 23; refine (anc_tab _  _ HK.out).mono ?_; rintro e w' ⟨b', rfl, hn, hb, hg⟩) | (go_at_call 40; refine (contains_yes _ 0 _ [(-1, -1)] _ _ _ hn (by simp) HI.out).mono ?_; rintro e w' ⟨rfl, hg⟩))
  all_goals
    rename_i hS2
    go_wp2
    go_ret
    exact ⟨rfl, hS2.2.2⟩
set_option maxHeartbeats 400000 in
theorem under_tab_false_a (t : Int) (t' : Int) (r' : Int) (w : World) (h : lvl t (-1) ≠ -1) (hk : lvl t (-1) = 1) (h' : lvl t' r' ≠ -1) (hp : (t == t') = false) (hin : ¬ (t', r') ∈ ([(-1, -1)] : List (Int × Int))) :
    Calls Tryd.prog 20 #[.agg #[.int .i64 t, .int .i64 (-1)], .agg #[.int .i64 t', .int .i64 r']] w fun e w' => e = .returned (.bool false) ∧ Nw w w' := by
  have HK := Lib.hid hk
  have HI := Lib.hid hin
  clear hk hin
  have H := Lib.hid h
  have H' := Lib.hid h'
  clear h h'
  go_enter Tryd.func20, Tryd.ntmps20
  go_wp2_with fail
  refine (check_ok _ _ _ H.out).mono ?_
  rintro e w' ⟨rfl, hg⟩; (first | (replace hG := Nw.trans hG hg; clear hc hf) | have hG := hg); clear hg; obtain ⟨hc, hf⟩ := hG.rules
  go_wp2_with fail
  refine (check_ok _ _ _ H'.out).mono ?_
  rintro e w' ⟨rfl, hg⟩; (first | (replace hG := Nw.trans hG hg; clear hc hf) | have hG := hg); clear hg; obtain ⟨hc, hf⟩ := hG.rules
  have hS := boxes_step hG (boxes_start' w t (-1) t' r' 24)
  clear hc hf
  go_wp2
  go_region_held3 (fun w' => (w'.cell? ⟨w.heap.size, 0, none⟩ = some (.int .i64 t) ∧ w'.cell? ⟨w.heap.size, 1, none⟩ = some (.int .i64 (-1)) ∧ w'.cell? ⟨w.heap.size + 1, 0, none⟩ = some (.int .i64 t') ∧ w'.cell? ⟨w.heap.size + 1, 1, none⟩ = some (.int .i64 r')) ∧ (w.heap.size + 1 < w'.heap.size ∧ Nw w w'))
    (first | assumption | exact boxes_step (Nw.refl _).drew1 hS | exact boxes_step ((Nw.refl _).alloc _) (by assumption) | exact boxes_step (Nw.refl _).drew1 (by assumption) | exact boxes_step (by assumption) (by assumption))
    (first | (go_at_call 23; refine (anc_tab _  _ HK.out).mono ?_; rintro e w' ⟨b', rfl, hn, hb, hg⟩) | (go_at_call 40; refine (contains_no _ 0 _ [(-1, -1)] _ _ _ hn (by simp) HI.out).mono ?_; rintro e w' ⟨rfl, hg⟩))
  all_goals
    rename_i hS2
    go_wp2
    go_ret
    exact ⟨rfl, hS2.2.2⟩
set_option maxHeartbeats 400000 in
theorem under_tab_false_b (t : Int) (r' : Int) (w : World) (h : lvl t (-1) ≠ -1) (hk : lvl t (-1) = 1) (h' : lvl t r' ≠ -1) (hp : ((-1) == r') = false) (hin : ¬ (t, r') ∈ ([(-1, -1)] : List (Int × Int))) :
    Calls Tryd.prog 20 #[.agg #[.int .i64 t, .int .i64 (-1)], .agg #[.int .i64 t, .int .i64 r']] w fun e w' => e = .returned (.bool false) ∧ Nw w w' := by
  have HK := Lib.hid hk
  have HI := Lib.hid hin
  clear hk hin
  have H := Lib.hid h
  have H' := Lib.hid h'
  clear h h'
  go_enter Tryd.func20, Tryd.ntmps20
  go_wp2_with fail
  refine (check_ok _ _ _ H.out).mono ?_
  rintro e w' ⟨rfl, hg⟩; (first | (replace hG := Nw.trans hG hg; clear hc hf) | have hG := hg); clear hg; obtain ⟨hc, hf⟩ := hG.rules
  go_wp2_with fail
  refine (check_ok _ _ _ H'.out).mono ?_
  rintro e w' ⟨rfl, hg⟩; (first | (replace hG := Nw.trans hG hg; clear hc hf) | have hG := hg); clear hg; obtain ⟨hc, hf⟩ := hG.rules
  have hS := boxes_step hG (boxes_start' w t (-1) t r' 24)
  clear hc hf
  go_wp2
  go_region_held3 (fun w' => (w'.cell? ⟨w.heap.size, 0, none⟩ = some (.int .i64 t) ∧ w'.cell? ⟨w.heap.size, 1, none⟩ = some (.int .i64 (-1)) ∧ w'.cell? ⟨w.heap.size + 1, 0, none⟩ = some (.int .i64 t) ∧ w'.cell? ⟨w.heap.size + 1, 1, none⟩ = some (.int .i64 r')) ∧ (w.heap.size + 1 < w'.heap.size ∧ Nw w w'))
    (first | assumption | exact boxes_step (Nw.refl _).drew1 hS | exact boxes_step ((Nw.refl _).alloc _) (by assumption) | exact boxes_step (Nw.refl _).drew1 (by assumption) | exact boxes_step (by assumption) (by assumption))
    (first | (go_at_call 23; refine (anc_tab _  _ HK.out).mono ?_; rintro e w' ⟨b', rfl, hn, hb, hg⟩) | (go_at_call 40; refine (contains_no _ 0 _ [(-1, -1)] _ _ _ hn (by simp) HI.out).mono ?_; rintro e w' ⟨rfl, hg⟩))
  all_goals
    rename_i hS2
    go_wp2
    go_ret
    exact ⟨rfl, hS2.2.2⟩
set_option maxHeartbeats 400000 in
theorem under_rec_true_a (t r : Int) (t' : Int) (r' : Int) (w : World) (h : lvl t r ≠ -1) (hk : lvl t r = 2) (h' : lvl t' r' ≠ -1) (hp : (t == t') = false) (hin : (t', r') ∈ ([(-1, -1), (t, -1)] : List (Int × Int))) :
    Calls Tryd.prog 20 #[.agg #[.int .i64 t, .int .i64 r], .agg #[.int .i64 t', .int .i64 r']] w fun e w' => e = .returned (.bool true) ∧ Nw w w' := by
  have HK := Lib.hid hk
  have HI := Lib.hid hin
  clear hk hin
  have H := Lib.hid h
  have H' := Lib.hid h'
  clear h h'
  go_enter Tryd.func20, Tryd.ntmps20
  go_wp2_with fail
  refine (check_ok _ _ _ H.out).mono ?_
  rintro e w' ⟨rfl, hg⟩; (first | (replace hG := Nw.trans hG hg; clear hc hf) | have hG := hg); clear hg; obtain ⟨hc, hf⟩ := hG.rules
  go_wp2_with fail
  refine (check_ok _ _ _ H'.out).mono ?_
  rintro e w' ⟨rfl, hg⟩; (first | (replace hG := Nw.trans hG hg; clear hc hf) | have hG := hg); clear hg; obtain ⟨hc, hf⟩ := hG.rules
  have hS := boxes_step hG (boxes_start' w t r t' r' 24)
  clear hc hf
  go_wp2
  go_region_held3 (fun w' => (w'.cell? ⟨w.heap.size, 0, none⟩ = some (.int .i64 t) ∧ w'.cell? ⟨w.heap.size, 1, none⟩ = some (.int .i64 r) ∧ w'.cell? ⟨w.heap.size + 1, 0, none⟩ = some (.int .i64 t') ∧ w'.cell? ⟨w.heap.size + 1, 1, none⟩ = some (.int .i64 r')) ∧ (w.heap.size + 1 < w'.heap.size ∧ Nw w w'))
    (first | assumption | exact boxes_step (Nw.refl _).drew1 hS | exact boxes_step ((Nw.refl _).alloc _) (by assumption) | exact boxes_step (Nw.refl _).drew1 (by assumption) | exact boxes_step (by assumption) (by assumption))
    (first | (go_at_call 23; refine (anc_rec _ _  _ HK.out).mono ?_; rintro e w' ⟨b', rfl, hn, hb, hg⟩) | (go_at_call 40; refine (contains_yes _ 0 _ [(-1, -1), (t, -1)] _ _ _ hn (by simp) HI.out).mono ?_; rintro e w' ⟨rfl, hg⟩))
  all_goals
    rename_i hS2
    go_wp2
    go_ret
    exact ⟨rfl, hS2.2.2⟩
set_option maxHeartbeats 400000 in
theorem under_rec_true_b (t r : Int) (r' : Int) (w : World) (h : lvl t r ≠ -1) (hk : lvl t r = 2) (h' : lvl t r' ≠ -1) (hp : (r == r') = false) (hin : (t, r') ∈ ([(-1, -1), (t, -1)] : List (Int × Int))) :
    Calls Tryd.prog 20 #[.agg #[.int .i64 t, .int .i64 r], .agg #[.int .i64 t, .int .i64 r']] w fun e w' => e = .returned (.bool true) ∧ Nw w w' := by
  have HK := Lib.hid hk
  have HI := Lib.hid hin
  clear hk hin
  have H := Lib.hid h
  have H' := Lib.hid h'
  clear h h'
  go_enter Tryd.func20, Tryd.ntmps20
  go_wp2_with fail
  refine (check_ok _ _ _ H.out).mono ?_
  rintro e w' ⟨rfl, hg⟩; (first | (replace hG := Nw.trans hG hg; clear hc hf) | have hG := hg); clear hg; obtain ⟨hc, hf⟩ := hG.rules
  go_wp2_with fail
  refine (check_ok _ _ _ H'.out).mono ?_
  rintro e w' ⟨rfl, hg⟩; (first | (replace hG := Nw.trans hG hg; clear hc hf) | have hG := hg); clear hg; obtain ⟨hc, hf⟩ := hG.rules
  have hS := boxes_step hG (boxes_start' w t r t r' 24)
  clear hc hf
  go_wp2
  go_region_held3 (fun w' => (w'.cell? ⟨w.heap.size, 0, none⟩ = some (.int .i64 t) ∧ w'.cell? ⟨w.heap.size, 1, none⟩ = some (.int .i64 r) ∧ w'.cell? ⟨w.heap.size + 1, 0, none⟩ = some (.int .i64 t) ∧ w'.cell? ⟨w.heap.size + 1, 1, none⟩ = some (.int .i64 r')) ∧ (w.heap.size + 1 < w'.heap.size ∧ Nw w w'))
    (first | assumption | exact boxes_step (Nw.refl _).drew1 hS | exact boxes_step ((Nw.refl _).alloc _) (by assumption) | exact boxes_step (Nw.refl _).drew1 (by assumption) | exact boxes_step (by assumption) (by assumption))
    (first | (go_at_call 23; refine (anc_rec _ _  _ HK.out).mono ?_; rintro e w' ⟨b', rfl, hn, hb, hg⟩) | (go_at_call 40; refine (contains_yes _ 0 _ [(-1, -1), (t, -1)] _ _ _ hn (by simp) HI.out).mono ?_; rintro e w' ⟨rfl, hg⟩))
  all_goals
    rename_i hS2
    go_wp2
    go_ret
    exact ⟨rfl, hS2.2.2⟩
set_option maxHeartbeats 400000 in
theorem under_rec_false_a (t r : Int) (t' : Int) (r' : Int) (w : World) (h : lvl t r ≠ -1) (hk : lvl t r = 2) (h' : lvl t' r' ≠ -1) (hp : (t == t') = false) (hin : ¬ (t', r') ∈ ([(-1, -1), (t, -1)] : List (Int × Int))) :
    Calls Tryd.prog 20 #[.agg #[.int .i64 t, .int .i64 r], .agg #[.int .i64 t', .int .i64 r']] w fun e w' => e = .returned (.bool false) ∧ Nw w w' := by
  have HK := Lib.hid hk
  have HI := Lib.hid hin
  clear hk hin
  have H := Lib.hid h
  have H' := Lib.hid h'
  clear h h'
  go_enter Tryd.func20, Tryd.ntmps20
  go_wp2_with fail
  refine (check_ok _ _ _ H.out).mono ?_
  rintro e w' ⟨rfl, hg⟩; (first | (replace hG := Nw.trans hG hg; clear hc hf) | have hG := hg); clear hg; obtain ⟨hc, hf⟩ := hG.rules
  go_wp2_with fail
  refine (check_ok _ _ _ H'.out).mono ?_
  rintro e w' ⟨rfl, hg⟩; (first | (replace hG := Nw.trans hG hg; clear hc hf) | have hG := hg); clear hg; obtain ⟨hc, hf⟩ := hG.rules
  have hS := boxes_step hG (boxes_start' w t r t' r' 24)
  clear hc hf
  go_wp2
  go_region_held3 (fun w' => (w'.cell? ⟨w.heap.size, 0, none⟩ = some (.int .i64 t) ∧ w'.cell? ⟨w.heap.size, 1, none⟩ = some (.int .i64 r) ∧ w'.cell? ⟨w.heap.size + 1, 0, none⟩ = some (.int .i64 t') ∧ w'.cell? ⟨w.heap.size + 1, 1, none⟩ = some (.int .i64 r')) ∧ (w.heap.size + 1 < w'.heap.size ∧ Nw w w'))
    (first | assumption | exact boxes_step (Nw.refl _).drew1 hS | exact boxes_step ((Nw.refl _).alloc _) (by assumption) | exact boxes_step (Nw.refl _).drew1 (by assumption) | exact boxes_step (by assumption) (by assumption))
    (first | (go_at_call 23; refine (anc_rec _ _  _ HK.out).mono ?_; rintro e w' ⟨b', rfl, hn, hb, hg⟩) | (go_at_call 40; refine (contains_no _ 0 _ [(-1, -1), (t, -1)] _ _ _ hn (by simp) HI.out).mono ?_; rintro e w' ⟨rfl, hg⟩))
  all_goals
    rename_i hS2
    go_wp2
    go_ret
    exact ⟨rfl, hS2.2.2⟩
set_option maxHeartbeats 400000 in
theorem under_rec_false_b (t r : Int) (r' : Int) (w : World) (h : lvl t r ≠ -1) (hk : lvl t r = 2) (h' : lvl t r' ≠ -1) (hp : (r == r') = false) (hin : ¬ (t, r') ∈ ([(-1, -1), (t, -1)] : List (Int × Int))) :
    Calls Tryd.prog 20 #[.agg #[.int .i64 t, .int .i64 r], .agg #[.int .i64 t, .int .i64 r']] w fun e w' => e = .returned (.bool false) ∧ Nw w w' := by
  have HK := Lib.hid hk
  have HI := Lib.hid hin
  clear hk hin
  have H := Lib.hid h
  have H' := Lib.hid h'
  clear h h'
  go_enter Tryd.func20, Tryd.ntmps20
  go_wp2_with fail
  refine (check_ok _ _ _ H.out).mono ?_
  rintro e w' ⟨rfl, hg⟩; (first | (replace hG := Nw.trans hG hg; clear hc hf) | have hG := hg); clear hg; obtain ⟨hc, hf⟩ := hG.rules
  go_wp2_with fail
  refine (check_ok _ _ _ H'.out).mono ?_
  rintro e w' ⟨rfl, hg⟩; (first | (replace hG := Nw.trans hG hg; clear hc hf) | have hG := hg); clear hg; obtain ⟨hc, hf⟩ := hG.rules
  have hS := boxes_step hG (boxes_start' w t r t r' 24)
  clear hc hf
  go_wp2
  go_region_held3 (fun w' => (w'.cell? ⟨w.heap.size, 0, none⟩ = some (.int .i64 t) ∧ w'.cell? ⟨w.heap.size, 1, none⟩ = some (.int .i64 r) ∧ w'.cell? ⟨w.heap.size + 1, 0, none⟩ = some (.int .i64 t) ∧ w'.cell? ⟨w.heap.size + 1, 1, none⟩ = some (.int .i64 r')) ∧ (w.heap.size + 1 < w'.heap.size ∧ Nw w w'))
    (first | assumption | exact boxes_step (Nw.refl _).drew1 hS | exact boxes_step ((Nw.refl _).alloc _) (by assumption) | exact boxes_step (Nw.refl _).drew1 (by assumption) | exact boxes_step (by assumption) (by assumption))
    (first | (go_at_call 23; refine (anc_rec _ _  _ HK.out).mono ?_; rintro e w' ⟨b', rfl, hn, hb, hg⟩) | (go_at_call 40; refine (contains_no _ 0 _ [(-1, -1), (t, -1)] _ _ _ hn (by simp) HI.out).mono ?_; rintro e w' ⟨rfl, hg⟩))
  all_goals
    rename_i hS2
    go_wp2
    go_ret
    exact ⟨rfl, hS2.2.2⟩

theorem under_any (t r t' r' : Int) (w : World) :
    Calls Tryd.prog 20 #[.agg #[.int .i64 t, .int .i64 r], .agg #[.int .i64 t', .int .i64 r']] w fun e w' => e = .returned (.bool (und t r t' r')) ∧ Nw w w' := by
  by_cases h : lvl t r = -1
  · have e : und t r t' r' = false := decide_eq_false (fun h2 => h2.1 h)
    rw [e]; exact under_bad1 t r t' r' w h
  by_cases h' : lvl t' r' = -1
  · have e : und t r t' r' = false := decide_eq_false (fun h2 => h2.2.1 h')
    rw [e]; exact under_bad2 t r t' r' w h h'
  by_cases hs : t = t' ∧ r = r'
  · obtain ⟨rfl, rfl⟩ := hs
    have e : und t r t r = true := decide_eq_true ⟨h, h, .inr ⟨rfl, .inr rfl⟩⟩
    rw [e]; exact under_same t r w h h
  have hp := parted_of hs
  rcases kinds t r with ⟨rfl, rfl⟩ | ⟨h0, h1, rfl⟩ | ⟨h0, h1, h2, h3⟩ | h0
  · have e : und (-1) (-1) t' r' = false := decide_eq_false (fun ⟨_, _, h4⟩ => by
      rcases h4 with ⟨e1, e2⟩ | ⟨e1, e2 | e2⟩ <;> exact hs ⟨e1.symm, e2.symm⟩)
    rw [e]
    rcases hp with hp | ⟨rfl, hp⟩
    · exact under_db_false_a t' r' w h h' hp
    · exact under_db_false_b r' w h h' hp
  · by_cases hin : (t', r') ∈ ([(-1, -1)] : List (Int × Int))
    · have e : und t (-1) t' r' = true := decide_eq_true ⟨h, h', .inl (by simpa using hin)⟩
      rw [e]
      rcases hp with hp | ⟨rfl, hp⟩
      · exact under_tab_true_a t t' r' w h (lvl_tab t h0 h1) h' hp hin
      · exact under_tab_true_b t r' w h (lvl_tab t h0 h1) h' hp hin
    · have e : und t (-1) t' r' = false := decide_eq_false (fun ⟨_, _, h4⟩ => by
        rcases h4 with ⟨e1, e2⟩ | ⟨e1, e2 | e2⟩
        · exact hin (by rw [e1, e2]; simp)
        · exact hs ⟨e1.symm, e2.symm⟩
        · exact hs ⟨e1.symm, e2.symm⟩)
      rw [e]
      rcases hp with hp | ⟨rfl, hp⟩
      · exact under_tab_false_a t t' r' w h (lvl_tab t h0 h1) h' hp hin
      · exact under_tab_false_b t r' w h (lvl_tab t h0 h1) h' hp hin
  · by_cases hin : (t', r') ∈ ([(-1, -1), (t, -1)] : List (Int × Int))
    · have e : und t r t' r' = true := decide_eq_true ⟨h, h', by
        simp at hin
        rcases hin with h4 | h4
        · exact .inl h4
        · exact .inr ⟨h4.1, .inl h4.2⟩⟩
      rw [e]
      rcases hp with hp | ⟨rfl, hp⟩
      · exact under_rec_true_a t r t' r' w h (lvl_rec t r h0 h1 h2 h3) h' hp hin
      · exact under_rec_true_b t r r' w h (lvl_rec t r h0 h1 h2 h3) h' hp hin
    · have e : und t r t' r' = false := decide_eq_false (fun ⟨_, _, h4⟩ => by
        rcases h4 with ⟨e1, e2⟩ | ⟨e1, e2 | e2⟩
        · exact hin (by rw [e1, e2]; simp)
        · exact hin (by rw [e1, e2]; simp)
        · exact hs ⟨e1.symm, e2.symm⟩)
      rw [e]
      rcases hp with hp | ⟨rfl, hp⟩
      · exact under_rec_false_a t r t' r' w h (lvl_rec t r h0 h1 h2 h3) h' hp hin
      · exact under_rec_false_b t r r' w h (lvl_rec t r h0 h1 h2 h3) h' hp hin
  · exact absurd h0 h
theorem under_val (t r t' r' : Int) (b : Bool) (w : World) (h : und t r t' r' = b) :
    Calls Tryd.prog 20 #[.agg #[.int .i64 t, .int .i64 r], .agg #[.int .i64 t', .int .i64 r']] w fun e w' => e = .returned (.bool b) ∧ Nw w w' := by
  subst h; exact under_any t r t' r' w
end Go.Proofs.YtdcjhjmbfpkigaaDoor
