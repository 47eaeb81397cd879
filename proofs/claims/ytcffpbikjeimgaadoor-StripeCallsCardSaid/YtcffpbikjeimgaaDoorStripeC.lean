
/- Contracts of stage 3, third part: the document's Same. -/
import Derived.Test.YtcffpbikjeimgaaDoorStripeB
import Derived.Test.YtcffpbikjeimgaaDoorNameD
namespace Go.Proofs.YtcffpbikjeimgaaDoor
open Go.ChangeShapes Go.WideShapes Go.ChangeAt Go.RowKit

/-- Two boxes that last. -/
def Bx2 (w : World) (t r t' r' : Int) (x : World) : Prop := (x.cell? ⟨w.heap.size, 0, none⟩ = some (.int .i64 t) ∧ x.cell? ⟨w.heap.size, 1, none⟩ = some (.int .i64 r) ∧ x.cell? ⟨w.heap.size + 1, 0, none⟩ = some (.int .i64 t') ∧ x.cell? ⟨w.heap.size + 1, 1, none⟩ = some (.int .i64 r')) ∧ (w.heap.size + 1 < x.heap.size ∧ Nw w x)
theorem Bx2.step {w a b : World} {t r t' r' : Int} (h : Bx2 w t r t' r' a) (g : Nw a b) : Bx2 w t r t' r' b := boxes_step g h
set_option maxHeartbeats 1000000 in
theorem refSame_none (t r t' r' n : Int) (w : World) (h : ofS t r n = -1) :
    Calls Tryd.prog 18 #[.agg #[.int .i64 t, .int .i64 r], .agg #[.int .i64 t', .int .i64 r'], .int .i64 n] w fun e w' => e = .returned (.bool false) ∧ Nw w w' := by
  have H := Lib.hid (refOf_any t r n)
  have H' := Lib.hid (refOf_any t' r' n)
  rw [h] at H
  clear h
  have hS : Bx2 w t r t' r' _ := boxes_start' w t r t' r' 24
  have c0 : ∀ d : Wd (Bx2 w t r t' r'), d.w.cell? ⟨w.heap.size, 0, none⟩ = some (.int .i64 t) := fun d => d.h.1.1
  have c1 : ∀ d : Wd (Bx2 w t r t' r'), d.w.cell? ⟨w.heap.size, 1, none⟩ = some (.int .i64 r) := fun d => d.h.1.2.1
  have c2 : ∀ d : Wd (Bx2 w t r t' r'), d.w.cell? ⟨w.heap.size + 1, 0, none⟩ = some (.int .i64 t') := fun d => d.h.1.2.2.1
  have c3 : ∀ d : Wd (Bx2 w t r t' r'), d.w.cell? ⟨w.heap.size + 1, 1, none⟩ = some (.int .i64 r') := fun d => d.h.1.2.2.2
  have hne : Nonempty (Wd (Bx2 w t r t' r')) := ⟨⟨_, hS⟩⟩
  have hQ : ∀ a b, Bx2 w t r t' r' a → Nw a b → Bx2 w t r t' r' b := fun a b h g => h.step g
  have HQ := Lib.hid hQ
  have HE := Lib.hid (fun d : Wd (Bx2 w t r t' r') => d.h.2.2)
  clear hQ
  go_enter Tryd.func18, Tryd.ntmps18
  go_wp2
  refine region_in (Bx2 w t r t' r') (by kernel_rfl) (by kernel_rfl) (HQ.out _ _ hS (Nw.refl _).drew1) ?_
  generalize Bx2 w t r t' r' = S at *
  repeat (first | go_big_quiet_step ((first | exact quietN HQ.out (H.out _) | exact quietN HQ.out (H'.out _))) | quiet_step ((first | exact quietN HQ.out (H.out _) | exact quietN HQ.out (H'.out _))))
  refine wpQuiet_nil ?_
  intro d
  have h5 := HE.out d
  clear c0 c1 c2 c3 hne hS HE
  revert h5
  generalize d.w = w5
  intro h5
  go_wp2
  go_ret
  exact ⟨rfl, h5⟩
set_option maxHeartbeats 1000000 in
theorem refSame_some (t r t' r' n : Int) (A B : Int) (w : World) (ha : ofS t r n = A) (hb : ofS t' r' n = B) (h : 0 ≤ A) :
    Calls Tryd.prog 18 #[.agg #[.int .i64 t, .int .i64 r], .agg #[.int .i64 t', .int .i64 r'], .int .i64 n] w fun e w' => e = .returned (.bool (A == B)) ∧ Nw w w' := by
  have H := Lib.hid (refOf_any t r n)
  have H' := Lib.hid (refOf_any t' r' n)
  rw [ha] at H
  rw [hb] at H'
  clear ha hb
  have hS := boxes_start' w t r t' r' 24
  go_enter Tryd.func18, Tryd.ntmps18
  go_wp2
  go_region_held3 (fun w' => (w'.cell? ⟨w.heap.size, 0, none⟩ = some (.int .i64 t) ∧ w'.cell? ⟨w.heap.size, 1, none⟩ = some (.int .i64 r) ∧ w'.cell? ⟨w.heap.size + 1, 0, none⟩ = some (.int .i64 t') ∧ w'.cell? ⟨w.heap.size + 1, 1, none⟩ = some (.int .i64 r')) ∧ (w.heap.size + 1 < w'.heap.size ∧ Nw w w'))
    (first | assumption | exact boxes_step (Nw.refl _).drew1 hS | exact boxes_step ((Nw.refl _).alloc _) (by assumption) | exact boxes_step (Nw.refl _).drew1 (by assumption) | exact boxes_step (by assumption) (by assumption))
    (first | (go_at_call 17; (with_reducible refine (H.out _).mono ?_); rintro e w' ⟨rfl, hg⟩) | (go_at_call 17; (with_reducible refine (H'.out _).mono ?_); rintro e w' ⟨rfl, hg⟩))
  all_goals
    rename_i hS2
    go_wp2
    go_ret
    exact ⟨rfl, hS2.2.2⟩
theorem refSame_any (t r t' r' n : Int) (w : World) :
    Calls Tryd.prog 18 #[.agg #[.int .i64 t, .int .i64 r], .agg #[.int .i64 t', .int .i64 r'], .int .i64 n] w fun e w' => e = .returned (.bool (smS t r t' r' n)) ∧ Nw w w' := by
  rcases ofS_range t r n with h | ⟨h, _⟩
  · rw [show smS t r t' r' n = false from decide_eq_false (fun e => e.1 h)]; exact refSame_none t r t' r' n w h
  · rw [show smS t r t' r' n = (ofS t r n == ofS t' r' n) by unfold smS; rw [Bool.eq_iff_iff, decide_eq_true_eq, beq_iff_eq]; exact ⟨fun e => e.2, fun e => ⟨by omega, e⟩⟩]; exact refSame_some t r t' r' n _ _ w rfl rfl h
end Go.Proofs.YtcffpbikjeimgaaDoor
