
/- Less and Swap on a row of timers. -/
import Derived.Test.YtolpccchhjcddaaTkA
import Derived.Test.YtolpccchhjcddaaRegion
import Derived.Deep.RegionHeld3
import Derived.Deep.QuietTactic
import Derived.BigQuiet
import Derived.StillTailTactics
namespace Go.Proofs.Ytolpccchhjcddaa
open Go.RowKit

theorem two_boxes (w : World) (x0 x1 x2 y0 y1 y2 : Int) (t : TypeId) (W : World) (hW : ((w.alloc (.cells #[.int .i64 x0, .int .i64 x1, .int .i64 x2] t)).alloc (.cells #[.int .i64 y0, .int .i64 y1, .int .i64 y2] t)).drew = W) :
    (W.cell? ⟨w.heap.size, 0, none⟩ = some (.int .i64 x0) ∧ W.cell? ⟨w.heap.size, 1, none⟩ = some (.int .i64 x1) ∧ W.cell? ⟨w.heap.size, 2, none⟩ = some (.int .i64 x2)) ∧
    (W.cell? ⟨w.heap.size + 1, 0, none⟩ = some (.int .i64 y0) ∧ W.cell? ⟨w.heap.size + 1, 1, none⟩ = some (.int .i64 y1) ∧ W.cell? ⟨w.heap.size + 1, 2, none⟩ = some (.int .i64 y2)) ∧ Nw w W := by
  subst hW
  refine ⟨⟨?_, ?_, ?_⟩, ⟨?_, ?_, ?_⟩, (((Nw.refl w).alloc _).alloc _).drewN 1⟩ <;> simp [go_sem]
set_option maxHeartbeats 1000000 in
theorem less_any (g cap : Nat) (l : List Tm) (i j : Nat) (hi : i < l.length) (hj : j < l.length) (w : World) (h : TRow w g cap l) :
    Calls Try.prog 61 #[.slice (some ⟨g, 0, none⟩) l.length cap, .int .i64 i, .int .i64 j] w fun e w' => e = .returned (.bool (tlt (at' l i) (at' l j))) ∧ Nw w w' := by
  have hm := Nat.le_trans h.cap_le.1 h.cap_le.2
  unfold maxLen at hm
  obtain ⟨a0, a1, a2⟩ := h.cells i hi
  obtain ⟨b0, b1, b2⟩ := h.cells j hj
  have hg := h.lt
  generalize l.length = N at *
  have HT := Lib.hid (cmp_lt (at' l i) (at' l j))
  generalize hA : at' l i = A at *
  generalize hB : at' l j = B at *
  clear hA hB h
  obtain ⟨A0, A1, A2⟩ := A
  obtain ⟨B0, B1, B2⟩ := B
  simp only at a0 a1 a2 b0 b1 b2
  go_enter Try.func61, Try.ntmps61
  go_wp2
  go_region
  go_wp2
  all_goals
    have k0 := fun w => (cmp64 A0 B0 w).mono (R' := fun e w'' => e = .returned (.int .i64 (cmpI A0 B0)) ∧ w'' = w) fun _ _ ⟨a, b⟩ => ⟨a, b.symm⟩
    have k1 := fun w => (cmpi A1 B1 w).mono (R' := fun e w'' => e = .returned (.int .i64 (cmpI A1 B1)) ∧ w'' = w) fun _ _ ⟨a, b⟩ => ⟨a, b.symm⟩
    have k2 := fun w => (cmpi A2 B2 w).mono (R' := fun e w'' => e = .returned (.int .i64 (cmpI A2 B2)) ∧ w'' = w) fun _ _ ⟨a, b⟩ => ⟨a, b.symm⟩
    first
      | (obtain ⟨W2, hW⟩ : ∃ W2, ((w.alloc (.cells #[.int .i64 B0, .int .i64 B1, .int .i64 B2] 28)).alloc (.cells #[.int .i64 A0, .int .i64 A1, .int .i64 A2] 28)).drew = W2 := ⟨_, rfl⟩
         rw [hW]
         obtain ⟨⟨c0, c1, c2⟩, ⟨d0, d1, d2⟩, hG⟩ := two_boxes w _ _ _ _ _ _ _ _ hW
         clear hW)
      | (obtain ⟨W2, hW⟩ : ∃ W2, ((w.alloc (.cells #[.int .i64 A0, .int .i64 A1, .int .i64 A2] 28)).alloc (.cells #[.int .i64 B0, .int .i64 B1, .int .i64 B2] 28)).drew = W2 := ⟨_, rfl⟩
         rw [hW]
         obtain ⟨⟨c0, c1, c2⟩, ⟨d0, d1, d2⟩, hG⟩ := two_boxes w _ _ _ _ _ _ _ _ hW
         clear hW)
    clear a0 a1 a2 b0 b1 b2
    refine wp_region_still_tail 15 (by kernel_rfl) (by kernel_rfl) ?_
    simp only [List.take_succ_cons, List.take_zero, List.drop_succ_cons, List.drop_zero]
    iterate 4 still_step
    still_call (k0 _)
    iterate 4 still_step
    still_call (k1 _)
    iterate 4 still_step
    still_call (k2 _)
    try refine wpStill_nil ?_
    change wpList _ _ _ _ _ W2.drew
    have hG2 := hG.drewN 1
    change Nw w W2.drew at hG2
    clear c0 c1 c2 d0 d1 d2 k0 k1 k2 hG
    generalize W2.drew = W3 at *
    go_wp2_with (go_at_call 63; refine (or_any _ (cmpI A0 B0) (cmpI A1 B1) (cmpI A2 B2) _ (by simp [go_sem]) (by simp [go_sem]) (by simp [go_sem])).mono ?_; rintro e w' ⟨rfl, rfl⟩)
    go_ret
    exact ⟨congrArg (fun b => Ending.returned (.bool b)) HT.out, hG2.alloc _⟩
end Go.Proofs.Ytolpccchhjcddaa
