
/- Swap on a row of timers. -/
import Derived.Test.YtolpccchhjcddaaTkB
namespace Go.Proofs.Ytolpccchhjcddaa
open Go.RowKit

theorem six (w : World) (g a b c d e f : Nat) (va vb vc vd ve vf : Value) :
    Tch (fun k => k = g) w ((((((w.setCell ⟨g, a, none⟩ va).setCell ⟨g, b, none⟩ vb).setCell ⟨g, c, none⟩ vc).setCell ⟨g, d, none⟩ vd).setCell ⟨g, e, none⟩ ve).setCell ⟨g, f, none⟩ vf).drew :=
  Tch.drew (Tch.set (p := ⟨g, f, none⟩) (Tch.set (p := ⟨g, e, none⟩) (Tch.set (p := ⟨g, d, none⟩) (Tch.set (p := ⟨g, c, none⟩) (Tch.set (p := ⟨g, b, none⟩) (Tch.set (p := ⟨g, a, none⟩) (Tch.refl (fun k => k = g) w) (.inl rfl) va) (.inl rfl) vb) (.inl rfl) vc) (.inl rfl) vd) (.inl rfl) ve) (.inl rfl) vf)
theorem apart3 (i j : Nat) (h : i ≠ j) : ¬ i = j ∧ ¬ j = i ∧ (¬ i * 3 = j * 3 + 1 ∧ ¬ i * 3 = j * 3 + 2) ∧ (¬ i * 3 + 1 = j * 3 ∧ ¬ i * 3 + 1 = j * 3 + 1 ∧ ¬ i * 3 + 1 = j * 3 + 2) ∧ (¬ i * 3 + 2 = j * 3 ∧ ¬ i * 3 + 2 = j * 3 + 1 ∧ ¬ i * 3 + 2 = j * 3 + 2) := by omega
set_option maxHeartbeats 1000000 in
theorem swap_ne (g cap : Nat) (l : List Tm) (i j : Nat) (hi : i < l.length) (hj : j < l.length) (hne : i ≠ j) (w : World) (h : TRow w g cap l) :
    Calls Try.prog 62 #[.slice (some ⟨g, 0, none⟩) l.length cap, .int .i64 i, .int .i64 j] w fun e w' => e = .returned (.tuple #[]) ∧ TRow w' g cap (swp l i j) ∧ Tch (fun k => k = g) w w' := by
  have hm := Nat.le_trans h.cap_le.1 h.cap_le.2
  unfold maxLen at hm
  obtain ⟨a0, a1, a2⟩ := h.cells i hi
  obtain ⟨b0, b1, b2⟩ := h.cells j hj
  obtain ⟨n1, n2, ⟨n3, n4⟩, ⟨n5, n6, n7⟩, n8, n9, n10⟩ := apart3 i j hne
  obtain ⟨_, _, ⟨m3, m4⟩, ⟨m5, m6, m7⟩, m8, m9, m10⟩ := apart3 j i hne.symm
  have hg := h.lt
  have fz := h.frozen
  have HH := Lib.hid h
  have hR : (((w.setCell ⟨g, i * 3, none⟩ (.int .i64 (at' l j).1)).setCell ⟨g, i * 3 + 1, none⟩ (.int .i64 (at' l j).2.1)).setCell ⟨g, i * 3 + 2, none⟩ (.int .i64 (at' l j).2.2)).heap.size = w.heap.size := by simp
  have HR : Hid (TRow ((((((w.setCell ⟨g, i * 3, none⟩ (.int .i64 (at' l j).1)).setCell ⟨g, i * 3 + 1, none⟩ (.int .i64 (at' l j).2.1)).setCell ⟨g, i * 3 + 2, none⟩ (.int .i64 (at' l j).2.2)).setCell
      ⟨g, j * 3, none⟩ (.int .i64 (at' l i).1)).setCell ⟨g, j * 3 + 1, none⟩ (.int .i64 (at' l i).2.1)).setCell ⟨g, j * 3 + 2, none⟩ (.int .i64 (at' l i).2.2)) g cap (swp l i j)) :=
    (h.set i hi (at' l j)).set j (by simpa using hj) (at' l i)
  generalize hN : l.length = N at *
  generalize at' l i = A at *
  generalize at' l j = B at *
  clear h hN hR
  obtain ⟨A0, A1, A2⟩ := A
  obtain ⟨B0, B1, B2⟩ := B
  simp only at a0 a1 a2 b0 b1 b2 HR
  go_enter Try.func62, Try.ntmps62
  go_wp2
  go_region
  go_wp2
  go_end0
  exact ⟨rfl, HR.out.drew, six _ _ _ _ _ _ _ _ _ _ _ _ _ _⟩
set_option maxHeartbeats 1000000 in
theorem swap_eq (g cap : Nat) (l : List Tm) (i : Nat) (hi : i < l.length) (w : World) (h : TRow w g cap l) :
    Calls Try.prog 62 #[.slice (some ⟨g, 0, none⟩) l.length cap, .int .i64 i, .int .i64 i] w fun e w' => e = .returned (.tuple #[]) ∧ TRow w' g cap (swp l i i) ∧ Tch (fun k => k = g) w w' := by
  have hm := Nat.le_trans h.cap_le.1 h.cap_le.2
  unfold maxLen at hm
  obtain ⟨a0, a1, a2⟩ := h.cells i hi
  have hg := h.lt
  have fz := h.frozen
  have HH := Lib.hid h
  have hR : (((w.setCell ⟨g, i * 3, none⟩ (.int .i64 (at' l i).1)).setCell ⟨g, i * 3 + 1, none⟩ (.int .i64 (at' l i).2.1)).setCell ⟨g, i * 3 + 2, none⟩ (.int .i64 (at' l i).2.2)).heap.size = w.heap.size := by simp
  have HR : Hid (TRow ((((((w.setCell ⟨g, i * 3, none⟩ (.int .i64 (at' l i).1)).setCell ⟨g, i * 3 + 1, none⟩ (.int .i64 (at' l i).2.1)).setCell ⟨g, i * 3 + 2, none⟩ (.int .i64 (at' l i).2.2)).setCell
      ⟨g, i * 3, none⟩ (.int .i64 (at' l i).1)).setCell ⟨g, i * 3 + 1, none⟩ (.int .i64 (at' l i).2.1)).setCell ⟨g, i * 3 + 2, none⟩ (.int .i64 (at' l i).2.2)) g cap (swp l i i)) :=
    (h.set i hi (at' l i)).set i (by simpa using hi) (at' l i)
  generalize hN : l.length = N at *
  generalize at' l i = A at *
  clear h hN hR
  obtain ⟨A0, A1, A2⟩ := A
  simp only at a0 a1 a2 HR
  go_enter Try.func62, Try.ntmps62
  go_wp2
  go_region
  go_wp2
  go_end0
  exact ⟨rfl, HR.out.drew, six _ _ _ _ _ _ _ _ _ _ _ _ _ _⟩

theorem swap_any (g cap : Nat) (l : List Tm) (i j : Nat) (hi : i < l.length) (hj : j < l.length) (w : World) (h : TRow w g cap l) :
    Calls Try.prog 62 #[.slice (some ⟨g, 0, none⟩) l.length cap, .int .i64 i, .int .i64 j] w fun e w' => e = .returned (.tuple #[]) ∧ TRow w' g cap (swp l i j) ∧ Tch (fun k => k = g) w w' := by
  by_cases e : i = j
  · subst e; exact swap_eq g cap l i hi w h
  · exact swap_ne g cap l i j hi hj e w h
end Go.Proofs.Ytolpccchhjcddaa
