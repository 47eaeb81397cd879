/- The walk of NameUnder. -/
import Derived.Test.YtdcjhjmbfpkigaaDoorNameE
import Derived.Test.YtdcjhjmbfpkigaaDoorWrap
import Derived.Test.YtdcjhjmbfpkigaaDoorRegion
namespace Go.Proofs.YtdcjhjmbfpkigaaDoor.nameUnder
open Go.ChangeShapes Go.WideShapes Go.ChangeAt Go.RowKit
set_option linter.unusedVariables false      -- a walk need not use every fact

/-- Three boxes of names, in the first three new blocks. -/
def Box3 (w : World) (a0 b0 a1 b1 a2 b2 : Int) (w' : World) : Prop :=
  (w'.cell? ⟨w.heap.size, 0, none⟩ = some (.int .i64 a0) ∧ w'.cell? ⟨w.heap.size, 1, none⟩ = some (.int .i64 b0)) ∧ (w'.cell? ⟨w.heap.size + 1, 0, none⟩ = some (.int .i64 a1) ∧ w'.cell? ⟨w.heap.size + 1, 1, none⟩ = some (.int .i64 b1)) ∧
  (w'.cell? ⟨w.heap.size + 1 + 1, 0, none⟩ = some (.int .i64 a2) ∧ w'.cell? ⟨w.heap.size + 1 + 1, 1, none⟩ = some (.int .i64 b2)) ∧ Nw w w'
theorem Box3.step {w : World} {a0 b0 a1 b1 a2 b2 : Int} (x y : World) (h : Box3 w a0 b0 a1 b1 a2 b2 x) (g : Nw x y) : Box3 w a0 b0 a1 b1 a2 b2 y :=
  ⟨⟨g.keep h.1.1, g.keep h.1.2⟩, ⟨g.keep h.2.1.1, g.keep h.2.1.2⟩, ⟨g.keep h.2.2.1.1, g.keep h.2.2.1.2⟩, h.2.2.2.trans g⟩
theorem Box3.start (w : World) (a0 b0 a1 b1 a2 b2 : Int) (t : TypeId) : Box3 w a0 b0 a1 b1 a2 b2 (((w.alloc (.cells #[.int .i64 a0, .int .i64 b0] t)).alloc (.cells #[.int .i64 a1, .int .i64 b1] t)).alloc (.cells #[.int .i64 a2, .int .i64 b2] t)) := by
  unfold Box3
  refine ⟨⟨?_, ?_⟩, ⟨?_, ?_⟩, ⟨?_, ?_⟩, (((Nw.refl _).alloc _).alloc _).alloc _⟩ <;> simp [go_sem]

/-- Part two's ways. -/
theorem two_ways (a3 a4 : Int) : (a3 < 0 ∧ Hid (lvl a3 (-1) ≠ 1) ∧ Hid (lvl a3 a4 ≠ 2)) ∨ ((0 ≤ a3 ∧ 100 ≤ a3) ∧ Hid (lvl a3 (-1) ≠ 1) ∧ Hid (lvl a3 a4 ≠ 2)) ∨
    ((0 ≤ a3 ∧ a3 < 100 ∧ a4 < 0) ∧ Hid (lvl a3 (-1) = 1) ∧ Hid (lvl a3 a4 ≠ 2)) ∨ ((0 ≤ a3 ∧ a3 < 100 ∧ 0 ≤ a4 ∧ 100 ≤ a4) ∧ Hid (lvl a3 (-1) = 1) ∧ Hid (lvl a3 a4 ≠ 2)) ∨
    ((0 ≤ a3 ∧ a3 < 100 ∧ 0 ≤ a4 ∧ a4 < 100) ∧ Hid (lvl a3 (-1) = 1) ∧ Hid (lvl a3 a4 = 2) ∧ Hid (und a3 a4 a3 (-1) = true) ∧ Hid (und a3 (-1) a3 a4 = false)) := by
  have no2 : ∀ {t r : Int}, ¬ (0 ≤ t ∧ t < 100 ∧ 0 ≤ r ∧ r < 100) → lvl t r ≠ 2 := fun {t r} h e => by
    rcases kinds t r with ⟨rfl, rfl⟩ | ⟨h0, h1, rfl⟩ | ⟨h0, h1, h2, h3⟩ | h0
    · rw [lvl_db] at e; omega
    · rw [lvl_tab t h0 h1] at e; omega
    · exact h ⟨h0, h1, h2, h3⟩
    · omega
  have no1 : ∀ {t : Int}, ¬ (0 ≤ t ∧ t < 100) → lvl t (-1) ≠ 1 := fun {t} h e => by
    rcases kinds t (-1) with ⟨rfl, _⟩ | ⟨h0, h1, _⟩ | ⟨h0, h1, h2, h3⟩ | h0
    · rw [lvl_db] at e; omega
    · exact h ⟨h0, h1⟩
    · omega
    · omega
  by_cases q0 : a3 < 0
  · exact .inl ⟨q0, Lib.hid (no1 (by omega)), Lib.hid (no2 (by omega))⟩
  by_cases q1 : 100 ≤ a3
  · exact .inr (.inl ⟨⟨by omega, q1⟩, Lib.hid (no1 (by omega)), Lib.hid (no2 (by omega))⟩)
  have t1 := lvl_tab a3 (by omega) (by omega)
  by_cases q2 : a4 < 0
  · exact .inr (.inr (.inl ⟨⟨by omega, by omega, q2⟩, Lib.hid t1, Lib.hid (no2 (by omega))⟩))
  by_cases q3 : 100 ≤ a4
  · exact .inr (.inr (.inr (.inl ⟨⟨by omega, by omega, by omega, q3⟩, Lib.hid t1, Lib.hid (no2 (by omega))⟩)))
  have t2 := lvl_rec a3 a4 (by omega) (by omega) (by omega) (by omega)
  refine .inr (.inr (.inr (.inr ⟨⟨by omega, by omega, by omega, by omega⟩, Lib.hid t1, Lib.hid t2, Lib.hid ?_, Lib.hid ?_⟩)))
  · exact decide_eq_true ⟨by omega, by omega, .inr ⟨rfl, .inl rfl⟩⟩
  · exact decide_eq_false (fun ⟨_, _, h⟩ => by omega)
theorem und_of {t r t' r' : Int} : und t r t' r' = true ↔ (lvl t r ≠ -1 ∧ lvl t' r' ≠ -1 ∧ ((t' = -1 ∧ r' = -1) ∨ (t' = t ∧ (r' = -1 ∨ r' = r)))) := by unfold und; exact decide_eq_true_iff
theorem und_no {t r t' r' : Int} : und t r t' r' = false ↔ ¬ (lvl t r ≠ -1 ∧ lvl t' r' ≠ -1 ∧ ((t' = -1 ∧ r' = -1) ∨ (t' = t ∧ (r' = -1 ∨ r' = r)))) := by unfold und; exact decide_eq_false_iff_not
theorem lvl_neg {r : Int} (h : lvl (-1) r ≠ -1) : r = -1 := by
  rcases kinds (-1) r with ⟨_, h1⟩ | ⟨h0, h1, _⟩ | ⟨h0, h1, h2, h3⟩ | h0
  · exact h1
  · omega
  · omega
  · exact absurd h0 h
theorem und_trans {a b c d e f : Int} (h : und a b c d = true) (k : und c d e f = true) : und a b e f = true := by
  rw [und_of] at *
  obtain ⟨h1, h2, h3⟩ := h
  obtain ⟨_, k2, k3⟩ := k
  refine ⟨h1, k2, ?_⟩
  rcases h3 with ⟨rfl, rfl⟩ | ⟨rfl, h3⟩
  · rcases k3 with k3 | ⟨rfl, k3⟩
    · exact .inl k3
    · exact .inl ⟨rfl, lvl_neg k2⟩
  · rcases k3 with k3 | ⟨rfl, k3⟩
    · exact .inl k3
    · refine .inr ⟨rfl, ?_⟩
      rcases k3 with k3 | k3
      · exact .inl k3
      · rw [k3]; exact h3
theorem und_anti {a b c d : Int} (h : und a b c d = true) (k : und c d a b = true) : a = c ∧ b = d := by
  rw [und_of] at *
  obtain ⟨h1, h2, h3⟩ := h
  obtain ⟨_, _, k3⟩ := k
  rcases h3 with ⟨rfl, rfl⟩ | ⟨rfl, h3⟩
  · rcases k3 with ⟨rfl, rfl⟩ | ⟨rfl, k3⟩
    · exact ⟨rfl, rfl⟩
    · exact ⟨rfl, lvl_neg h1⟩
  · refine ⟨rfl, ?_⟩
    rcases k3 with ⟨rfl, rfl⟩ | ⟨_, k3⟩
    · exact (lvl_neg h2).symm
    · omega
end Go.Proofs.YtdcjhjmbfpkigaaDoor.nameUnder
