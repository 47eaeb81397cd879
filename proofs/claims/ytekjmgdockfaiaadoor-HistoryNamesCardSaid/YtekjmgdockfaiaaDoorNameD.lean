
/- Contracts of package name, fourth part: Under. -/
import Derived.Test.YtekjmgdockfaiaaDoorNameC
namespace Go.Proofs.YtekjmgdockfaiaaDoor
open Go.ChangeShapes Go.WideShapes Go.ChangeAt Go.RowKit

/-- One name is under another one. -/
def und (t r t' r' : Int) : Bool := decide (lvl t r ≠ -1 ∧ lvl t' r' ≠ -1 ∧ ((t' = -1 ∧ r' = -1) ∨ (t' = t ∧ (r' = -1 ∨ r' = r))))
theorem boxes_start' (w : World) (t r t' r' : Int) (ty : TypeId) :
    (((w.alloc (.cells #[.int .i64 t, .int .i64 r] ty)).alloc (.cells #[.int .i64 t', .int .i64 r'] ty)).cell? ⟨w.heap.size, 0, none⟩ = some (.int .i64 t) ∧ ((w.alloc (.cells #[.int .i64 t, .int .i64 r] ty)).alloc (.cells #[.int .i64 t', .int .i64 r'] ty)).cell? ⟨w.heap.size, 1, none⟩ = some (.int .i64 r) ∧ ((w.alloc (.cells #[.int .i64 t, .int .i64 r] ty)).alloc (.cells #[.int .i64 t', .int .i64 r'] ty)).cell? ⟨w.heap.size + 1, 0, none⟩ = some (.int .i64 t') ∧ ((w.alloc (.cells #[.int .i64 t, .int .i64 r] ty)).alloc (.cells #[.int .i64 t', .int .i64 r'] ty)).cell? ⟨w.heap.size + 1, 1, none⟩ = some (.int .i64 r')) ∧ (w.heap.size + 1 < ((w.alloc (.cells #[.int .i64 t, .int .i64 r] ty)).alloc (.cells #[.int .i64 t', .int .i64 r'] ty)).heap.size ∧ Nw w ((w.alloc (.cells #[.int .i64 t, .int .i64 r] ty)).alloc (.cells #[.int .i64 t', .int .i64 r'] ty))) :=
  by
  have h := box_start' w t r ty
  have hz : (w.alloc (.cells #[.int .i64 t, .int .i64 r] ty)).heap.size = w.heap.size + 1 := by show (w.heap.push _).size = _; simp
  have k := box_start' (w.alloc (.cells #[.int .i64 t, .int .i64 r] ty)) t' r' ty
  rw [hz] at k
  have g : Nw (w.alloc (.cells #[.int .i64 t, .int .i64 r] ty)) ((w.alloc (.cells #[.int .i64 t, .int .i64 r] ty)).alloc (.cells #[.int .i64 t', .int .i64 r'] ty)) := (Nw.refl _).alloc _
  have h2 := box_step g h
  exact ⟨⟨h2.1, h2.2.1, k.1, k.2.1⟩, k.2.2.1, h2.2.2.2⟩

/-- Two names are not the same. -/
def Parted (t r t' r' : Int) : Prop := (t == t') = false ∨ (t = t' ∧ (r == r') = false)
theorem parted_of {t r t' r' : Int} (h : ¬ (t = t' ∧ r = r')) : Parted t r t' r' := by
  by_cases e : t = t'
  · refine .inr ⟨e, ?_⟩; simp; intro e2; exact h ⟨e, e2⟩
  · exact .inl (by simpa using e)
end Go.Proofs.YtekjmgdockfaiaaDoor
