
/- Contracts of package name, third part: Compare (with cmp.Compare, cmp.Or), slices.Index and Contains over names, Under. -/
import Derived.Test.YtekjmgdockfaiaaDoorNameB
import Derived.LoopTactic
import Derived.WalkSpells
namespace Go.Proofs.YtekjmgdockfaiaaDoor
open Go.ChangeShapes Go.WideShapes Go.ChangeAt Go.RowKit

/-- -1, 0 or 1. -/
def c3 (a b : Int) : Int := if a < b then -1 else if b < a then 1 else 0
theorem c3_lt (a b : Int) (h : a < b) : c3 a b = -1 := if_pos h
theorem c3_gt (a b : Int) (h : b < a) : c3 a b = 1 := by unfold c3; rw [if_neg (by omega), if_pos h]
theorem c3_eq (a : Int) : c3 a a = 0 := by unfold c3; simp
def or2 (x y : Int) : Int := if x = 0 then y else x
/-- Two boxes of names lie in the first two new blocks. -/
theorem boxes_start (w : World) (t r t' r' : Int) (ty : TypeId) :
    (((w.alloc (.cells #[.int .i64 t, .int .i64 r] ty)).alloc (.cells #[.int .i64 t', .int .i64 r'] ty)).drew.cell? ⟨w.heap.size, 0, none⟩ = some (.int .i64 t) ∧ ((w.alloc (.cells #[.int .i64 t, .int .i64 r] ty)).alloc (.cells #[.int .i64 t', .int .i64 r'] ty)).drew.cell? ⟨w.heap.size, 1, none⟩ = some (.int .i64 r) ∧ ((w.alloc (.cells #[.int .i64 t, .int .i64 r] ty)).alloc (.cells #[.int .i64 t', .int .i64 r'] ty)).drew.cell? ⟨w.heap.size + 1, 0, none⟩ = some (.int .i64 t') ∧ ((w.alloc (.cells #[.int .i64 t, .int .i64 r] ty)).alloc (.cells #[.int .i64 t', .int .i64 r'] ty)).drew.cell? ⟨w.heap.size + 1, 1, none⟩ = some (.int .i64 r')) ∧ (w.heap.size + 1 < ((w.alloc (.cells #[.int .i64 t, .int .i64 r] ty)).alloc (.cells #[.int .i64 t', .int .i64 r'] ty)).drew.heap.size ∧ Nw w ((w.alloc (.cells #[.int .i64 t, .int .i64 r] ty)).alloc (.cells #[.int .i64 t', .int .i64 r'] ty)).drew) := by
  have h := box_start' w t r ty
  have hz : (w.alloc (.cells #[.int .i64 t, .int .i64 r] ty)).heap.size = w.heap.size + 1 := by show (w.heap.push _).size = _; simp
  have k := box_start' (w.alloc (.cells #[.int .i64 t, .int .i64 r] ty)) t' r' ty
  rw [hz] at k
  have g : Nw (w.alloc (.cells #[.int .i64 t, .int .i64 r] ty)) ((w.alloc (.cells #[.int .i64 t, .int .i64 r] ty)).alloc (.cells #[.int .i64 t', .int .i64 r'] ty)) := (Nw.refl _).alloc _
  have h2 := box_step g h
  exact ⟨⟨h2.1, h2.2.1, k.1, k.2.1⟩, k.2.2.1, h2.2.2.2.drew1⟩
theorem boxes_step {w a b : World} {t r t' r' : Int} (g : Nw a b)
    (h : (a.cell? ⟨w.heap.size, 0, none⟩ = some (.int .i64 t) ∧ a.cell? ⟨w.heap.size, 1, none⟩ = some (.int .i64 r) ∧ a.cell? ⟨w.heap.size + 1, 0, none⟩ = some (.int .i64 t') ∧ a.cell? ⟨w.heap.size + 1, 1, none⟩ = some (.int .i64 r')) ∧ (w.heap.size + 1 < a.heap.size ∧ Nw w a)) :
    (b.cell? ⟨w.heap.size, 0, none⟩ = some (.int .i64 t) ∧ b.cell? ⟨w.heap.size, 1, none⟩ = some (.int .i64 r) ∧ b.cell? ⟨w.heap.size + 1, 0, none⟩ = some (.int .i64 t') ∧ b.cell? ⟨w.heap.size + 1, 1, none⟩ = some (.int .i64 r')) ∧ (w.heap.size + 1 < b.heap.size ∧ Nw w b) := by
  obtain ⟨⟨h0, h1, h2, h3⟩, hs, hn⟩ := h
  exact ⟨⟨(g.cell (by omega)).trans h0, (g.cell (by omega)).trans h1, (g.cell hs).trans h2, (g.cell hs).trans h3⟩, Nat.lt_of_lt_of_le hs g.sz, hn.trans g⟩

/-! ### slices.Index and Contains over names -/
theorem retI {k : IntKind} {a b : Int} (h : a = b) : Ending.returned (.int k a) = .returned (.int k b) := by rw [h]
def idx (len K : Nat) : Int := if K < len then K else -1
/-- The first place at which a name lies in a row; its length if at none. -/
theorem first_of (zs : List (Int × Int)) (t r : Int) : ∃ K, K ≤ zs.length ∧ (∀ j (h : j < zs.length), j < K → ¬ (t = zs[j].1 ∧ r = zs[j].2)) ∧ (∀ h : K < zs.length, t = zs[K].1 ∧ r = zs[K].2) := by
  induction zs with
  | nil => exact ⟨0, Nat.le_refl _, fun j h => absurd h (by simp), fun h => absurd h (by simp)⟩
  | cons z l ih =>
    by_cases e : t = z.1 ∧ r = z.2
    · exact ⟨0, by simp, fun j _ h => absurd h (by omega), fun _ => e⟩
    · obtain ⟨K, h1, h2, h3⟩ := ih
      refine ⟨K + 1, by simpa using h1, fun j h hj => ?_, fun h => by simpa using h3 (by simpa using h)⟩
      cases j with
      | zero => exact e
      | succ j => simpa using h2 j (by simpa using h) (by omega)
end Go.Proofs.YtekjmgdockfaiaaDoor
