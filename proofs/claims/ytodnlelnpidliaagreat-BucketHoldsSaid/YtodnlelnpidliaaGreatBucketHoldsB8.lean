/- Texts merged: R1 -/
import Derived.Test.YtodnlelnpidliaaGreatBucketHoldsB7
import Derived.LoopTactic

/- The document's own answers on modes: Known, Compatible, Covers, Sup. -/
section
namespace Go.Proofs.YtodnlelnpidliaaGreat
open Go.RowKit
set_option linter.unusedVariables false      -- a contract need not use every name

theorem kn_no (m : Int) : knI m = false ↔ m < 0 ∨ 7 ≤ m := by
  rw [Bool.eq_false_iff, ne_eq, knI_iff]; omega
theorem r1known (m : Int) (w : World) : Calls Tryz.prog 29 #[.int .i64 m] w fun e w' => e = .returned (.bool (knI m)) ∧ w = w' := by
  cases h : knI m with
  | true =>
    rw [knI_iff] at h
    obtain ⟨h0, h1⟩ := h
    have h2 : m ≤ 6 := by omega
    go_enter Tryz.func29, Tryz.ntmps29
    go_wp2
    go_ret
    exact ⟨rfl, rfl⟩
  | false =>
    rw [kn_no] at h
    rcases h with h | h
    · go_enter Tryz.func29, Tryz.ntmps29
      go_wp2
      go_ret
      exact ⟨rfl, rfl⟩
    · have h0 : 0 ≤ m := by omega
      have hd : decide (m ≤ 6) = false := by simp; omega
      go_enter Tryz.func29, Tryz.ntmps29
      go_wp2
      go_ret
      exact ⟨rfl, rfl⟩
theorem kn_cases {m : Int} (h : knI m = true) : m = 0 ∨ m = 1 ∨ m = 2 ∨ m = 3 ∨ m = 4 ∨ m = 5 ∨ m = 6 := by
  rw [knI_iff] at h; omega
theorem r1knT (m : Int) (h : knI m = true) (w : World) : Calls Tryz.prog 29 #[.int .i64 m] w fun e w' => e = .returned (.bool true) ∧ w = w' := by
  have := r1known m w; rwa [h] at this
theorem r1knF (m : Int) (h : knI m = false) (w : World) : Calls Tryz.prog 29 #[.int .i64 m] w fun e w' => e = .returned (.bool false) ∧ w = w' := by
  have := r1known m w; rwa [h] at this
def rowL : List ByteArray := [⟨#[43, 43, 43, 43, 43, 43, 43]⟩, ⟨#[43, 43, 43, 43, 43, 43, 46]⟩, ⟨#[43, 43, 43, 46, 46, 46, 46]⟩, ⟨#[43, 43, 46, 43, 46, 43, 46]⟩, ⟨#[43, 43, 46, 46, 46, 46, 46]⟩, ⟨#[43, 43, 46, 43, 46, 46, 46]⟩, ⟨#[43, 46, 46, 46, 46, 46, 46]⟩]
def undL : List ByteArray := [⟨#[43, 46, 46, 46, 46, 46, 46]⟩, ⟨#[43, 43, 46, 46, 46, 46, 46]⟩, ⟨#[43, 43, 43, 46, 46, 46, 46]⟩, ⟨#[43, 43, 46, 43, 46, 46, 46]⟩, ⟨#[43, 43, 43, 43, 43, 46, 46]⟩, ⟨#[43, 43, 46, 43, 46, 43, 46]⟩, ⟨#[43, 43, 43, 43, 43, 43, 43]⟩]
theorem r1row (a : Int) (h : knI a = true) (w : World) : Calls Tryz.prog 92 #[.int .i64 a] w fun e w' => e = .returned (.string (rowL.getD a.toNat ByteArray.empty)) ∧ Nw w w' := by
  rcases kn_cases h with rfl | rfl | rfl | rfl | rfl | rfl | rfl
  all_goals
    go_enter Tryz.func92, Tryz.ntmps92
    go_wp2
    go_ret
    exact ⟨rfl, (Nw.refl _).alloc _⟩
theorem r1under (a : Int) (h : knI a = true) (w : World) : Calls Tryz.prog 116 #[.int .i64 a] w fun e w' => e = .returned (.string (undL.getD a.toNat ByteArray.empty)) ∧ Nw w w' := by
  rcases kn_cases h with rfl | rfl | rfl | rfl | rfl | rfl | rfl
  all_goals
    go_enter Tryz.func116, Tryz.ntmps116
    go_wp2
    go_ret
    exact ⟨rfl, (Nw.refl _).alloc _⟩
set_option maxHeartbeats 4000000 in
theorem r1comp_in (a b : Int) (ha : knI a = true) (hb : knI b = true) (w : World) : Calls Tryz.prog 64 #[.int .i64 a, .int .i64 b] w fun e w' => e = .returned (.bool (cpI a b)) ∧ Nw w w' := by
  have hr := r1row a ha
  rcases kn_cases ha with rfl | rfl | rfl | rfl | rfl | rfl | rfl <;> rcases kn_cases hb with rfl | rfl | rfl | rfl | rfl | rfl | rfl
  all_goals
    go_enter Tryz.func64, Tryz.ntmps64
    go_wp2_with (first | (go_at_call 29; refine (r1knT _ rfl _).mono ?_; rintro e w' ⟨rfl, rfl⟩) | (go_at_call 92; refine (hr _).mono ?_; rintro e w' ⟨rfl, hg⟩))
    go_ret
    exact ⟨rfl, hg⟩
end Go.Proofs.YtodnlelnpidliaaGreat
end
