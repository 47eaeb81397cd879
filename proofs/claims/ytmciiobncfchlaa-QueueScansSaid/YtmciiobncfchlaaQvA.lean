
/- The developers' package queue: holds, waits, lockable, closures, the order of turns. -/
import Derived.Test.YtmciiobncfchlaaQuT
import Derived.Test.YtmciiobncfchlaaQuA
import Derived.Test.YtmciiobncfchlaaOrdP
import Derived.LoopTactic
import Derived.BigQuiet
import Derived.Shelf.Abstract
namespace Go.Proofs.Ytmciiobncfchlaa
open Go.RowKit
set_option linter.unusedVariables false      -- a contract need not use every name

theorem dHolds (R : Rq) (w : World) : Calls Try.prog 47 #[rqV R] w fun e w' => e = .returned (.bool (R.md != 0)) ∧ Nw w w' := by
  obtain ⟨a, b, m, n, s⟩ := R
  unfold rqV
  go_enter Try.func47, Try.ntmps47
  go_wp2
  go_ret
  exact ⟨rfl, (Nw.refl _).alloc _⟩
theorem dWaits (R : Rq) (w : World) : Calls Try.prog 42 #[rqV R] w fun e w' => e = .returned (.bool (decide (0 < R.sn))) ∧ Nw w w' := by
  obtain ⟨a, b, m, n, s⟩ := R
  unfold rqV
  go_enter Try.func42, Try.ntmps42
  go_wp2
  go_ret
  exact ⟨rfl, (Nw.refl _).alloc _⟩
theorem dKnown (m : Int) (w : World) : Calls Try.prog 69 #[.int .i64 m] w fun e w' => e = .returned (.bool (knI m)) ∧ Nw w w' := by
  by_cases h : 0 ≤ m ∧ m < 7
  · refine (known_yes m w h.1 h.2).mono ?_
    rintro e w' ⟨rfl, rfl⟩
    exact ⟨by rw [(knI_iff m).2 h], Nw.refl _⟩
  · refine (known_no m w (by omega)).mono ?_
    rintro e w' ⟨rfl, rfl⟩
    have : knI m = false := by
      cases e : knI m with
      | false => rfl
      | true => exact absurd ((knI_iff m).1 e) h
    exact ⟨by rw [this], Nw.refl _⟩
theorem dLockable (m : Int) (w : World) : Calls Try.prog 35 #[.int .i64 m] w fun e w' => e = .returned (.bool ((m != 0) && knI m)) ∧ Nw w w' := by
  cases h : (m != 0) with
  | false =>
    go_enter Try.func35, Try.ntmps35
    go_wp2
    go_ret
    exact ⟨rfl, Nw.refl _⟩
  | true =>
    have HK := Lib.hid (dKnown m)
    go_enter Try.func35, Try.ntmps35
    go_wp2_with (go_at_call 69; refine (HK.out _).mono ?_; rintro e w' ⟨rfl, hN⟩)
    go_ret
    exact ⟨rfl, hN⟩

/-- A function value that tells of each request whether it is one looked for. -/
def Tells (w : World) (f : Value) (p : Rq → Bool) : Prop := ∃ (g : Nat) (lb : Array Value), f = .func (.func g) #[] lb ∧ (∀ args w, (callFunc g args).run Try.prog w = .ok (.enter g args) w) ∧ ∀ (R : Rq) (w1 : World), Nw w w1 → Calls Try.prog g (#[rqV R] ++ lb) w1 fun e w' => e = .returned (.bool (p R)) ∧ Nw w1 w'
theorem Tells.nw {w w' : World} {f : Value} {p : Rq → Bool} (h : Tells w f p) (g : Nw w w') : Tells w' f p := by
  obtain ⟨k, lb, e, eg, hc⟩ := h
  exact ⟨k, lb, e, eg, fun R w1 h1 => hc R w1 (g.trans h1)⟩

theorem dWithID1 (i : Int) (R : Rq) (p : Nat) (w : World) (h : w.cell? ⟨p, 0, none⟩ = some (.int .i64 i)) : Calls Try.prog 71 #[rqV R, .pointer (some ⟨p, 0, none⟩)] w fun e w' => e = .returned (.bool (R.id == i)) ∧ Nw w w' := by
  obtain ⟨a, b, m, n, s⟩ := R
  unfold rqV
  have hp := World.block_lt_of_cell? _ _ h
  go_enter Try.func71, Try.ntmps71
  go_wp2
  go_ret
  exact ⟨rfl, (Nw.refl _).alloc _⟩
theorem dOfTxn1 (i : Int) (R : Rq) (p : Nat) (w : World) (h : w.cell? ⟨p, 0, none⟩ = some (.int .i64 i)) : Calls Try.prog 72 #[rqV R, .pointer (some ⟨p, 0, none⟩)] w fun e w' => e = .returned (.bool (R.txn == i)) ∧ Nw w w' := by
  obtain ⟨a, b, m, n, s⟩ := R
  unfold rqV
  have hp := World.block_lt_of_cell? _ _ h
  go_enter Try.func72, Try.ntmps72
  go_wp2
  go_ret
  exact ⟨rfl, (Nw.refl _).alloc _⟩
theorem dWithID (i : Int) (w : World) : Calls Try.prog 37 #[.int .i64 i] w fun e w' => ∃ p, e = .returned (.func (.func 71) #[] #[.pointer (some ⟨p, 0, none⟩)]) ∧ Nw w w' ∧ w'.cell? ⟨p, 0, none⟩ = some (.int .i64 i) := by
  go_enter Try.func37, Try.ntmps37
  go_wp2
  go_ret
  exact ⟨_, rfl, (Nw.refl _).alloc _, hcell (allocAt w _)⟩
theorem dOfTxn (i : Int) (w : World) : Calls Try.prog 38 #[.int .i64 i] w fun e w' => ∃ p, e = .returned (.func (.func 72) #[] #[.pointer (some ⟨p, 0, none⟩)]) ∧ Nw w w' ∧ w'.cell? ⟨p, 0, none⟩ = some (.int .i64 i) := by
  go_enter Try.func38, Try.ntmps38
  go_wp2
  go_ret
  exact ⟨_, rfl, (Nw.refl _).alloc _, hcell (allocAt w _)⟩
theorem Tells.withID {w : World} {i : Int} {p : Nat} (h : w.cell? ⟨p, 0, none⟩ = some (.int .i64 i)) : Tells w (.func (.func 71) #[] #[.pointer (some ⟨p, 0, none⟩)]) (fun R => R.id == i) :=
  ⟨_, _, rfl, enters_of Try.func71 (by kernel_rfl) rfl, fun R w1 g => dWithID1 i R p w1 (g.kp h)⟩
theorem Tells.ofTxn {w : World} {i : Int} {p : Nat} (h : w.cell? ⟨p, 0, none⟩ = some (.int .i64 i)) : Tells w (.func (.func 72) #[] #[.pointer (some ⟨p, 0, none⟩)]) (fun R => R.txn == i) :=
  ⟨_, _, rfl, enters_of Try.func72 (by kernel_rfl) rfl, fun R w1 g => dOfTxn1 i R p w1 (g.kp h)⟩
end Go.Proofs.Ytmciiobncfchlaa
