
/- The document's own answers on modes: Compatible, Covers, Sup, Group at whatever modes. -/
import Derived.Test.YtmciiobncfchlaaR1
namespace Go.Proofs.Ytmciiobncfchlaa
open Go.RowKit
set_option linter.unusedVariables false      -- a contract need not use every name

theorem r1comp (a b : Int) (w : World) : Calls Try.prog 33 #[.int .i64 a, .int .i64 b] w fun e w' => e = .returned (.bool (cpI a b)) ∧ Nw w w' := by
  cases ha : knI a with
  | true =>
    cases hb : knI b with
    | true => exact r1comp_in a b ha hb w
    | false =>
      have hc : cpI a b = false := by simp [cpI, hb]
      rw [hc]
      have HA := Lib.hid (r1knT a ha)
      have HB := Lib.hid (r1knF b hb)
      clear ha hb hc
      go_enter Try.func33, Try.ntmps33
      go_wp2_with fail
      refine (HA.out _).mono ?_
      rintro e w' ⟨rfl, rfl⟩
      go_wp2_with fail
      refine (HB.out _).mono ?_
      rintro e w' ⟨rfl, rfl⟩
      go_wp2
      go_ret
      exact ⟨rfl, Nw.refl _⟩
  | false =>
    have hc : cpI a b = false := by simp [cpI, ha]
    rw [hc]
    have HA := Lib.hid (r1knF a ha)
    clear ha hc
    go_enter Try.func33, Try.ntmps33
    go_wp2_with fail
    refine (HA.out _).mono ?_
    rintro e w' ⟨rfl, rfl⟩
    go_wp2
    go_ret
    exact ⟨rfl, Nw.refl _⟩
set_option maxHeartbeats 4000000 in
theorem r1cov_in (a b : Int) (ha : knI a = true) (hb : knI b = true) (w : World) : Calls Try.prog 32 #[.int .i64 a, .int .i64 b] w fun e w' => e = .returned (.bool (cvI a b)) ∧ Nw w w' := by
  have hr := r1under a ha
  rcases kn_cases ha with rfl | rfl | rfl | rfl | rfl | rfl | rfl <;> rcases kn_cases hb with rfl | rfl | rfl | rfl | rfl | rfl | rfl
  all_goals
    go_enter Try.func32, Try.ntmps32
    go_wp2_with (first | (go_at_call 66; refine (r1knT _ rfl _).mono ?_; rintro e w' ⟨rfl, rfl⟩) | (go_at_call 67; refine (hr _).mono ?_; rintro e w' ⟨rfl, hg⟩))
    go_ret
    exact ⟨rfl, hg⟩
theorem r1cov (a b : Int) (w : World) : Calls Try.prog 32 #[.int .i64 a, .int .i64 b] w fun e w' => e = .returned (.bool (cvI a b)) ∧ Nw w w' := by
  cases ha : knI a with
  | true =>
    cases hb : knI b with
    | true => exact r1cov_in a b ha hb w
    | false =>
      have hc : cvI a b = false := by simp [cvI, hb]
      rw [hc]
      have HA := Lib.hid (r1knT a ha)
      have HB := Lib.hid (r1knF b hb)
      clear ha hb hc
      go_enter Try.func32, Try.ntmps32
      go_wp2_with fail
      refine (HA.out _).mono ?_
      rintro e w' ⟨rfl, rfl⟩
      go_wp2_with fail
      refine (HB.out _).mono ?_
      rintro e w' ⟨rfl, rfl⟩
      go_wp2
      go_ret
      exact ⟨rfl, Nw.refl _⟩
  | false =>
    have hc : cvI a b = false := by simp [cvI, ha]
    rw [hc]
    have HA := Lib.hid (r1knF a ha)
    clear ha hc
    go_enter Try.func32, Try.ntmps32
    go_wp2_with fail
    refine (HA.out _).mono ?_
    rintro e w' ⟨rfl, rfl⟩
    go_wp2
    go_ret
    exact ⟨rfl, Nw.refl _⟩
def supStep (a b o m : Int) : Int := if ((cvI m a && cvI m b) && cvI o m) = true then m else o
def supF (a b : Int) (k : Nat) : Int := (([6, 5, 4, 3, 2, 1, 0] : List Int).take k).foldl (supStep a b) 6
theorem supF_all : ∀ i < 7, ∀ j < 7, (supF (Int.ofNat i) (Int.ofNat j) 7 == supT (Int.ofNat i) (Int.ofNat j)) = true := by decide +kernel
theorem supF_is (a b : Int) (ha : knI a = true) (hb : knI b = true) : supF a b 7 = supT a b := by
  have := two_kn (p := fun a b => supF a b 7 == supT a b) supF_all a b ha hb
  simpa using this
theorem supF_step (a b : Int) (k : Nat) (hk : k < 7) : supF a b (k + 1) = supStep a b (supF a b k) (6 - (k : Int)) := by
  unfold supF
  rw [List.take_add_one, List.foldl_append]
  match k, hk with
  | 0, _ => rfl
  | 1, _ => rfl
  | 2, _ => rfl
  | 3, _ => rfl
  | 4, _ => rfl
  | 5, _ => rfl
  | 6, _ => rfl
end Go.Proofs.Ytmciiobncfchlaa
