
/- The walk of StripeTurns: the ways put together. -/
import Derived.Test.YtcffpbikjeimgaaDoorStripeTurnsC
import Derived.Test.YtcffpbikjeimgaaDoorStripeTurnsD
import Derived.Test.YtcffpbikjeimgaaDoorStripeTurnsE
import Derived.Test.YtcffpbikjeimgaaDoorStripeTurnsF
namespace Go.Proofs.YtcffpbikjeimgaaDoor.stripeTurns
open Go.ChangeShapes Go.WideShapes Go.ChangeAt Go.RowKit
open Go.Proofs.YtcffpbikjeimgaaDoor.stripeAll (spread_nat Names.at)
set_option linter.unusedVariables false      -- a walk need not use every fact
theorem walk_far (a : Option Addr) (n c : Nat) (y x : Int) (w : World) (hn : ¬ n ≤ 60) (hm : n ≤ maxLen) :
    Calls Tryd.prog 6 #[.slice a n c, .int .i64 y, .int .i64 x] w fun e w' => e = .returned (.bool true) ∧ Nw w w' := by
  have hn' : (60 : Int) < n := by omega
  go_enter Tryd.func6, Tryd.ntmps6
  go_wp2_with fail
  refine (lives_ok _).mono ?_
  rintro e w1 ⟨rfl, g1⟩
  go_wp2
  go_ret
  exact ⟨rfl, g1⟩
theorem part1 {w : World} {b o n c : Nat} {zs : List (Int × Int)} (h : NCells w b o zs) (hz : zs.length = n) (K : Nat) (hK : K ≤ n) : Names w (.slice (some ⟨b, o, none⟩) K c) (zs.take K) :=
  ⟨_, c, by rw [List.length_take, hz, Nat.min_eq_left hK], .inr ⟨b, o, rfl, h.1, fun k hk => by
    have := h.2 k (by rw [List.length_take] at hk; omega)
    simpa using this⟩⟩
theorem part2 {w : World} {b o n c : Nat} {zs : List (Int × Int)} (h : NCells w b o zs) (hz : zs.length = n) (K : Nat) (hK : K ≤ n) : Names w (.slice (some ⟨b, o + K * 2, none⟩) (n - K) c) (zs.drop K) :=
  ⟨_, c, by rw [List.length_drop, hz], .inr ⟨b, o + K * 2, rfl, h.1, fun k hk => by
    have := h.2 (K + k) (by rw [List.length_drop] at hk; omega)
    rw [show o + (K + k) * 2 = o + K * 2 + k * 2 by omega] at this
    simpa using this⟩⟩
theorem walk {w0 : World} (a : Option Addr) (n c : Nat) (zs : List (Int × Int)) (y x : Int) (hz : zs.length = n) (hc : n ≤ c) (hm : c ≤ maxLen) (hv : Names w0 (.slice a n c) zs) (wy : (Lit.int .i64 y).wf = true) (wx : (Lit.int .i64 x).wf = true) (w : World) (hw : w0 = w) :
    Calls Tryd.prog 6 #[.slice a n c, .int .i64 y, .int .i64 x] w fun e w' => e = .returned (.bool true) ∧ Nw w w' := by
  subst hw
  by_cases hn : n ≤ 60
  · have h1 : (1 + x % 8) = (((1 + x % 8).toNat : Nat) : Int) := by omega
    have m0 : 0 ≤ x % 8 := by omega
    have m1 : x % 8 < 8 := by omega
    by_cases h0 : n = 0
    · subst h0
      obtain rfl : zs = [] := List.eq_nil_of_length_eq_zero hz
      by_cases hc0 : c = 0
      · subst hc0
        exact walk_zero a [] y x _ _ _ rfl hv hv hv rfl m0 m1 h1
      · cases a with
        | none =>
          obtain ⟨a', c', e, h | ⟨b, o, h, _⟩⟩ := hv
          · injection e with e1 e2 e3
            subst e1; subst e3
            exact absurd (h.2 rfl) hc0
          · injection e with e1 e2 e3
            subst e1; cases h
        | some ad => exact walk_room ad c [] y x _ _ _ rfl hc0 hm hv hv hv rfl m0 m1 h1
    · obtain ⟨b, o, rfl, hnc⟩ := (Names.at hv).2 (by omega)
      have k0 : 0 ≤ y % ((n : Int) + 1) := Int.emod_nonneg _ (by omega)
      have k1 : y % ((n : Int) + 1) < (n : Int) + 1 := Int.emod_lt_of_pos _ (by omega)
      obtain ⟨K, hK⟩ := Int.eq_ofNat_of_zero_le k0
      have hKn : K ≤ n := by omega
      by_cases hcK : c = K
      · obtain rfl : n = K := by omega
        subst hcK
        refine walk_full b o c zs y x _ _ _ hn hK (part1 hnc hz c hKn) ?_ hv rfl m0 m1 h1
        rw [← hz, List.drop_length]
        exact ⟨_, 0, rfl, .inl ⟨rfl, fun e => by cases e⟩⟩
      · exact walk_some b o n c K zs y x _ _ _ hn hc hm hK hKn hcK (part1 hnc hz K hKn) (part2 hnc hz K hKn) hv rfl m0 m1 h1
  · exact walk_far a n c y x _ hn (by omega)
end Go.Proofs.YtcffpbikjeimgaaDoor.stripeTurns
