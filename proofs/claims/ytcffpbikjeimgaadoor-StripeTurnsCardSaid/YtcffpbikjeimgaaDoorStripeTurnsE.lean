
/- A way of StripeTurns. -/
import Derived.Test.YtcffpbikjeimgaaDoorStripeTurnsB
import Derived.IntWalk
import Derived.Test.YtcffpbikjeimgaaDoorOrd
namespace Go.Proofs.YtcffpbikjeimgaaDoor.stripeTurns
open Go.ChangeShapes Go.WideShapes Go.ChangeAt Go.RowKit
open Go.Proofs.YtcffpbikjeimgaaDoor.stripeAll (spread_nat Names.at)
set_option linter.unusedVariables false      -- a walk need not use every fact
set_option maxRecDepth 10000 in
set_option maxHeartbeats 4000000 in
theorem walk_zero (a : Option Addr) (zs : List (Int × Int)) (y x : Int) (m : Int) (N : Nat) (w : World) (hz0 : zs = []) (hv1 : Names w (.slice a 0 0) (zs.take 0)) (hv2 : Names w (.slice a 0 0) (zs.drop 0)) (hv : Names w (.slice a 0 0) zs) (hm : x % 8 = m) (hm0 : 0 ≤ m) (hm1 : m < 8) (hN : 1 + m = (N : Int)) :
    Calls Tryd.prog 6 #[.slice a 0 0, .int .i64 y, .int .i64 x] w fun e w' => e = .returned (.bool true) ∧ Nw w w' := by
  have HE := Lib.hid hz0
  clear hz0
  have hK : y % 1 = 0 := by omega
  have hz : zs.length = 0 := (Names.at hv).1
  have HN := Lib.hid hN
  have HP := Lib.hid (fun w => (hm ▸ pick_any x 8 w (by decide) (by decide) : Calls Tryd.prog 21 #[.int .i64 x, .int .i64 8] w fun e w' => e = .returned (.int .i64 m) ∧ w = w'))
  have HQ : Hid (∀ w, Calls Tryd.prog 21 #[.int .i64 y, .int .i64 1] w fun e w' => e = .returned (.int .i64 0) ∧ w = w') := fun w => by
    have q := pick_any y 1 w (by omega) (by omega)
    rw [hK] at q
    exact q
  clear hK
  have b1 : 1 ≤ N := by omega
  have b2 : N ≤ 8 := by omega
  have HZ := Lib.hid hz
  clear hN hm hz
  go_enter Tryd.func6, Tryd.ntmps6
  go_wp2_with fail
  refine (lives_ok _).mono ?_
  rintro e w1 ⟨rfl, g1⟩
  go_wp2_with fail
  refine (HP.out _).mono ?_
  rintro e w2 ⟨rfl, rfl⟩
  go_wp2_with fail
  rw [HN.out]
  clear hm0 hm1 HP
  refine (HQ.out _).mono ?_
  rintro e w2 ⟨rfl, rfl⟩
  clear HQ HN
  have H1 := Lib.hid (sprd_of (hv1.grown g1) (by rw [List.length_take, HZ.out]; omega) b1 (by omega))
  have H2 := Lib.hid (sprd_of (hv2.grown g1) (by rw [List.length_drop, HZ.out]; omega) b1 (by omega))
  have H3 := Lib.hid (sprd_of (hv.grown g1) (by rw [HZ.out]; omega) b1 (by omega))
  clear hv1 hv2
  go_wp2
  go_region_held3 (Nw w1) (first | exact (Nw.refl _).drew1 | exact Nw.trans (by assumption) (by assumption) | assumption)
    (first | (go_at_call 13; (with_reducible refine (H1.out _ (by assumption)).mono ?_); rintro e _ ⟨_, rfl, _, _, _⟩) | (go_at_call 13; (with_reducible refine (H2.out _ (by assumption)).mono ?_); rintro e _ ⟨_, rfl, _, _, _⟩) | (go_at_call 13; (with_reducible refine (H3.out _ (by assumption)).mono ?_); rintro e _ ⟨_, rfl, _, _, _⟩))
  all_goals
    rename_i wA bA hA sA gA wB bB hB sB gB wC bC hC sC gC gS
    replace hA : ICells wA bA 0 (cnts (zs.take 0) N) := by have e := HE.out; subst e; exact hA
    replace hB : ICells wB bB 0 (cnts (zs.drop 0) N) := by have e := HE.out; subst e; exact hB
    replace hC : ICells wC bC 0 (cnts zs N) := by have e := HE.out; subst e; exact hC
    have iA := (hA.grown gB).grown gC
    have iB := hB.grown gC
    have hG := g1.trans gS
    have hv4 := hv.grown hG
    have lA := Lib.hid (cl (zs.take 0) N)
    have lB := Lib.hid (cl (zs.drop 0) N)
    have lC := Lib.hid (cl zs N)
    have hX := Lib.hid (halves zs 0 N)
    have bdA := Lib.hid (cnts_bound (zs.take 0) N)
    have bdB := Lib.hid (cnts_bound (zs.drop 0) N)
    have zA : (zs.take 0).length ≤ 1000 := by rw [List.length_take, HZ.out]; omega
    have zB : (zs.drop 0).length ≤ 1000 := by rw [List.length_drop, HZ.out]; omega
    clear hA hB gA gB gC H1 H2 H3 g1 hv gS sA sB sC
    generalize (zs.take 0).length = LA at *
    generalize (zs.drop 0).length = LB at *
    generalize cnts (zs.take 0) N = A at *
    generalize cnts (zs.drop 0) N = B at *
    generalize cnts zs N = C at *
    go_wp2
    go_loopw [10] (fun i wr => ∃ k : Nat, k ≤ N ∧ i = .int .i64 k ∧ Nw wC wr) (fun i _ => N - (intOf i).toNat)
    case atStart => exact ⟨0, Nat.zero_le _, rfl, Nw.refl _⟩
    case round =>
      obtain ⟨k, hk, rfl, hG1⟩ := hrel
      by_cases h : k < N
      · have c0 := (iA.grown hG1).2 k (by rw [lA.out]; exact h)
        have c1 := (iB.grown hG1).2 k (by rw [lB.out]; exact h)
        have c2 := (hC.grown hG1).2 k (by rw [lC.out]; exact h)
        rw [← hX.out k h] at c2
        rw [Nat.zero_add] at c0 c1 c2
        obtain ⟨p0, p1⟩ := bdA.out k
        obtain ⟨q0, q1⟩ := bdB.out k
        generalize A.getD k 0 = u at *
        generalize B.getD k 0 = v at *
        have hw : IntKind.i64.wrap (u + v) = u + v := IntWalk.i64_in _ (by omega)
        clear p0 p1 q0 q1 iA iB hC hv4
        go_wp2_with fail
        go_quiet (fail)
        go_wp2
        go_roundw
        case rel => exact ⟨k + 1, by omega, by go_num, hG1.drewN _⟩
        case measure => simp [intOf]; omega
      · clear iA iB hC lA lB lC hX bdA bdB
        have hG3 := hG.trans hG1
        have hv5 := hv4.grown hG1
        clear hv4 hG1
        go_wp2
        go_loopw [11] (fun i wq => ∃ k : Nat, k ≤ 0 ∧ i = .int .i64 k ∧ Nw wr wq) (fun i _ => 0 - (intOf i).toNat)
        case atStart => exact ⟨0, Nat.zero_le _, rfl, Nw.refl _⟩
        case round =>
          obtain ⟨j, hj, rfl, hG4⟩ := hrel
          obtain rfl : j = 0 := by omega
          go_wp2
          go_ret
          exact ⟨rfl, hG3.trans hG4⟩
end Go.Proofs.YtcffpbikjeimgaaDoor.stripeTurns
