
/- A way of StripeTurns. -/
import Derived.Test.YtcffpbikjeimgaaDoorStripeTurnsB
import Derived.IntWalk
import Derived.Test.YtcffpbikjeimgaaDoorOrd
namespace Go.Proofs.YtcffpbikjeimgaaDoor.stripeTurns
open Go.ChangeShapes Go.WideShapes Go.ChangeAt Go.RowKit
open Go.Proofs.YtcffpbikjeimgaaDoor.stripeAll (spread_nat Names.at)
set_option linter.unusedVariables false      -- a walk need not use every fact
set_option maxRecDepth 10000 in
set_option maxHeartbeats 4000000 in
theorem walk_full (bb oo K : Nat) (zs : List (Int × Int)) (y x : Int) (m : Int) (N : Nat) (w : World) (hn : K ≤ 60) (hK : y % ((K : Int) + 1) = (K : Int)) (hv1 : Names w (.slice (some ⟨bb, oo, none⟩) K K) (zs.take K)) (hv2 : Names w (.slice (some ⟨bb, oo, none⟩) 0 0) (zs.drop K)) (hv : Names w (.slice (some ⟨bb, oo, none⟩) K K) zs) (hm : x % 8 = m) (hm0 : 0 ≤ m) (hm1 : m < 8) (hN : 1 + m = (N : Int)) :
    Calls Tryd.prog 6 #[.slice (some ⟨bb, oo, none⟩) K K, .int .i64 y, .int .i64 x] w fun e w' => e = .returned (.bool true) ∧ Nw w w' := by
  have hn' : (K : Int) ≤ 60 := by omega
  have hz : zs.length = K := (Names.at hv).1
  have HN := Lib.hid hN
  have HP := Lib.hid (fun w => (hm ▸ pick_any x 8 w (by decide) (by decide) : Calls Tryd.prog 21 #[.int .i64 x, .int .i64 8] w fun e w' => e = .returned (.int .i64 m) ∧ w = w'))
  have HQ : Hid (∀ w, Calls Tryd.prog 21 #[.int .i64 y, .int .i64 ((K : Int) + 1)] w fun e w' => e = .returned (.int .i64 K) ∧ w = w') := fun w => by
    have q := pick_any y ((K : Int) + 1) w (by omega) (by omega)
    rw [hK] at q
    exact q
  clear hK
  have b1 : 1 ≤ N := by omega
  have b2 : N ≤ 8 := by omega
  have HZ := Lib.hid hz
  clear hN hm hz
  go_enter Tryd.func6, Tryd.ntmps6
  go_wp2_with fail
  refine (lives_ok _).mono ?_
  rintro e w1 ⟨rfl, g1⟩
  go_wp2_with fail
  refine (HP.out _).mono ?_
  rintro e w2 ⟨rfl, rfl⟩
  go_wp2_with fail
  rw [HN.out]
  clear hm0 hm1 HP
  refine (HQ.out _).mono ?_
  rintro e w2 ⟨rfl, rfl⟩
  clear HQ HN
  have H1 := Lib.hid (sprd_of (hv1.grown g1) (by rw [List.length_take, HZ.out]; omega) b1 (by omega))
  have H2 := Lib.hid (sprd_of (hv2.grown g1) (by rw [List.length_drop, HZ.out]; omega) b1 (by omega))
  have H3 := Lib.hid (sprd_of (hv.grown g1) (by rw [HZ.out]; omega) b1 (by omega))
  clear hv1 hv2
  go_wp2
  go_region_held3 (Nw w1) (first | exact (Nw.refl _).drew1 | exact Nw.trans (by assumption) (by assumption) | assumption)
    (first | (go_at_call 13; (with_reducible refine (H1.out _ (by assumption)).mono ?_); rintro e _ ⟨_, rfl, _, _, _⟩) | (go_at_call 13; (with_reducible refine (H2.out _ (by assumption)).mono ?_); rintro e _ ⟨_, rfl, _, _, _⟩) | (go_at_call 13; (with_reducible refine (H3.out _ (by assumption)).mono ?_); rintro e _ ⟨_, rfl, _, _, _⟩))
  all_goals
    rename_i wA bA hA sA gA wB bB hB sB gB wC bC hC sC gC gS
    replace hA : ICells wA bA 0 (cnts (zs.take K) N) := hA
    replace hB : ICells wB bB 0 (cnts (zs.drop K) N) := hB
    replace hC : ICells wC bC 0 (cnts zs N) := by first | exact hC | (rw [List.take_of_length_le (by rw [HZ.out]; exact Nat.le_refl _)] at hC; exact hC)
    have iA := (hA.grown gB).grown gC
    have iB := hB.grown gC
    have hG := g1.trans gS
    have hv4 := hv.grown hG
    have lA := Lib.hid (cl (zs.take K) N)
    have lB := Lib.hid (cl (zs.drop K) N)
    have lC := Lib.hid (cl zs N)
    have hX := Lib.hid (halves zs K N)
    have bdA := Lib.hid (cnts_bound (zs.take K) N)
    have bdB := Lib.hid (cnts_bound (zs.drop K) N)
    have zA : (zs.take K).length ≤ 1000 := by rw [List.length_take, HZ.out]; omega
    have zB : (zs.drop K).length ≤ 1000 := by rw [List.length_drop, HZ.out]; omega
    clear hA hB gA gB gC H1 H2 H3 g1 hv gS sA sB sC
    generalize (zs.take K).length = LA at *
    generalize (zs.drop K).length = LB at *
    generalize cnts (zs.take K) N = A at *
    generalize cnts (zs.drop K) N = B at *
    generalize cnts zs N = C at *
    go_wp2
    go_loopw [10] (fun i wr => ∃ k : Nat, k ≤ N ∧ i = .int .i64 k ∧ Nw wC wr) (fun i _ => N - (intOf i).toNat)
    case atStart => exact ⟨0, Nat.zero_le _, rfl, Nw.refl _⟩
    case round =>
      obtain ⟨k, hk, rfl, hG1⟩ := hrel
      by_cases h : k < N
      · have c0 := (iA.grown hG1).2 k (by rw [lA.out]; exact h)
        have c1 := (iB.grown hG1).2 k (by rw [lB.out]; exact h)
        have c2 := (hC.grown hG1).2 k (by rw [lC.out]; exact h)
        rw [← hX.out k h] at c2
        rw [Nat.zero_add] at c0 c1 c2
        obtain ⟨p0, p1⟩ := bdA.out k
        obtain ⟨q0, q1⟩ := bdB.out k
        generalize A.getD k 0 = u at *
        generalize B.getD k 0 = v at *
        have hw : IntKind.i64.wrap (u + v) = u + v := IntWalk.i64_in _ (by omega)
        clear p0 p1 q0 q1 iA iB hC hv4
        go_wp2_with fail
        go_quiet (fail)
        go_wp2
        go_roundw
        case rel => exact ⟨k + 1, by omega, by go_num, hG1.drewN _⟩
        case measure => simp [intOf]; omega
      · clear iA iB hC lA lB lC hX bdA bdB
        have hG3 := hG.trans hG1
        have hv5 := hv4.grown hG1
        clear hv4 hG1
        go_wp2
        go_loopw [11] (fun i wq => ∃ k : Nat, k ≤ K ∧ i = .int .i64 k ∧ Nw wr wq) (fun i _ => K - (intOf i).toNat)
        case atStart => exact ⟨0, Nat.zero_le _, rfl, Nw.refl _⟩
        case round =>
          obtain ⟨j, hj, rfl, hG4⟩ := hrel
          by_cases h2 : j < K
          · obtain ⟨hz, hat⟩ := Names.at (hv5.grown hG4)
            obtain ⟨b', o', hab, hnc⟩ := hat (by omega)
            injection hab with hab
            injection hab with e2 e3
            subst e2
            subst e3
            clear hat
            have hjz : j < zs.length := by omega
            have h0z : 0 < zs.length := by omega
            have c0 := (hnc.2 j hjz).1
            have c1 := (hnc.2 j hjz).2
            have d0 := (hnc.2 0 h0z).1
            have d1 := (hnc.2 0 h0z).2
            rw [Nat.zero_mul, Nat.add_zero] at d0 d1
            have hm := half_mod zs[j].1 zs[j].2 N b1 b2
            generalize zs[j].1 = t at *
            generalize zs[j].2 = r at *
            generalize zs[0].1 = t0 at *
            generalize zs[0].2 = r0 at *
            have hw2 : IntKind.i64.wrap (2 * (N : Int)) = 2 * N := IntWalk.i64_in _ (by omega)
            have HS1 := Lib.hid (fun w => same_any t0 r0 t r N w)
            have HS2 := Lib.hid (fun w => same_any t r t0 r0 N w)
            rw [smS_comm t r t0 r0 N] at HS2
            generalize smS t0 r0 t r N = s at *
            have HO1 := Lib.hid (of_any t r N)
            have HO2 := Lib.hid (of_any t r (2 * N))
            have rg1 := ofS_range t r N
            have rg2 := ofS_range t r (2 * N)
            have hS0 : (((wr.cell? ⟨bb, oo + j * 2, none⟩ = some (.int .i64 t) ∧ wr.cell? ⟨bb, oo + j * 2 + 1, none⟩ = some (.int .i64 r)) ∧ (wr.cell? ⟨bb, oo, none⟩ = some (.int .i64 t0) ∧ wr.cell? ⟨bb, oo + 1, none⟩ = some (.int .i64 r0))) ∧ Nw wr wr) := ⟨⟨⟨c0, c1⟩, ⟨d0, d1⟩⟩, Nw.refl _⟩
            have ne : ¬ N = 0 := by omega
            have h0n : 0 < K := by omega
            clear hnc hv5
            by_cases hl : lvl t r = -1
            · rw [ofS_bad t r _ hl] at HO1 HO2
              clear hl hm rg1 rg2 c0 c1 d0 d1
              go_wp2
              go_region_held3 (fun x => ((x.cell? ⟨bb, oo + j * 2, none⟩ = some (.int .i64 t) ∧ x.cell? ⟨bb, oo + j * 2 + 1, none⟩ = some (.int .i64 r)) ∧ (x.cell? ⟨bb, oo, none⟩ = some (.int .i64 t0) ∧ x.cell? ⟨bb, oo + 1, none⟩ = some (.int .i64 r0))) ∧ Nw wr x)
                (first | assumption | exact pair_step (Nw.refl _).drew1 (by assumption) | exact pair_step (by assumption) (by assumption))
                (first | (go_at_call 11; (with_reducible refine (HO1.out _).mono ?_); rintro e _ ⟨rfl, _⟩) | (go_at_call 11; (with_reducible refine (HO2.out _).mono ?_); rintro e _ ⟨rfl, _⟩))
              all_goals
                clear hS0
                rename_i hS1
                have hHeld : Held (fun x : World => ((x.cell? ⟨bb, oo + j * 2, none⟩ = some (.int .i64 t) ∧ x.cell? ⟨bb, oo + j * 2 + 1, none⟩ = some (.int .i64 r)) ∧ (x.cell? ⟨bb, oo, none⟩ = some (.int .i64 t0) ∧ x.cell? ⟨bb, oo + 1, none⟩ = some (.int .i64 r0))) ∧ Nw wr x) (World.drew _) := pair_step (Nw.refl _).drew1 hS1
                have z0 : ∀ x, Held (fun x : World => ((x.cell? ⟨bb, oo + j * 2, none⟩ = some (.int .i64 t) ∧ x.cell? ⟨bb, oo + j * 2 + 1, none⟩ = some (.int .i64 r)) ∧ (x.cell? ⟨bb, oo, none⟩ = some (.int .i64 t0) ∧ x.cell? ⟨bb, oo + 1, none⟩ = some (.int .i64 r0))) ∧ Nw wr x) x → x.cell? ⟨bb, oo + j * 2, none⟩ = some (.int .i64 t) := fun x h => h.1.1.1
                have z1 : ∀ x, Held (fun x : World => ((x.cell? ⟨bb, oo + j * 2, none⟩ = some (.int .i64 t) ∧ x.cell? ⟨bb, oo + j * 2 + 1, none⟩ = some (.int .i64 r)) ∧ (x.cell? ⟨bb, oo, none⟩ = some (.int .i64 t0) ∧ x.cell? ⟨bb, oo + 1, none⟩ = some (.int .i64 r0))) ∧ Nw wr x) x → x.cell? ⟨bb, oo + j * 2 + 1, none⟩ = some (.int .i64 r) := fun x h => h.1.1.2
                have z2 : ∀ x, Held (fun x : World => ((x.cell? ⟨bb, oo + j * 2, none⟩ = some (.int .i64 t) ∧ x.cell? ⟨bb, oo + j * 2 + 1, none⟩ = some (.int .i64 r)) ∧ (x.cell? ⟨bb, oo, none⟩ = some (.int .i64 t0) ∧ x.cell? ⟨bb, oo + 1, none⟩ = some (.int .i64 r0))) ∧ Nw wr x) x → x.cell? ⟨bb, oo, none⟩ = some (.int .i64 t0) := fun x h => h.1.2.1
                have z3 : ∀ x, Held (fun x : World => ((x.cell? ⟨bb, oo + j * 2, none⟩ = some (.int .i64 t) ∧ x.cell? ⟨bb, oo + j * 2 + 1, none⟩ = some (.int .i64 r)) ∧ (x.cell? ⟨bb, oo, none⟩ = some (.int .i64 t0) ∧ x.cell? ⟨bb, oo + 1, none⟩ = some (.int .i64 r0))) ∧ Nw wr x) x → x.cell? ⟨bb, oo + 1, none⟩ = some (.int .i64 r0) := fun x h => h.1.2.2
                have hst' : Hid (∀ x y, Nw x y → Held (fun x : World => ((x.cell? ⟨bb, oo + j * 2, none⟩ = some (.int .i64 t) ∧ x.cell? ⟨bb, oo + j * 2 + 1, none⟩ = some (.int .i64 r)) ∧ (x.cell? ⟨bb, oo, none⟩ = some (.int .i64 t0) ∧ x.cell? ⟨bb, oo + 1, none⟩ = some (.int .i64 r0))) ∧ Nw wr x) x → Held (fun x : World => ((x.cell? ⟨bb, oo + j * 2, none⟩ = some (.int .i64 t) ∧ x.cell? ⟨bb, oo + j * 2 + 1, none⟩ = some (.int .i64 r)) ∧ (x.cell? ⟨bb, oo, none⟩ = some (.int .i64 t0) ∧ x.cell? ⟨bb, oo + 1, none⟩ = some (.int .i64 r0))) ∧ Nw wr x) y) := fun x y g h => pair_step g h
                have hN' : Hid (∀ x, Held (fun x : World => ((x.cell? ⟨bb, oo + j * 2, none⟩ = some (.int .i64 t) ∧ x.cell? ⟨bb, oo + j * 2 + 1, none⟩ = some (.int .i64 r)) ∧ (x.cell? ⟨bb, oo, none⟩ = some (.int .i64 t0) ∧ x.cell? ⟨bb, oo + 1, none⟩ = some (.int .i64 r0))) ∧ Nw wr x) x → Nw wr x) := fun x h => h.2
                clear hS1
                go_wp2
                generalize (fun x : World => ((x.cell? ⟨bb, oo + j * 2, none⟩ = some (.int .i64 t) ∧ x.cell? ⟨bb, oo + j * 2 + 1, none⟩ = some (.int .i64 r)) ∧ (x.cell? ⟨bb, oo, none⟩ = some (.int .i64 t0) ∧ x.cell? ⟨bb, oo + 1, none⟩ = some (.int .i64 r0))) ∧ Nw wr x) = S at hHeld z0 z1 z2 z3 hst' hN'
                refine region_told [some true, some true, some true, some true, some true, some true, some true, some true, some true, some true, some true, some true, some true, some true, some true, some true, some true, some true, some true, some true, some true, some true, some true, some true, some true, some true, some false, some true, some true, some true, some true, some true, some true, some true, some true, none, some false, none, some true, some true] (Held S) (by kernel_rfl) (by kernel_rfl) (by kernel_rfl) hHeld ?_
                repeat (first
                  | (refine HW.off ?_)
                  | (refine HW.take' ?_; refine ⟨undef, Or.inr ⟨by rfl, rfl⟩, ?_⟩; (try simp only [Act.put, List.setIfInBounds_toArray, List.set_cons_zero, List.set_cons_succ]))
                  | (refine HW.take' ?_; apply Exists.intro; refine ⟨Or.inl ⟨by rfl, ?_⟩, ?_⟩; (intro x hx; go_simp; first | done | with_reducible rfl); (try simp only [Act.put, List.setIfInBounds_toArray, List.set_cons_zero, List.set_cons_succ]))
                  | (refine HW.go (fun K hK => ?_); go_simp; (first | (go_at_call 12; (with_reducible refine (HS1.out _).mono ?_); rintro e _ ⟨rfl, hg⟩) | (go_at_call 12; (with_reducible refine (HS2.out _).mono ?_); rintro e _ ⟨rfl, hg⟩)); refine hK.out _ _ (hst'.out _ _ hg hHeld) ?_; clear hHeld; intro hHeld; clear hK K; (try simp only [Act.put, List.setIfInBounds_toArray, List.set_cons_zero, List.set_cons_succ])))
                refine HW.end_ ?_
                refine NoPanic.normal ?_
                go_wp2
                go_roundw
                case rel => exact ⟨j + 1, by omega, by go_num, hG4.trans (hN'.out _ hHeld)⟩
                case measure => simp [intOf]; omega
            · have e1 := hm hl
              have v1 := ofS_yes t r N (by omega) (by omega) hl
              have v2 := ofS_yes t r (2 * N) (by omega) (by omega) hl
              have n1 : 0 ≤ ofS t r N := by rw [v1]; exact Int.emod_nonneg _ (by omega)
              have n2 : 0 ≤ ofS t r (2 * N) := by rw [v2]; exact Int.emod_nonneg _ (by omega)
              clear v1 v2 rg1 rg2 hl hm
              generalize ofS t r N = p at *
              generalize ofS t r (2 * N) = q at *
              have f1 : decide (p < 0) = false := by simp; omega
              have f2 : decide (0 ≤ p) = true := by simpa using n1
              have f3 : decide (q < 0) = false := by simp; omega
              have f4 : decide (0 ≤ q) = true := by simpa using n2
              clear c0 c1 d0 d1
              go_wp2
              go_region_held3 (fun x => ((x.cell? ⟨bb, oo + j * 2, none⟩ = some (.int .i64 t) ∧ x.cell? ⟨bb, oo + j * 2 + 1, none⟩ = some (.int .i64 r)) ∧ (x.cell? ⟨bb, oo, none⟩ = some (.int .i64 t0) ∧ x.cell? ⟨bb, oo + 1, none⟩ = some (.int .i64 r0))) ∧ Nw wr x)
                (first | assumption | exact pair_step (Nw.refl _).drew1 (by assumption) | exact pair_step (by assumption) (by assumption))
                (first | (go_at_call 11; (with_reducible refine (HO1.out _).mono ?_); rintro e _ ⟨rfl, _⟩) | (go_at_call 11; (with_reducible refine (HO2.out _).mono ?_); rintro e _ ⟨rfl, _⟩))
              all_goals
                clear hS0
                rename_i hS1
                have hHeld : Held (fun x : World => ((x.cell? ⟨bb, oo + j * 2, none⟩ = some (.int .i64 t) ∧ x.cell? ⟨bb, oo + j * 2 + 1, none⟩ = some (.int .i64 r)) ∧ (x.cell? ⟨bb, oo, none⟩ = some (.int .i64 t0) ∧ x.cell? ⟨bb, oo + 1, none⟩ = some (.int .i64 r0))) ∧ Nw wr x) (World.drew _) := pair_step (Nw.refl _).drew1 hS1
                have z0 : ∀ x, Held (fun x : World => ((x.cell? ⟨bb, oo + j * 2, none⟩ = some (.int .i64 t) ∧ x.cell? ⟨bb, oo + j * 2 + 1, none⟩ = some (.int .i64 r)) ∧ (x.cell? ⟨bb, oo, none⟩ = some (.int .i64 t0) ∧ x.cell? ⟨bb, oo + 1, none⟩ = some (.int .i64 r0))) ∧ Nw wr x) x → x.cell? ⟨bb, oo + j * 2, none⟩ = some (.int .i64 t) := fun x h => h.1.1.1
                have z1 : ∀ x, Held (fun x : World => ((x.cell? ⟨bb, oo + j * 2, none⟩ = some (.int .i64 t) ∧ x.cell? ⟨bb, oo + j * 2 + 1, none⟩ = some (.int .i64 r)) ∧ (x.cell? ⟨bb, oo, none⟩ = some (.int .i64 t0) ∧ x.cell? ⟨bb, oo + 1, none⟩ = some (.int .i64 r0))) ∧ Nw wr x) x → x.cell? ⟨bb, oo + j * 2 + 1, none⟩ = some (.int .i64 r) := fun x h => h.1.1.2
                have z2 : ∀ x, Held (fun x : World => ((x.cell? ⟨bb, oo + j * 2, none⟩ = some (.int .i64 t) ∧ x.cell? ⟨bb, oo + j * 2 + 1, none⟩ = some (.int .i64 r)) ∧ (x.cell? ⟨bb, oo, none⟩ = some (.int .i64 t0) ∧ x.cell? ⟨bb, oo + 1, none⟩ = some (.int .i64 r0))) ∧ Nw wr x) x → x.cell? ⟨bb, oo, none⟩ = some (.int .i64 t0) := fun x h => h.1.2.1
                have z3 : ∀ x, Held (fun x : World => ((x.cell? ⟨bb, oo + j * 2, none⟩ = some (.int .i64 t) ∧ x.cell? ⟨bb, oo + j * 2 + 1, none⟩ = some (.int .i64 r)) ∧ (x.cell? ⟨bb, oo, none⟩ = some (.int .i64 t0) ∧ x.cell? ⟨bb, oo + 1, none⟩ = some (.int .i64 r0))) ∧ Nw wr x) x → x.cell? ⟨bb, oo + 1, none⟩ = some (.int .i64 r0) := fun x h => h.1.2.2
                have hst' : Hid (∀ x y, Nw x y → Held (fun x : World => ((x.cell? ⟨bb, oo + j * 2, none⟩ = some (.int .i64 t) ∧ x.cell? ⟨bb, oo + j * 2 + 1, none⟩ = some (.int .i64 r)) ∧ (x.cell? ⟨bb, oo, none⟩ = some (.int .i64 t0) ∧ x.cell? ⟨bb, oo + 1, none⟩ = some (.int .i64 r0))) ∧ Nw wr x) x → Held (fun x : World => ((x.cell? ⟨bb, oo + j * 2, none⟩ = some (.int .i64 t) ∧ x.cell? ⟨bb, oo + j * 2 + 1, none⟩ = some (.int .i64 r)) ∧ (x.cell? ⟨bb, oo, none⟩ = some (.int .i64 t0) ∧ x.cell? ⟨bb, oo + 1, none⟩ = some (.int .i64 r0))) ∧ Nw wr x) y) := fun x y g h => pair_step g h
                have hN' : Hid (∀ x, Held (fun x : World => ((x.cell? ⟨bb, oo + j * 2, none⟩ = some (.int .i64 t) ∧ x.cell? ⟨bb, oo + j * 2 + 1, none⟩ = some (.int .i64 r)) ∧ (x.cell? ⟨bb, oo, none⟩ = some (.int .i64 t0) ∧ x.cell? ⟨bb, oo + 1, none⟩ = some (.int .i64 r0))) ∧ Nw wr x) x → Nw wr x) := fun x h => h.2
                clear hS1
                go_wp2
                generalize (fun x : World => ((x.cell? ⟨bb, oo + j * 2, none⟩ = some (.int .i64 t) ∧ x.cell? ⟨bb, oo + j * 2 + 1, none⟩ = some (.int .i64 r)) ∧ (x.cell? ⟨bb, oo, none⟩ = some (.int .i64 t0) ∧ x.cell? ⟨bb, oo + 1, none⟩ = some (.int .i64 r0))) ∧ Nw wr x) = S at hHeld z0 z1 z2 z3 hst' hN'
                refine region_told [some true, some true, some true, some true, some true, some true, some true, some true, some true, some true, some true, some true, some true, some true, some true, some true, some true, some true, some true, some true, some true, some true, some true, some true, some true, some true, some false, some true, some true, some true, some true, some true, some true, some true, some true, none, some false, none, some true, some true] (Held S) (by kernel_rfl) (by kernel_rfl) (by kernel_rfl) hHeld ?_
                repeat (first
                  | (refine HW.off ?_)
                  | (refine HW.take' ?_; refine ⟨undef, Or.inr ⟨by rfl, rfl⟩, ?_⟩; (try simp only [Act.put, List.setIfInBounds_toArray, List.set_cons_zero, List.set_cons_succ]))
                  | (refine HW.take' ?_; apply Exists.intro; refine ⟨Or.inl ⟨by rfl, ?_⟩, ?_⟩; (intro x hx; go_simp; first | done | with_reducible rfl); (try simp only [Act.put, List.setIfInBounds_toArray, List.set_cons_zero, List.set_cons_succ]))
                  | (refine HW.go (fun K hK => ?_); go_simp; (first | (go_at_call 12; (with_reducible refine (HS1.out _).mono ?_); rintro e _ ⟨rfl, hg⟩) | (go_at_call 12; (with_reducible refine (HS2.out _).mono ?_); rintro e _ ⟨rfl, hg⟩)); refine hK.out _ _ (hst'.out _ _ hg hHeld) ?_; clear hHeld; intro hHeld; clear hK K; (try simp only [Act.put, List.setIfInBounds_toArray, List.set_cons_zero, List.set_cons_succ])))
                refine HW.end_ ?_
                refine NoPanic.normal ?_
                go_wp2
                go_roundw
                case rel => exact ⟨j + 1, by omega, by go_num, hG4.trans (hN'.out _ hHeld)⟩
                case measure => simp [intOf]; omega
          · go_wp2
            go_ret
            exact ⟨rfl, hG3.trans hG4⟩
end Go.Proofs.YtcffpbikjeimgaaDoor.stripeTurns
