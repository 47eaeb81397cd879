
/- The walk of StripeAll. -/
import Derived.Test.YtcffpbikjeimgaaDoorStripeC
namespace Go.Proofs.YtcffpbikjeimgaaDoor.stripeAll
open Go.ChangeShapes Go.WideShapes Go.ChangeAt Go.RowKit
set_option linter.unusedVariables false      -- a walk need not use every fact
theorem spread_nat (v : Value) (zs : List (Int × Int)) (N : Nat) (w : World) (hv : Names w v zs) (hl : zs.length ≤ 1000) (h0 : 1 ≤ N) (h1 : N ≤ 16) :
    Calls Tryd.prog 13 #[v, .int .i64 N] w fun e w' => ∃ b, e = .returned (.slice (some ⟨b, 0, none⟩) N N) ∧ ICells w' b 0 (cnts zs N) ∧ w.heap.size ≤ b ∧ Nw w w' := by
  refine (spread_any v zs N w hv hl h0 h1).mono fun e w' ⟨b, he, h⟩ => ?_
  rw [show (cnts zs N).length = N by rw [cnts_len]; simp] at he
  exact ⟨b, he, h⟩
theorem part_sum (l : List (Int × Int)) (n : Int) (hl : l.length ≤ 1000) : ∀ k ≤ (cnts l n).length, 0 ≤ ((cnts l n).take k).sum ∧ ((cnts l n).take k).sum ≤ 1000 * k := by
  intro k
  induction k with
  | zero => intro _; simp
  | succ k ih =>
    intro h
    have := ih (by omega)
    have hb := cnts_bound l n k
    rw [sum_take _ k (by omega)]
    omega
theorem Names.at {w : World} {a : Option Addr} {n c : Nat} {zs : List (Int × Int)} (h : Names w (.slice a n c) zs) : zs.length = n ∧ (0 < n → ∃ b o, a = some ⟨b, o, none⟩ ∧ NCells w b o zs) := by
  obtain ⟨a', c', e, h⟩ := h
  injection e with e1 e2 e3
  subst e1; subst e2
  refine ⟨rfl, fun h0 => ?_⟩
  rcases h with ⟨rfl, _⟩ | h
  · simp at h0
  · exact h


set_option maxHeartbeats 2000000 in
theorem walk_some (a : Option Addr) (n c : Nat) (zs : List (Int × Int)) (x : Int) (m : Int) (N : Nat) (w : World) (hv : Names w (.slice a n c) zs) (hn : n ≤ 100) (hm : x % 16 = m) (hm0 : 0 ≤ m) (hm1 : m < 16) (hN : 1 + m = (N : Int)) :
    Calls Tryd.prog 5 #[.slice a n c, .int .i64 x] w fun e w' => e = .returned (.bool true) ∧ Nw w w' := by
  have hn' : (n : Int) ≤ 100 := by omega
  have hz : zs.length = n := (Names.at hv).1
  have HN := Lib.hid hN
  have HP := Lib.hid (fun w => (hm ▸ pick_any x 16 w (by decide) (by decide) : Calls Tryd.prog 21 #[.int .i64 x, .int .i64 16] w fun e w' => e = .returned (.int .i64 m) ∧ w = w'))
  have b1 : 1 ≤ N := by omega
  have b2 : N ≤ 16 := by omega
  have HL := Lib.hid (fun k => cnts_len (zs.take k) N)
  have HC := Lib.hid (show (cnts zs N).length = N by rw [cnts_len]; simp)
  have HZ := Lib.hid hz
  clear hN hm hz
  go_enter Tryd.func5, Tryd.ntmps5
  go_wp2_with fail
  refine (lives_ok _).mono ?_
  rintro e w1 ⟨rfl, g1⟩
  go_wp2_with fail
  refine (HP.out _).mono ?_
  rintro e w2 ⟨rfl, rfl⟩
  go_wp2_with fail
  rw [HN.out]
  clear hm0 hm1 HP
  refine (spread_nat _ zs N _ (hv.grown g1) (by rw [HZ.out]; omega) b1 b2).mono ?_
  rintro e w3 ⟨b, rfl, hI, hb, g3⟩
  have hG := g1.trans g3
  have hv3 := hv.grown hG
  have km := fun w => mk_ints w N (by omega)
  clear hb g3 HN
  go_wp2
  go_loopw [6, 9] (fun s i wr => ∃ k : Nat, k ≤ n ∧ i = .int .i64 k ∧ s = .int .i64 (vals (zs.take k)) ∧ ICells wr w3.heap.size 0 (cnts (zs.take k) N) ∧ Fz wr w3.heap.size ∧ Nw w3 wr) (fun _ i _ => n - (intOf i).toNat)
  case atStart => exact ⟨0, Nat.zero_le _, rfl, rfl, icells_new w3 N _, fz_new _ _ _, (Nw.refl _).alloc _⟩
  case round =>
    obtain ⟨k, hk, rfl, rfl, hI1, hF, hG1⟩ := hrel
    clear km
    by_cases h : k < n
    · obtain ⟨hz, hat⟩ := Names.at (hv3.grown hG1)
      obtain ⟨bb, oo, rfl, hnc⟩ := hat (by omega)
      have hkz : k < zs.length := by omega
      obtain ⟨c0, c1⟩ := hnc.2 k hkz
      have E : Hid (cnts (zs.take (k + 1)) N = bump (cnts (zs.take k) N) (ofS zs[k].1 zs[k].2 N)) := by rw [ptake_snoc zs k hkz]; exact cnts_snoc _ _ _
      have EV : Hid (vals (zs.take (k + 1)) = vals (zs.take k) + if lvl zs[k].1 zs[k].2 = -1 then 0 else 1) := by rw [ptake_snoc zs k hkz]; exact vals_snoc _ _
      have hvl := vals_le (zs.take k)
      have hvl2 : (zs.take k).length ≤ 1000 := by rw [List.length_take]; omega
      have hb2 : ((zs.take k).length : Int) ≤ 1000 := by omega
      have hvb : vals (zs.take k) ≤ 1000 := by omega
      have hb := fun i => cnts_bound (zs.take k) N i
      have hlen := HL.out k
      have HA := Lib.hid hnc
      generalize cnts (zs.take k) N = C at *
      generalize vals (zs.take k) = V at *
      generalize zs[k].1 = t at *
      generalize zs[k].2 = r at *
      have HB := Lib.hid hb
      clear hb hvl hvl2 hat hnc hv hv3
      by_cases hl : lvl t r = -1
      · have HO := Lib.hid (fun w => (ofS_bad t r N hl ▸ of_any t r N w : Calls Tryd.prog 11 #[.agg #[.int .i64 t, .int .i64 r], .int .i64 N] w fun e w' => e = .returned (.int .i64 (-1)) ∧ Nw w w'))
        have HK := Lib.hid (fun w => refCheck_no t r w hl)
        have E2 : Hid (cnts (zs.take (k + 1)) N = C) := by rw [E.out, ofS_bad t r N hl]; exact bump_none _
        have EV2 : Hid (vals (zs.take (k + 1)) = V) := by rw [EV.out, if_pos hl]; rfl
        clear hl E EV
        go_wp2_with fail
        refine (HO.out _).mono ?_
        rintro e w4 ⟨rfl, g4⟩
        replace c0 := g4.keep c0
        replace c1 := g4.keep c1
        go_wp2_with fail
        refine (HK.out _).mono ?_
        rintro e w5 ⟨rfl, g5⟩
        have hG2 := g4.trans g5
        clear c0 c1
        go_wp2
        go_roundw
        case rel => exact ⟨k + 1, by omega, by go_num, by rw [EV2.out], by rw [E2.out]; exact hI1.grown hG2, hF.grown hI1.1 hG2, hG1.trans hG2⟩
        case measure => simp [intOf]; omega
      · have m0 : 0 ≤ hsh t r % N := Int.emod_nonneg _ (by omega)
        have m1 : hsh t r % N < N := Int.emod_lt_of_pos _ (by omega)
        have e1 := ofS_yes t r N (by omega) (by omega) hl
        have HO := Lib.hid (fun w => (e1 ▸ of_any t r N w : Calls Tryd.prog 11 #[.agg #[.int .i64 t, .int .i64 r], .int .i64 N] w fun e w' => e = .returned (.int .i64 (hsh t r % N)) ∧ Nw w w'))
        have HK := Lib.hid (fun w => refCheck_ok t r w hl)
        rw [e1] at E
        generalize hsh t r % N = q at *
        obtain ⟨j, rfl⟩ := Int.eq_ofNat_of_zero_le m0
        have E2 : Hid (cnts (zs.take (k + 1)) N = C.set j (C.getD j 0 + 1)) := by rw [E.out]; exact bump_some _ _ m0
        have EV2 : Hid ((vals (zs.take (k + 1)) : Int) = V + 1) := by rw [EV.out, if_neg hl]; rfl
        have hj : j < C.length := by rw [hlen]; omega
        have hjN : j < N := by omega
        obtain ⟨d0, d1⟩ := HB.out j
        have nn : ¬ (N : Int) ≤ (j : Int) := by omega
        clear hl E EV e1
        go_wp2_with fail
        refine (HO.out _).mono ?_
        rintro e w4 ⟨rfl, g4⟩
        replace c0 := g4.keep c0
        replace c1 := g4.keep c1
        go_wp2_with fail
        refine (HK.out _).mono ?_
        rintro e w5 ⟨rfl, g5⟩
        have hG2 := g4.trans g5
        have hI2 := hI1.grown hG2
        have hF2 := hF.grown hI1.1 hG2
        have hcell := hI2.2 j hj
        rw [Nat.zero_add] at hcell
        have hfj := hF2 j
        have hI3 := hI2.set j hj (C.getD j 0 + 1)
        have hG3 : Nw w3 (w5.setCell ⟨w3.heap.size, j, none⟩ (.int .i64 (C.getD j 0 + 1))) := (hG1.trans hG2).set (Nat.le_refl _) _
        generalize C.getD j 0 = y at *
        clear c0 c1
        go_wp2
        go_roundw
        case rel => exact ⟨k + 1, by omega, by go_num, by rw [EV2.out], by rw [E2.out]; exact hI3, hF2.set _ _, hG3⟩
        case measure => simp [intOf]; omega
    · have hk' : k = zs.length := by rw [HZ.out]; omega
      rw [hk', List.take_length] at hI1 ⊢
      have hI2 := hI.grown hG1
      have hGG := hG.trans hG1
      have HPS := Lib.hid (part_sum zs N (by rw [HZ.out]; omega))
      have HS := Lib.hid (cnts_sum zs N (by omega) (by omega))
      clear hv hv3 hI HL hF
      generalize vals zs = V at *
      have hlz : zs.length ≤ 1000 := by rw [HZ.out]; omega
      have HBD := Lib.hid (fun i => cnts_bound zs N i)
      generalize cnts zs N = C at *
      go_wp2
      go_loop [7, 11] (fun s i => ∃ k : Nat, k ≤ N ∧ i = .int .i64 k ∧ s = .int .i64 (C.take k).sum) (fun _ i => N - (intOf i).toNat)
      case atStart => exact ⟨0, Nat.zero_le _, rfl, rfl⟩
      case round =>
        obtain ⟨j, hj, rfl, rfl⟩ := hrel
        by_cases h2 : j < N
        · have hjC : j < C.length := by rw [HC.out]; exact h2
          have hcell := hI2.2 j hjC
          rw [Nat.zero_add] at hcell
          obtain ⟨p0, p1⟩ := HPS.out j (by omega)
          obtain ⟨d0, d1⟩ := HBD.out j
          have p2 : (C.take j).sum ≤ 16000 := by omega
          have d2 : C.getD j 0 ≤ 1000 := by omega
          have ES := Lib.hid (sum_take C j hjC)
          generalize C.getD j 0 = y at *
          generalize (C.take j).sum = s at *
          clear p1 d1
          go_wp2
          go_round
          case rel => exact ⟨j + 1, by omega, by go_num, by rw [ES.out]⟩
          case measure => simp [intOf]; omega
        · have hj' : j = C.length := by rw [HC.out]; omega
          have ht : (C.take j).sum = V := by rw [hj', List.take_length]; exact HS.out
          rw [ht]
          clear ht hj'
          go_wp2_with fail
          refine (show Calls Tryd.prog 14 #[.slice (some ⟨b, 0, none⟩) N N, .slice (some ⟨w3.heap.size, 0, none⟩) N N] wr fun e w' => e = .returned (.bool true) ∧ Nw wr w' by
            have := same_ints b 0 N w3.heap.size 0 N C wr hI2 hI1 (by rw [HC.out]; omega)
            rwa [HC.out] at this).mono ?_
          rintro e w6 ⟨rfl, g6⟩
          go_wp2
          go_ret
          exact ⟨rfl, hGG.trans g6⟩
theorem walk_far (a : Option Addr) (n c : Nat) (x : Int) (w : World) (hn : ¬ n ≤ 100) (hm : n ≤ maxLen) :
    Calls Tryd.prog 5 #[.slice a n c, .int .i64 x] w fun e w' => e = .returned (.bool true) ∧ Nw w w' := by
  have hn' : (100 : Int) < n := by omega
  go_enter Tryd.func5, Tryd.ntmps5
  go_wp2_with fail
  refine (lives_ok _).mono ?_
  rintro e w1 ⟨rfl, g1⟩
  go_wp2
  go_ret
  exact ⟨rfl, g1⟩
theorem walk {w0 : World} (a : Option Addr) (n c : Nat) (zs : List (Int × Int)) (x : Int) (hz : zs.length = n) (hc : n ≤ c) (hm : c ≤ maxLen) (hv : Names w0 (.slice a n c) zs) (wx : (Lit.int .i64 x).wf = true) (w : World) (hw : w0 = w) :
    Calls Tryd.prog 5 #[.slice a n c, .int .i64 x] w fun e w' => e = .returned (.bool true) ∧ Nw w w' := by
  subst hw
  by_cases hn : n ≤ 100
  · exact walk_some a n c zs x (x % 16) (1 + x % 16).toNat _ hv hn rfl (by omega) (by omega) (by omega)
  · exact walk_far a n c x _ hn (by omega)
end Go.Proofs.YtcffpbikjeimgaaDoor.stripeAll
