
/- LatchApart: the walk. -/
import Derived.Test.YtloendfkfginjaaLtP
namespace Go.Proofs.Ytloendfkfginjaa.latchApart
open Go.RowKit

def Keeps (w W : World) (la lb K N : Nat) : Prop := ∃ Fa Fb ha hb, Two w W la lb ha hb Fa Fb ∧ Ap ha hb K N

set_option maxRecDepth 100000 in
set_option maxHeartbeats 8000000 in
theorem walk (n : Int) (a0 : Option Addr) (len0 cap0 : Nat) (f : Nat → Nat → Int) (pk : Int) (w : World) (w0 : IsActs w a0 len0 cap0 f) (h0 : len0 ≤ 40) :
    Calls Try.prog 7 #[.int .i64 n, .slice a0 len0 cap0, .int .i64 pk] w fun e w' => e = .returned (.bool true) ∧ Nw w w' := by
  have k0 : ¬ (40 : Int) < (len0 : Int) := by omega
  have R0 := Lib.hid w0
  clear w0
  go_enter Try.func7, Try.ntmps7
  go_wp2_with fail
  refine (lives_ok _).mono ?_
  rintro e wl ⟨rfl, g0⟩
  have G0 := Lib.hid g0
  clear g0
  go_wp2_with fail
  obtain ⟨N, hN, n0, n1⟩ := pick16 n
  have hp0 : 0 ≤ n % 16 := Int.emod_nonneg _ (by omega)
  have hp1 : n % 16 < 16 := Int.emod_lt_of_pos _ (by omega)
  refine (pick_any n 16 _ (by omega) (by omega)).mono ?_
  rintro e wq ⟨rfl, rfl⟩
  generalize n % 16 = m at *
  go_wp2_with fail
  clear hN hp0 hp1
  refine (acc_new w wl G0.out N N rfl n0 n1).mono ?_
  rintro e wa ⟨la, Fa, rfl, ha, _, _⟩
  have HA := Lib.hid ha
  clear ha k0
  go_wp2_with fail
  refine (acc_new w wa HA.out.nw N N rfl n0 n1).mono ?_
  rintro e wb ⟨lb, Fb, rfl, hb, fb, nb⟩
  have H0 := Lib.hid (two_new HA.out hb nb fb)
  clear hb fb nb HA
  obtain ⟨K, hK, kN⟩ := pickN pk N n0
  go_wp2_with fail
  refine (pick_any pk N _ (by omega) (by omega)).mono ?_
  rintro e wq ⟨rfl, rfl⟩
  rw [hK]
  clear hK
  go_wp2
  go_loopw [11] (fun vi wr => ∃ k : Nat, vi = .int .i64 k ∧ k ≤ len0 ∧ Hid (Keeps w wr la lb K N)) (fun vi _ => len0 - (intOf vi).toNat)
  case atStart => exact ⟨0, rfl, Nat.zero_le _, Lib.hid ⟨_, _, _, _, H0.out, ap_start N K⟩⟩
  case round =>
    clear H0
    obtain ⟨k, rfl, hk, HK⟩ := hrel
    by_cases hlt : k < len0
    · obtain ⟨b, ob, rfl, hml, hbl, hcs⟩ := R0.out.at (by omega)
      obtain ⟨Fa, Fb, ha, hb, HS, hAp⟩ := HK.out
      have NN := HS.a.nw
      obtain ⟨c0, c1, c2⟩ := hcs k hlt
      replace c0 := (NN.cell hbl).trans c0
      replace c1 := (NN.cell hbl).trans c1
      replace c2 := (NN.cell hbl).trans c2
      generalize f k = g at *
      obtain ⟨kk, hkk, kb⟩ := pickN (g 1) N n0
      obtain ⟨tt, htt, tb⟩ := pick8 (g 2)
      have H := Lib.hid HS
      have AP := Lib.hid hAp
      have Q1 := Lib.hid hkk
      have Q2 := Lib.hid htt
      clear hcs NN HS HK hkk htt hAp
      go_wp2
      go_quiet (first | (go_at_call 18; (with_reducible exact pick_q (g 1) N kk Q1.out (by omega) (by omega) _ _)) | (go_at_call 18; (with_reducible exact pick_q (g 2) 8 tt Q2.out (by omega) (by omega) _ _)))
      go_wp2_with fail
      have hp0 : 0 ≤ g 0 % 3 := Int.emod_nonneg _ (by omega)
      have hp1 : g 0 % 3 < 3 := Int.emod_lt_of_pos _ (by omega)
      refine (pick_any (g 0) 3 _ (by omega) (by omega)).mono ?_
      rintro e wx ⟨rfl, hwx⟩
      replace H := Lib.hid (H.out.nw (show Nw wr wx from hwx ▸ (Nw.refl _).drewN _))
      clear hwx c0 c1 c2 Q1 Q2
      generalize g 0 % 3 = p at *
      have hp : p < 2 ∨ p = 2 := by omega
      rcases hp with hp | rfl
      · by_cases hat : kk = K
        · subst hat
          go_wp2_with fail
          refine (two_tryA H.out kk tt).mono ?_
          rintro e wy ⟨⟨B, E, rfl⟩, F2, p1⟩
          replace H := Lib.hid p1
          clear p1
          go_wp2_with fail
          refine (two_tryB H.out kk tt).mono ?_
          rintro e wz ⟨⟨B, E, rfl⟩, F3, p1⟩
          replace H := Lib.hid p1
          clear p1
          have AP2 := Lib.hid (AP.out.tryB (j := tt) kN tb)
          clear AP
          obtain ⟨⟨X, I⟩, hH⟩ : ∃ x, holdR (tryS ha kk tt) kk = x := ⟨_, rfl⟩
          have HA := Lib.hid hH
          have HB := Lib.hid (AP2.out.hold.trans hH)
          clear hH
          go_wp2_with fail
          refine (acc_holder H.out.a kk X I HA.out).mono ?_
          rintro e wq ⟨rfl, rfl⟩
          go_wp2_with fail
          refine (acc_holder H.out.b kk X I HB.out).mono ?_
          rintro e wq ⟨rfl, rfl⟩
          go_wp2
          go_roundw
          case rel => exact ⟨k + 1, by go_num, by omega, Lib.hid ⟨_, _, _, _, H.out, AP2.out⟩⟩
          case measure => simp [intOf]; omega
        · have b1 : (kk == K) = false := by simpa using hat
          have b2 : ((kk : Int) == (K : Int)) = false := by simp; omega
          go_wp2_with fail
          refine (two_tryA H.out kk tt).mono ?_
          rintro e wy ⟨⟨B, E, rfl⟩, F2, p1⟩
          replace H := Lib.hid p1
          clear p1
          have AP2 := Lib.hid (AP.out.tryA (j := tt) kb tb hat)
          clear AP
          obtain ⟨⟨X, I⟩, hH⟩ : ∃ x, holdR (tryS ha kk tt) K = x := ⟨_, rfl⟩
          have HA := Lib.hid hH
          have HB := Lib.hid (AP2.out.hold.trans hH)
          clear hH
          go_wp2_with fail
          refine (acc_holder H.out.a K X I HA.out).mono ?_
          rintro e wq ⟨rfl, rfl⟩
          go_wp2_with fail
          refine (acc_holder H.out.b K X I HB.out).mono ?_
          rintro e wq ⟨rfl, rfl⟩
          go_wp2
          go_roundw
          case rel => exact ⟨k + 1, by go_num, by omega, Lib.hid ⟨_, _, _, _, H.out, AP2.out⟩⟩
          case measure => simp [intOf]; omega
      · by_cases hat : kk = K
        · subst hat
          go_wp2_with fail
          refine (two_freeA H.out kk tt).mono ?_
          rintro e wy ⟨⟨E, rfl⟩, F2, p1⟩
          replace H := Lib.hid p1
          clear p1
          go_wp2_with fail
          refine (two_freeB H.out kk tt).mono ?_
          rintro e wz ⟨⟨E, rfl⟩, F3, p1⟩
          replace H := Lib.hid p1
          clear p1
          have AP2 := Lib.hid (AP.out.freeB (j := tt) kN tb)
          clear AP
          obtain ⟨⟨X, I⟩, hH⟩ : ∃ x, holdR (freeS ha kk tt) kk = x := ⟨_, rfl⟩
          have HA := Lib.hid hH
          have HB := Lib.hid (AP2.out.hold.trans hH)
          clear hH
          go_wp2_with fail
          refine (acc_holder H.out.a kk X I HA.out).mono ?_
          rintro e wq ⟨rfl, rfl⟩
          go_wp2_with fail
          refine (acc_holder H.out.b kk X I HB.out).mono ?_
          rintro e wq ⟨rfl, rfl⟩
          go_wp2
          go_roundw
          case rel => exact ⟨k + 1, by go_num, by omega, Lib.hid ⟨_, _, _, _, H.out, AP2.out⟩⟩
          case measure => simp [intOf]; omega
        · have b1 : (kk == K) = false := by simpa using hat
          have b2 : ((kk : Int) == (K : Int)) = false := by simp; omega
          go_wp2_with fail
          refine (two_freeA H.out kk tt).mono ?_
          rintro e wy ⟨⟨E, rfl⟩, F2, p1⟩
          replace H := Lib.hid p1
          clear p1
          have AP2 := Lib.hid (AP.out.freeA (j := tt) kb tb hat)
          clear AP
          obtain ⟨⟨X, I⟩, hH⟩ : ∃ x, holdR (freeS ha kk tt) K = x := ⟨_, rfl⟩
          have HA := Lib.hid hH
          have HB := Lib.hid (AP2.out.hold.trans hH)
          clear hH
          go_wp2_with fail
          refine (acc_holder H.out.a K X I HA.out).mono ?_
          rintro e wq ⟨rfl, rfl⟩
          go_wp2_with fail
          refine (acc_holder H.out.b K X I HB.out).mono ?_
          rintro e wq ⟨rfl, rfl⟩
          go_wp2
          go_roundw
          case rel => exact ⟨k + 1, by go_num, by omega, Lib.hid ⟨_, _, _, _, H.out, AP2.out⟩⟩
          case measure => simp [intOf]; omega
    · obtain ⟨Fa, Fb, ha, hb, HS, hAp⟩ := HK.out
      have H := Lib.hid HS
      have HL := Lib.hid hAp.la
      have h1 := hAp.one
      obtain ⟨C, hC⟩ : ∃ C, takL hb = C := ⟨_, rfl⟩
      rw [hC] at h1
      have CC := Lib.hid hC
      have d1 : decide ((C : Int) ≤ 1) = true := by simp; omega
      clear HK HS hC hAp
      go_wp2_with fail
      refine (acc_len H.out.a N HL.out).mono ?_
      rintro e wq ⟨rfl, rfl⟩
      go_wp2_with fail
      refine (acc_taken H.out.b C CC.out).mono ?_
      rintro e wq ⟨rfl, rfl⟩
      go_wp2
      go_ret
      exact ⟨rfl, H.out.a.nw⟩

set_option maxRecDepth 100000 in
theorem law_any (n : Int) (a0 : Option Addr) (len0 cap0 : Nat) (f : Nat → Nat → Int) (pk : Int) (w : World) (wn : (Lit.int .i64 n).wf = true) (w0 : IsActs w a0 len0 cap0 f) (wk : (Lit.int .i64 pk).wf = true) :
    Calls Try.prog 7 #[.int .i64 n, .slice a0 len0 cap0, .int .i64 pk] w fun e w' => e = .returned (.bool true) ∧ Nw w w' := by
  by_cases h : len0 ≤ 40
  · exact walk n a0 len0 cap0 f pk w w0 h
  · have k0 : (40 : Int) < (len0 : Int) := by omega
    clear w0
    go_enter Try.func7, Try.ntmps7
    go_wp2_with fail
    refine (lives_ok _).mono ?_
    rintro e w0 ⟨rfl, g0⟩
    have G0 := Lib.hid g0
    clear g0
    go_wp2
    go_ret
    exact ⟨rfl, G0.out⟩
end Go.Proofs.Ytloendfkfginjaa.latchApart
