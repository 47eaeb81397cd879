
/- LatchOne: the walk. -/
import Derived.Test.YtloendfkfginjaaLtO
namespace Go.Proofs.Ytloendfkfginjaa.latchOne
open Go.RowKit

def Keeps (w W : World) (l h N : Nat) : Prop := ∃ F hs, Ol w W l hs F h N hs
theorem wrp (z : Int) (h0 : -9223372036854775808 ≤ z) (h1 : z ≤ 9223372036854775807) : IntKind.i64.wrap z = z := by rw [IntKind.wrap_i64]; omega
theorem ne_b {a b : Int} (h : a ≠ b) : (a == b) = false := by simpa using h

set_option maxRecDepth 100000 in
set_option maxHeartbeats 8000000 in
theorem walk (n : Int) (a0 : Option Addr) (len0 cap0 : Nat) (f : Nat → Nat → Int) (w : World) (w0 : IsActs w a0 len0 cap0 f) (h0 : len0 ≤ 60) :
    Calls Try.prog 5 #[.int .i64 n, .slice a0 len0 cap0] w fun e w' => e = .returned (.bool true) ∧ Nw w w' := by
  have k0 : ¬ (60 : Int) < (len0 : Int) := by omega
  have R0 := Lib.hid w0
  clear w0
  go_enter Try.func5, Try.ntmps5
  go_wp2_with fail
  refine (lives_ok _).mono ?_
  rintro e wl ⟨rfl, g0⟩
  have G0 := Lib.hid g0
  clear g0
  go_wp2_with fail
  obtain ⟨N, hN, n0, n1⟩ := pick16 n
  have hp0 : 0 ≤ n % 16 := Int.emod_nonneg _ (by omega)
  have hp1 : n % 16 < 16 := Int.emod_lt_of_pos _ (by omega)
  refine (pick_any n 16 _ (by omega) (by omega)).mono ?_
  rintro e wq ⟨rfl, rfl⟩
  generalize n % 16 = m at *
  go_wp2_with fail
  clear hN hp0 hp1
  refine (acc_new w wl G0.out N N rfl n0 n1).mono ?_
  rintro e wa ⟨l, Fa, rfl, ha, na, fa⟩
  have HA := Lib.hid ha
  have km := fun w => mk_ints w N (by omega)
  have HM := Lib.hid (is_made wa N (by omega))
  clear ha na fa k0
  go_wp2
  clear km
  have H0 := Lib.hid (show Ol w (wa.alloc (.cells (Array.replicate N (.int .i64 0)) 3)) l (List.replicate N (-1)) Fa wa.heap.size N (List.replicate N (-1)) from
    ⟨HA.out.step ((Nw.refl _).alloc _), by rw [plus_new]; exact HM.out, HA.out.nw.sz, fun e => by have := HA.out.lat.own _ e; omega, by simp⟩)
  obtain ⟨h, hh⟩ : ∃ h, wa.heap.size = h := ⟨_, rfl⟩
  obtain ⟨wb, hwb⟩ : ∃ wb, wa.alloc (.cells (Array.replicate N (.int .i64 0)) 3) = wb := ⟨_, rfl⟩
  rw [hh, hwb] at H0
  rw [hh, hwb]
  clear hh hwb HM HA
  go_loopw [8] (fun vi wr => ∃ k : Nat, vi = .int .i64 k ∧ k ≤ len0 ∧ Hid (Keeps w wr l h N)) (fun vi _ => len0 - (intOf vi).toNat)
  case atStart => exact ⟨0, rfl, Nat.zero_le _, Lib.hid ⟨_, _, H0.out⟩⟩
  case round =>
    clear H0
    obtain ⟨k, rfl, hk, HK⟩ := hrel
    by_cases hlt : k < len0
    · obtain ⟨b, ob, rfl, hml, hbl, hcs⟩ := R0.out.at (by omega)
      obtain ⟨F, hs, HS⟩ := HK.out
      have NN := HS.a.nw
      obtain ⟨c0, c1, c2⟩ := hcs k hlt
      replace c0 := (NN.cell hbl).trans c0
      replace c1 := (NN.cell hbl).trans c1
      replace c2 := (NN.cell hbl).trans c2
      generalize f k = g at *
      obtain ⟨kk, hkk, kb⟩ := pickN (g 1) N n0
      obtain ⟨tt, htt, tb⟩ := pick8 (g 2)
      have H := Lib.hid HS
      have Q1 := Lib.hid hkk
      have Q2 := Lib.hid htt
      clear hcs NN HS HK hkk htt
      go_wp2
      go_quiet (first | (go_at_call 18; (with_reducible exact pick_q (g 1) N kk Q1.out (by omega) (by omega) _ _)) | (go_at_call 18; (with_reducible exact pick_q (g 2) 8 tt Q2.out (by omega) (by omega) _ _)))
      go_wp2_with fail
      have hp0 : 0 ≤ g 0 % 3 := Int.emod_nonneg _ (by omega)
      have hp1 : g 0 % 3 < 3 := Int.emod_lt_of_pos _ (by omega)
      refine (pick_any (g 0) 3 _ (by omega) (by omega)).mono ?_
      rintro e wx ⟨rfl, hwx⟩
      replace H := Lib.hid (H.out.nw (show Nw wr wx from hwx ▸ (Nw.refl _).drewN _))
      clear hwx c0 c1 c2 Q1 Q2
      have hsl := H.out.hN
      have hbd := H.out.a.vl.bd kk (by omega)
      have qk : Okl hs kk tt := ⟨by omega, by omega, by omega, by omega⟩
      generalize g 0 % 3 = p at *
      have hp : p < 2 ∨ p = 2 := by omega
      rcases hp with hp | rfl
      · by_cases x1 : ho hs kk = -1
        · have HT := Lib.hid (try_free qk x1)
          clear qk hbd
          go_wp2_with fail
          refine (ol_try H.out kk tt true 0 _ HT.out).mono ?_
          rintro e wy ⟨rfl, F2, p1⟩
          replace H := Lib.hid p1
          clear p1 HT
          obtain ⟨d0, d1, d2⟩ := H.out.facts kk kb hsl
          rw [x1] at d0
          have b1 : ((0 : Int) == (tt : Int) + 1) = false := ne_b (by omega)
          have HP := Lib.hid (H.out.put kk tt)
          clear x1
          go_wp2
          go_roundw
          case rel => exact ⟨k + 1, by go_num, by omega, Lib.hid ⟨_, _, HP.out⟩⟩
          case measure => simp [intOf]; omega
        · by_cases x2 : ho hs kk = tt
          · have HT := Lib.hid (try_own qk x2)
            clear qk hbd
            go_wp2_with fail
            refine (ol_try H.out kk tt false 4 _ HT.out).mono ?_
            rintro e wy ⟨rfl, F2, p1⟩
            replace H := Lib.hid p1
            clear p1 HT
            obtain ⟨d0, d1, d2⟩ := H.out.facts kk kb hsl
            rw [x2] at d0
            have b1 : ((tt : Int) + 1 == 0) = false := ne_b (by omega)
            clear x1 x2
            go_wp2
            go_roundw
            case rel => exact ⟨k + 1, by go_num, by omega, Lib.hid ⟨_, _, H.out⟩⟩
            case measure => simp [intOf]; omega
          · have HT := Lib.hid (try_other qk (by omega) x2)
            clear qk
            go_wp2_with fail
            refine (ol_try H.out kk tt false 0 _ HT.out).mono ?_
            rintro e wy ⟨rfl, F2, p1⟩
            replace H := Lib.hid p1
            clear p1 HT
            obtain ⟨d0, d1, d2⟩ := H.out.facts kk kb hsl
            generalize ho hs kk = x at *
            have b1 : (x + 1 == 0) = false := ne_b (by omega)
            have b2 : (x + 1 == (tt : Int) + 1) = false := ne_b (by omega)
            have b3 : (x == (tt : Int)) = false := ne_b x2
            go_wp2
            go_roundw
            case rel => exact ⟨k + 1, by go_num, by omega, Lib.hid ⟨_, _, H.out⟩⟩
            case measure => simp [intOf]; omega
      · by_cases x2 : ho hs kk = tt
        · have HT := Lib.hid (free_own qk x2)
          clear qk hbd
          go_wp2_with fail
          refine (ol_free H.out kk tt 0 _ HT.out).mono ?_
          rintro e wy ⟨rfl, F2, p1⟩
          replace H := Lib.hid p1
          clear p1 HT
          obtain ⟨d0, d1, d2⟩ := H.out.facts kk kb hsl
          rw [x2] at d0
          have HP := Lib.hid (H.out.put kk (-1))
          clear x2
          go_wp2
          go_roundw
          case rel => exact ⟨k + 1, by go_num, by omega, Lib.hid ⟨_, _, HP.out⟩⟩
          case measure => simp [intOf]; omega
        · have HT := Lib.hid (free_other qk x2)
          clear qk
          go_wp2_with fail
          refine (ol_free H.out kk tt 6 _ HT.out).mono ?_
          rintro e wy ⟨rfl, F2, p1⟩
          replace H := Lib.hid p1
          clear p1 HT
          obtain ⟨d0, d1, d2⟩ := H.out.facts kk kb hsl
          generalize ho hs kk = x at *
          have b2 : (x + 1 == (tt : Int) + 1) = false := ne_b (by omega)
          have b3 : (x == (tt : Int)) = false := ne_b x2
          go_wp2
          go_roundw
          case rel => exact ⟨k + 1, by go_num, by omega, Lib.hid ⟨_, _, H.out⟩⟩
          case measure => simp [intOf]; omega
    · obtain ⟨F, hs, HS⟩ := HK.out
      have HD := Lib.hid HS
      obtain rfl : k = len0 := by omega
      clear HK HS hlt hk R0
      go_wp2
      go_loopw [14, 15] (fun vs vt wt => ∃ T : Nat, vt = .int .i64 T ∧ T ≤ 8 ∧ vs = .int .i64 (cnt hs T N) ∧ Hid (Ol w wt l hs F h N hs)) (fun _ vt _ => 8 - (intOf vt).toNat)
      case atStart => exact ⟨0, rfl, Nat.zero_le _, by rw [cnt_zero]; rfl, HD⟩
      case round =>
        clear HD
        obtain ⟨T, rfl, hT, rfl, H⟩ := hrel
        by_cases hlt : T < 8
        · go_wp2_with fail
          refine (acc_held H.out.a T _ rfl).mono ?_
          rintro e wh ⟨v, rfl, p1, _, p3⟩
          replace H := Lib.hid (H.out.nw p3)
          have HI := Lib.hid p1
          have HZ := Lib.hid (show heldL hs T = heldT hs T N by unfold heldL; rw [H.out.hN])
          rw [HZ.out] at HI
          clear p1 p3 HZ
          have hs1 := cnt_succ hs T N
          have hc1 := cnt_le hs T N
          have hc2 := heldT_len hs T N
          have HMm := Lib.hid (heldT_mem hs T N)
          have HLt := Lib.hid (heldT_lt hs T N)
          obtain ⟨ao, cap, rfl, hao⟩ := HI.out.box
          generalize heldT hs T N = zs at *
          obtain ⟨M, hM⟩ : ∃ M, zs.length = M := ⟨_, rfl⟩
          rw [hM] at hs1 hc2 HMm HLt hao HI ⊢
          generalize cnt hs T N = C at *
          go_wp2
          go_loopw [17] (fun vi wi => ∃ i : Nat, vi = .int .i64 i ∧ i ≤ M ∧ Hid (Ol w wi l hs F h N hs) ∧ Hid (IS wi (.slice ao M cap) zs)) (fun vi _ => M - (intOf vi).toNat)
          case atStart => exact ⟨0, rfl, Nat.zero_le _, H, HI⟩
          case round =>
            clear H HI
            obtain ⟨i, rfl, hi, H, HI⟩ := hrel
            by_cases hlj : i < M
            · obtain ⟨gm, rfl, _⟩ := hao (by omega)
              obtain ⟨j, z1, z2, z3, z4⟩ := HMm.out i hlj
              have e1 := HI.out.cell i (by omega)
              rw [z1] at e1
              obtain ⟨e2, _, _⟩ := H.out.facts j z2 H.out.hN
              rw [z4] at e2
              have q1 : decide ((j : Int) < 0) = false := by simp
              have q2 : decide (N ≤ j) = false := by simp; omega
              have q4 : IntKind.i64.wrap ((T : Int) + 1) = (T : Int) + 1 := wrp _ (by omega) (by omega)
              clear z3 z4
              have hz : i = 0 ∨ 0 < i := by omega
              rcases hz with rfl | hz
              · go_wp2
                go_quiet (fail)
                go_wp2
                go_roundw
                case rel => exact ⟨0 + 1, by go_num, by omega, Lib.hid (H.out.nw ((Nw.refl _).drewN _)), Lib.hid (HI.out.nw ((Nw.refl _).drewN _))⟩
                case measure => simp [intOf]; omega
              · obtain ⟨i', hi'⟩ : ∃ i', i = i' + 1 := ⟨i - 1, by omega⟩
                have hlq : i' < M := by omega
                have q5 : IntKind.i64.wrap ((i : Int) - 1) = (i' : Int) := by rw [hi']; exact (wrp _ (by omega) (by omega)).trans (by omega)
                have q6 : decide (0 < i) = true := by simp; omega
                obtain ⟨j', y1, y2, _, _⟩ := HMm.out i' (by omega)
                have e3 := HI.out.cell i' (by omega)
                rw [y1] at e3
                have lt := HLt.out i' (hi' ▸ hlj)
                rw [y1, ← hi', z1] at lt
                have q3 : decide (j ≤ j') = false := by simp; omega
                clear y1 z1 lt hi'
                go_wp2
                go_quiet (fail)
                go_wp2
                go_roundw
                case rel => exact ⟨i + 1, by go_num, by omega, Lib.hid (H.out.nw ((Nw.refl _).drewN _)), Lib.hid (HI.out.nw ((Nw.refl _).drewN _))⟩
                case measure => simp [intOf]; omega
            · go_wp2
              go_roundw
              case rel => exact ⟨T + 1, by go_num, by omega, by rw [hs1]; go_num, H⟩
              case measure => simp [intOf]; omega
        · obtain rfl : T = 8 := by omega
          have HC := Lib.hid (show cnt hs 8 N = takL hs by have := cnt_all H.out.a.vl; rwa [H.out.hN] at this)
          rw [HC.out]
          have HT := Lib.hid (takT_succ hs)
          have HE := Lib.hid (takT_le hs)
          have HZ := Lib.hid (show takT hs 0 = 0 from rfl)
          have HL := Lib.hid (show takL hs = takT hs N by unfold takL; rw [H.out.hN])
          have HB := Lib.hid (show ∀ k, takB hs k = decide (0 ≤ ho hs k) from fun _ => rfl)
          have HF := Lib.hid (fun i hi => (H.out.facts i hi H.out.hN).1)
          have HK := Lib.hid (acc_taken H.out.a _ HL.out)
          have HW := Lib.hid H.out.a.nw
          rw [HL.out]
          clear H HC HL hlt hT
          generalize takT hs = T at *
          go_wp2
          go_loopw [18, 19] (fun vn vi wi => ∃ i : Nat, vi = .int .i64 i ∧ i ≤ N ∧ vn = .int .i64 (T i) ∧ wr = wi) (fun _ vi _ => N - (intOf vi).toNat)
          case atStart => exact ⟨0, rfl, Nat.zero_le _, by rw [HZ.out]; rfl, rfl⟩
          case round =>
            obtain ⟨i, rfl, hi, rfl, rfl⟩ := hrel
            by_cases hlj : i < N
            · have hb := HE.out i
              have hs1 := HT.out i
              have hB := HB.out i
              have c := HF.out i hlj
              generalize ho hs i = x at *
              by_cases x0 : 0 ≤ x
              · rw [decide_eq_true x0] at hB
                rw [hB] at hs1
                simp only [if_true] at hs1
                have e3 : decide (0 < x + 1) = true := by simp; omega
                clear hB
                go_wp2
                go_roundw
                case rel => exact ⟨i + 1, by go_num, by omega, by rw [hs1]; go_num, trivial⟩
                case measure => simp [intOf]; omega
              · rw [decide_eq_false x0] at hB
                rw [hB] at hs1
                simp only [Bool.false_eq_true, if_false] at hs1
                have e3 : decide (0 < x + 1) = false := by simp; omega
                clear hB
                go_wp2
                go_roundw
                case rel => exact ⟨i + 1, by go_num, by omega, by rw [hs1], trivial⟩
                case measure => simp [intOf]; omega
            · obtain rfl : i = N := by omega
              go_wp2_with fail
              refine HK.out.mono ?_
              rintro e wz ⟨rfl, rfl⟩
              go_wp2
              go_ret
              exact ⟨rfl, HW.out⟩

set_option maxRecDepth 100000 in
theorem law_any (n : Int) (a0 : Option Addr) (len0 cap0 : Nat) (f : Nat → Nat → Int) (w : World) (wn : (Lit.int .i64 n).wf = true) (w0 : IsActs w a0 len0 cap0 f) :
    Calls Try.prog 5 #[.int .i64 n, .slice a0 len0 cap0] w fun e w' => e = .returned (.bool true) ∧ Nw w w' := by
  by_cases h : len0 ≤ 60
  · exact walk n a0 len0 cap0 f w w0 h
  · have k0 : (60 : Int) < (len0 : Int) := by omega
    clear w0
    go_enter Try.func5, Try.ntmps5
    go_wp2_with fail
    refine (lives_ok _).mono ?_
    rintro e w0 ⟨rfl, g0⟩
    have G0 := Lib.hid g0
    clear g0
    go_wp2
    go_ret
    exact ⟨rfl, G0.out⟩
end Go.Proofs.Ytloendfkfginjaa.latchOne
