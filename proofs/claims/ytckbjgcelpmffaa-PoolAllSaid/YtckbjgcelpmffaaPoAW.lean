
/- PoolAll: the walk. -/
import Derived.Test.YtckbjgcelpmffaaPoT
namespace Go.Proofs.Ytckbjgcelpmffaa.poolAll
open Go.RowKit
set_option linter.unusedVariables false

theorem upto_new (N : Nat) : List.replicate N false = upto 0 N := by simp [upto]
theorem rot_end (n t : Nat) : rotL n t n = upto 0 n := by
  apply List.ext_getElem
  · rw [rot_len, upto_len (Nat.zero_le _)]
  · intro k h1 h2
    rw [rot_full n t k h1, upto_at (Nat.zero_le _)]
    simp
theorem liv_none (n : Nat) : liv (upto 0 n) = 0 := by simp [upto, liv]
theorem take_up {k n : Nat} (h : k < n) : tkR (upto k n) = ((k : Int), 0) := by
  have e := fre_upto (Nat.le_of_lt h)
  unfold tkR
  rw [e, upto_len (Nat.le_of_lt h), if_pos h]
theorem full_up (n : Nat) : ¬ fre (upto n n) < (upto n n).length := by
  rw [fre_upto (Nat.le_refl _), upto_len (Nat.le_refl _)]
  exact Nat.lt_irrefl _
theorem rem_nat (i t n : Nat) (h : 0 < n) : Int.tmod ((i : Int) + (t : Int)) (n : Int) = (((i + t) % n : Nat) : Int) := by
  rw [Int.tmod_eq_emod_of_nonneg (by omega), Int.natCast_emod]
  rfl
theorem give_rot {n t i : Nat} (ht : t < n) (hi : i < n) : gvR (rotL n t i) (((i + t) % n : Nat) : Int) = 0 := by
  have h := rot_lent ht hi
  unfold gvR
  rw [if_pos]
  unfold hsL
  rw [Int.toNat_natCast, h, decide_eq_true (Int.natCast_nonneg _)]
  rfl
theorem range_at {n i : Nat} (h : i < n) : (castL (List.range n)).getD i 0 = (i : Int) := by simp [castL, List.getD, h]
set_option maxRecDepth 100000 in
set_option maxHeartbeats 8000000 in
theorem walk (m turn : Int) (w : World) :
    Calls Try.prog 6 #[.int .i64 m, .int .i64 turn] w fun e w' => e = .returned (.bool true) ∧ Nw w w' := by
  go_enter Try.func6, Try.ntmps6
  go_wp2_with fail
  refine (lives_ok _).mono ?_
  rintro e wl ⟨rfl, g0⟩
  have G0 := Lib.hid g0
  clear g0
  go_wp2_with fail
  refine (pick_any m 129 _ (by omega) (by omega)).mono ?_
  rintro e wq ⟨rfl, rfl⟩
  obtain ⟨N, hN, hNb⟩ := mod_in m 129 (by omega)
  have hN'' : m % 129 = (N : Int) := hN
  rw [hN'']
  clear hN hN''
  go_wp2_with fail
  refine (pacc_new w wl G0.out N N rfl (by omega)).mono ?_
  rintro e wa ⟨p, Fa, rfl, ha, _, _⟩
  rw [upto_new] at ha
  have HA := Lib.hid ha
  clear ha G0
  obtain ⟨t, ht⟩ : ∃ t : Nat, 0 < N → turn % (N : Int) = t ∧ t < N := by
    rcases Nat.eq_zero_or_pos N with h | h
    · exact ⟨0, fun q => by omega⟩
    · obtain ⟨t, h1, h2⟩ := mod_in turn N h
      exact ⟨t, fun _ => ⟨h1, h2⟩⟩
  have HTT := Lib.hid ht
  clear ht
  go_wp2
  go_loopw [7] (fun vi wr => ∃ r : Nat, vi = .int .i64 r ∧ r ≤ 2 ∧ Hid (∃ F, PAcc w wr p (upto 0 N) F)) (fun vi _ => 2 - (intOf vi).toNat)
  case atStart => exact ⟨0, rfl, by omega, Lib.hid ⟨_, HA.out⟩⟩
  case round =>
    clear HA
    obtain ⟨r, rfl, hr, HR⟩ := hrel
    generalize wr = w4 at *
    by_cases hrl : r < 2
    · have hri : (r : Int) < 2 := by omega
      have hrd : decide ((r : Int) < 2) = true := by simpa using hri
      have hrd2 : decide (r < 2) = true := by simpa using hrl
      go_wp2
      go_loopw [8] (fun vi wr => ∃ k : Nat, vi = .int .i64 k ∧ k ≤ N ∧ Hid (∃ F, PAcc w wr p (upto k N) F)) (fun vi _ => N - (intOf vi).toNat)
      case atStart => exact ⟨0, rfl, Nat.zero_le _, HR⟩
      case round =>
        clear HR
        obtain ⟨k, rfl, hk, HK⟩ := hrel
        by_cases hlt : k < N
        · obtain ⟨F, hP⟩ := HK.out
          have H := Lib.hid hP
          have hlti : (k : Int) < (N : Int) := by omega
          clear hP HK
          go_wp2_with fail
          refine (pacc_take H.out k 0 _ (take_up hlt) (tk_upto hlt)).mono ?_
          rintro e wy ⟨rfl, F2, p1, _, _⟩
          have H2 := Lib.hid (show ∃ F, PAcc w wy p (upto (k + 1) N) F from ⟨F2, p1⟩)
          clear p1 H
          go_wp2
          go_roundw
          case rel => exact ⟨k + 1, by go_num, by omega, H2⟩
          case measure => simp [intOf]; omega
        · obtain rfl : k = N := by omega
          obtain ⟨F, hP⟩ := HK.out
          have H := Lib.hid hP
          clear hP HK
          go_wp2_with fail
          refine (pacc_full H.out (full_up k)).mono ?_
          rintro e wy ⟨rfl, rfl⟩
          go_wp2_with fail
          refine (pacc_lent H.out (castL (List.range k)) (by rw [lnt_upto])).mono ?_
          rintro e w2 ⟨v, rfl, q1, q2, q3⟩
          have hR2 : PRw w2 v (castL (List.range k)) F := ⟨q1, fun k e q => by have := q2 k e; have := H.out.po.own k q; omega⟩
          have HW := Lib.hid hR2
          have H2 := Lib.hid (H.out.step q3)
          obtain ⟨ao, cp, rfl, hbox⟩ := q1.box
          rw [castL_range_len] at HW hbox ⊢
          have HB := Lib.hid hbox
          clear q1 q2 q3 hR2 H hbox
          go_wp2
          go_loopw [15] (fun vi wr => ∃ i : Nat, vi = .int .i64 i ∧ i ≤ k ∧ Hid (∃ F, PAcc w wr p (rotL k t i) F ∧ PRw wr (.slice ao k cp) (castL (List.range k)) F)) (fun vi _ => k - (intOf vi).toNat)
          case atStart => exact ⟨0, rfl, Nat.zero_le _, Lib.hid ⟨F, by rw [rot_zero]; exact H2.out, HW.out⟩⟩
          case round =>
            clear H2 HW
            obtain ⟨i, rfl, hi, HI⟩ := hrel
            obtain ⟨F3, hP, hW⟩ := HI.out
            by_cases hil : i < k
            · obtain ⟨g, rfl, _⟩ := HB.out (by omega)
              obtain ⟨e1, e2⟩ := HTT.out (by omega)
              have c0 := hW.1.cell i (by rw [castL_range_len]; exact hil)
              rw [range_at hil] at c0
              have HP := Lib.hid (And.intro hP hW)
              have hrem := rem_nat i t k (by omega)
              have hwr : IntKind.i64.wrap ((i : Int) + (t : Int)) = (i : Int) + (t : Int) := by rw [IntKind.wrap_i64] <;> omega
              have hz : ((k : Int) == 0) = false := by simp; omega
              have hml := Nat.mod_lt (i + t) (show 0 < k by omega)
              have hzd : decide ((k : Int) = 0) = false := by simp; omega
              have hwr2 : IntKind.i64.wrap ((((i + t) % k : Nat) : Int)) = (((i + t) % k : Nat) : Int) := by rw [IntKind.wrap_i64] <;> omega
              have HG := Lib.hid (And.intro (give_rot e2 hil) (rot_give e2 hil))
              have HE := Lib.hid e1
              have hili : (i : Int) < (k : Int) := by omega
              clear hP hW e1 HI
              go_wp2_with fail
              refine (pick_any turn k _ (by omega) (by omega)).mono ?_
              rintro e w5 ⟨rfl, rfl⟩
              rw [HE.out]
              go_wp2_with fail
              refine (pacc_give HP.out.1 (((i + t) % k : Nat) : Int) 0 _ HG.out.1 HG.out.2).mono ?_
              rintro e w6 ⟨rfl, F6, p6, f6, t6⟩
              have H6 := Lib.hid (show ∃ F, PAcc w w6 p (rotL k t (i + 1)) F ∧ PRw w6 (.slice (some ⟨g, 0, none⟩) k cp) (castL (List.range k)) F from ⟨F6, p6, HP.out.2.to t6 f6⟩)
              clear p6 f6 t6 HP HG HE hrem hwr hwr2 hz hzd c0
              go_wp2
              go_roundw
              case rel => exact ⟨i + 1, by go_num, by omega, H6⟩
              case measure => simp [intOf]; omega
            · obtain rfl : i = k := by omega
              rw [rot_end] at hP
              have HP := Lib.hid hP
              clear hP hW HI
              go_wp2_with fail
              refine (pacc_live HP.out 0 (liv_none _)).mono ?_
              rintro e w6 ⟨rfl, g6⟩
              have H6 := Lib.hid (show ∃ F, PAcc w w6 p (upto 0 i) F from ⟨_, HP.out.step g6⟩)
              clear g6 HP
              go_wp2
              go_roundw
              case rel => exact ⟨r + 1, by go_num, by omega, H6⟩
              case measure => simp [intOf]; omega
    · obtain rfl : r = 2 := by omega
      obtain ⟨F, hP⟩ := HR.out
      have H := Lib.hid hP.nw
      clear hP HR
      go_wp2
      go_ret
      exact ⟨rfl, H.out⟩
theorem law_any (m turn : Int) (w : World) (wn : (Lit.int .i64 m).wf = true) (wm : (Lit.int .i64 turn).wf = true) :
    Calls Try.prog 6 #[.int .i64 m, .int .i64 turn] w fun e w' => e = .returned (.bool true) ∧ Nw w w' := walk m turn w
end Go.Proofs.Ytckbjgcelpmffaa.poolAll
