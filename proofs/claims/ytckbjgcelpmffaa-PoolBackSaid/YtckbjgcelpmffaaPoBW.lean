
/- PoolBack: the walk. -/
import Derived.Test.YtckbjgcelpmffaaPoT
namespace Go.Proofs.Ytckbjgcelpmffaa.poolBack
open Go.RowKit
set_option linter.unusedVariables false

def Keeps (w W : World) (p N : Nat) : Prop := ∃ F L, PAcc w W p L F ∧ L.length = N
theorem lnt_at (L : List Bool) (j : Nat) (hj : j < liv L) : ∃ n : Nat, (castL (lnt L)).getD j 0 = n ∧ ∃ hn : n < L.length, L[n] = true := by
  have hl : j < (lnt L).length := by rw [liv_lnt]; exact hj
  refine ⟨(lnt L)[j], ?_, (lnt_mem L _).1 (List.getElem_mem hl)⟩
  simp [castL, List.getD, hl]
theorem same_back {L : List Bool} {n : Nat} (h : n < L.length) (e : L[n] = true) : decide (castL (lnt (tkL (L.set n false))) = castL (lnt L)) = decide ((fre (L.set n false) : Int) = (n : Int)) := by
  refine decide_eq_decide.2 ⟨fun q => ?_, fun q => ?_⟩
  · have := (back_same L n h e).1 (cast_inj q); omega
  · rw [(back_same L n h e).2 (by omega)]
set_option maxRecDepth 100000 in
set_option maxHeartbeats 8000000 in
theorem walk (m : Int) (a1 : Option Addr) (len1 cap1 : Nat) (z1 : List Int) (which : Int) (w : World) (w1 : IsNum w a1 len1 cap1 z1) (h0 : len1 ≤ 80) :
    Calls Try.prog 7 #[.int .i64 m, .slice a1 len1 cap1, .int .i64 which] w fun e w' => e = .returned (.bool true) ∧ Nw w w' := by
  have k0 : ¬ (80 : Int) < (len1 : Int) := by omega
  have R0 := Lib.hid w1
  clear w1
  go_enter Try.func7, Try.ntmps7
  go_wp2_with fail
  refine (lives_ok _).mono ?_
  rintro e wl ⟨rfl, g0⟩
  have G0 := Lib.hid g0
  clear g0
  go_wp2_with fail
  refine (pick_any m 40 _ (by omega) (by omega)).mono ?_
  rintro e wq ⟨rfl, rfl⟩
  obtain ⟨N', hN', hNb⟩ := mod_in m 40 (by omega)
  have hN'' : m % 40 = (N' : Int) := hN'
  rw [hN'']
  clear hN' hN''
  obtain ⟨N, hN⟩ : ∃ N, N = N' + 1 := ⟨_, rfl⟩
  have hNi : (1 : Int) + (N' : Int) = (N : Int) := by omega
  have hNw : IntKind.i64.wrap (1 + (N' : Int)) = (N : Int) := by rw [IntKind.wrap_i64] <;> omega
  have hNb1 : 1 ≤ N := by omega
  have hNb2 : N ≤ 40 := by omega
  clear hN hNb
  go_wp2_with fail
  refine (pacc_new w wl G0.out N N rfl (by omega)).mono ?_
  rintro e wa ⟨p, Fa, rfl, ha, _, _⟩
  have HA := Lib.hid ha
  clear ha k0 hNi hNw
  go_wp2
  go_loopw [9] (fun vi wr => ∃ k : Nat, vi = .int .i64 k ∧ k ≤ len1 ∧ Hid (Keeps w wr p N)) (fun vi _ => len1 - (intOf vi).toNat)
  case atStart => exact ⟨0, rfl, Nat.zero_le _, Lib.hid ⟨_, _, HA.out, by simp⟩⟩
  case round =>
    clear HA
    obtain ⟨k, rfl, hk, HK⟩ := hrel
    obtain ⟨F, L, hP, hL⟩ := HK.out
    by_cases hlt : k < len1
    · obtain ⟨b, ob, rfl, hml, hbl, hcs, hwf⟩ := R0.out.at (by omega)
      have c0 := (hP.nw.cell hbl).trans (hcs k hlt)
      have H := Lib.hid hP
      have HL := Lib.hid hL
      clear hcs hwf hP hL HK
      generalize z1.getD k 0 = x at *
      by_cases hx : x < 0
      · obtain ⟨⟨y, E⟩, hR⟩ : ∃ q, tkR L = q := ⟨_, rfl⟩
        have HR := Lib.hid hR
        clear hR
        go_wp2_with fail
        refine (pacc_take H.out y E _ HR.out rfl).mono ?_
        rintro e wy ⟨rfl, F2, p1, _, _⟩
        have H2 := Lib.hid (show Keeps w wy p N from ⟨F2, _, p1, by rw [tkL_len]; exact HL.out⟩)
        clear p1 HR H HL
        go_wp2
        go_roundw
        case rel => exact ⟨k + 1, by go_num, by omega, H2⟩
        case measure => simp [intOf]; omega
      · obtain ⟨E, hR⟩ : ∃ q, gvR L x = q := ⟨_, rfl⟩
        have HR := Lib.hid hR
        clear hR
        go_wp2_with fail
        refine (pacc_give H.out x E _ HR.out rfl).mono ?_
        rintro e wy ⟨rfl, F2, p1, _, _⟩
        have H2 := Lib.hid (show Keeps w wy p N from ⟨F2, _, p1, by rw [gvL_len]; exact HL.out⟩)
        clear p1 HR H HL
        go_wp2
        go_roundw
        case rel => exact ⟨k + 1, by go_num, by omega, H2⟩
        case measure => simp [intOf]; omega
    · obtain rfl : k = len1 := by omega
      have H := Lib.hid hP
      have hlen : (castL (lnt L)).length = liv L := by rw [castL_len, liv_lnt]
      have hlv : liv L ≤ 40 := by have := liv_le L; omega
      have HL := Lib.hid hL
      clear hP hL HK
      go_wp2_with fail
      refine (pacc_lent H.out _ rfl).mono ?_
      rintro e w2 ⟨v, rfl, q1, q2, q3⟩
      have hR2 : PRw w2 v (castL (lnt L)) F := ⟨q1, fun k e q => by have := q2 k e; have := H.out.po.own k q; omega⟩
      have HR := Lib.hid hR2
      have H2 := Lib.hid (H.out.step q3)
      obtain ⟨ao, cp, rfl, hbox⟩ := q1.box
      rw [hlen]
      have HB := Lib.hid hbox
      clear q2 q3 hR2 H hbox
      rcases Nat.eq_zero_or_pos (liv L) with hz | hpos
      · rw [hz]
        clear q1 hlen hlv
        go_wp2_with fail
        refine (pacc_live H2.out 0 hz).mono ?_
        rintro e w3 ⟨rfl, g3⟩
        have G3 := Lib.hid (H2.out.nw.trans g3)
        clear g3 hz
        go_wp2
        go_ret
        exact ⟨rfl, G3.out⟩
      · obtain ⟨j, hj, hjl⟩ := mod_in which (liv L) hpos
        obtain ⟨n, hn, hnl, hnt⟩ := lnt_at L j hjl
        obtain ⟨g, rfl, _⟩ := HB.out (by omega)
        have c0 := q1.cell j (by omega)
        rw [hn] at c0
        have HJ := Lib.hid hj
        have HX := Lib.hid (And.intro hnl hnt)
        obtain ⟨K, hK⟩ : ∃ K, liv L = K := ⟨_, rfl⟩
        have HK2 := Lib.hid hK
        rw [hlen] at HR
        rw [hK] at hlv hpos hjl hj HR HJ ⊢
        clear q1 hn hj HB hK hlen
        have hKz : decide (K = 0) = false := by simp; omega
        have hKz2 : ((K : Int) == 0) = false := by simp; omega
        have hjK : (j : Int) < (K : Int) := by omega
        go_wp2_with fail
        refine (pick_any which K _ (by omega) (by omega)).mono ?_
        rintro e w3 ⟨rfl, rfl⟩
        rw [HJ.out]
        go_wp2_with fail
        have hv := liv_set L n HX.out.1 false
        rw [HX.out.2] at hv
        simp only [if_true, Bool.false_eq_true, if_false] at hv
        refine (pacc_give H2.out n 0 (L.set n false) (by simp [gvR, hsL_nat HX.out.1, HX.out.2]) (gvL_nat L n (by rw [getD_at HX.out.1]; exact HX.out.2))).mono ?_
        rintro e w4 ⟨rfl, F4, p4, f4, t4⟩
        have H4 := Lib.hid p4
        have HR4 := Lib.hid (HR.out.to t4 f4)
        have HV := Lib.hid (show liv (L.set n false) = K - 1 by have := HK2.out; omega)
        clear p4 f4 t4 H2 HR hv c0
        go_wp2_with fail
        refine (pacc_has H4.out n false (by rw [hsL_nat (by rw [List.length_set]; exact HX.out.1)]; simp)).mono ?_
        rintro e w5 ⟨rfl, rfl⟩
        go_wp2_with fail
        refine (pacc_live H4.out (K - 1) HV.out).mono ?_
        rintro e w6 ⟨rfl, g6⟩
        have H6 := Lib.hid (H4.out.step g6)
        have HR6 := Lib.hid (HR4.out.nw g6)
        have hKm : ((K - 1 : Nat) : Int) = (K : Int) - 1 := by omega
        rw [hKm]
        clear g6 H4 HR4 hKm
        obtain ⟨b1, b2⟩ := back_le L n HX.out.1 HX.out.2
        obtain ⟨y, hy⟩ : ∃ y, fre (L.set n false) = y := ⟨_, rfl⟩
        have hS := same_back HX.out.1 HX.out.2
        have hlv2 := (back_live L n HX.out.1 HX.out.2).1
        have HT := Lib.hid (show tkR (L.set n false) = ((y : Int), 0) by rw [← hy]; exact if_pos b2)
        rw [hy] at b1 hS
        have HS := Lib.hid hS
        have HLV := Lib.hid hlv2
        clear b2 hy hS hlv2
        go_wp2_with fail
        refine (pacc_take H6.out y 0 _ HT.out rfl).mono ?_
        rintro e w7 ⟨rfl, F7, p7, f7, t7⟩
        have H7 := Lib.hid p7
        have HR7 := Lib.hid (HR6.out.to t7 f7)
        clear p7 f7 t7 H6 HR6 HT
        go_wp2_with fail
        refine (pacc_lent H7.out _ rfl).mono ?_
        rintro e w8 ⟨v8, rfl, q1, q2, q3⟩
        have H8 := Lib.hid (H7.out.step q3)
        have HR8 := Lib.hid (HR7.out.nw q3)
        have hl8 : (castL (lnt (tkL (L.set n false)))).length = K := by rw [castL_len, liv_lnt, HLV.out, HK2.out]
        obtain ⟨ao8, cp8, rfl, _⟩ := q1.box
        rw [hl8] at q1 ⊢
        have HQ := Lib.hid q1
        clear q1 q2 q3 H7 HR7 hl8
        have hyn : (y : Int) ≤ (n : Int) := by omega
        go_wp2_with fail
        refine (same_dec _ _ _ _ _ HQ.out HR8.out.1 (by rw [castL_len, liv_lnt, HLV.out, castL_len, liv_lnt])).mono ?_
        rintro e w9 ⟨rfl, g9⟩
        have G9 := Lib.hid (H8.out.nw.trans g9)
        rw [HS.out]
        clear g9 H8 HR8 HQ
        by_cases hyy : (y : Int) = (n : Int)
        · have e1 : ((y : Int) == (n : Int)) = true := by simpa using hyy
          have e2 : decide ((y : Int) = (n : Int)) = true := by simpa using hyy
          rw [e2]
          go_wp2
          go_ret
          exact ⟨rfl, G9.out⟩
        · have e1 : ((y : Int) == (n : Int)) = false := by simpa using hyy
          have e2 : decide ((y : Int) = (n : Int)) = false := by simpa using hyy
          rw [e2]
          go_wp2
          go_ret
          exact ⟨rfl, G9.out⟩

set_option maxRecDepth 100000 in
theorem law_any (m : Int) (a1 : Option Addr) (len1 cap1 : Nat) (z1 : List Int) (which : Int) (w : World) (wn : (Lit.int .i64 m).wf = true) (w1 : IsNum w a1 len1 cap1 z1) (wm : (Lit.int .i64 which).wf = true) :
    Calls Try.prog 7 #[.int .i64 m, .slice a1 len1 cap1, .int .i64 which] w fun e w' => e = .returned (.bool true) ∧ Nw w w' := by
  by_cases h : len1 ≤ 80
  · exact walk m a1 len1 cap1 z1 which w w1 h
  · have k0 : (80 : Int) < (len1 : Int) := by omega
    clear w1
    go_enter Try.func7, Try.ntmps7
    go_wp2_with fail
    refine (lives_ok _).mono ?_
    rintro e w0 ⟨rfl, g0⟩
    have G0 := Lib.hid g0
    clear g0
    go_wp2
    go_ret
    exact ⟨rfl, G0.out⟩
end Go.Proofs.Ytckbjgcelpmffaa.poolBack
