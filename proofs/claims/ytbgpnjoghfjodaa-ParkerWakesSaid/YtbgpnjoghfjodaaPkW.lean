
/- ParkerWakes: the walk. -/
import Derived.Test.YtbgpnjoghfjodaaPkS
namespace Go.Proofs.Ytbgpnjoghfjodaa
open Go.RowKit

/-- What the walk is told of a slice of truths that came in. -/
def IsBits (w : World) (a : Option Addr) (len cap : Nat) (B : Nat → Bool) : Prop :=
  (a = none ∧ len = 0 ∧ cap = 0) ∨ ∃ x, a = some x ∧ len ≤ cap ∧ cap ≤ maxLen ∧ ∀ i, i < cap → w.cell? (x.add i) = some (.bool (B i))
theorem IsBits.at {w : World} {a : Option Addr} {len cap : Nat} {B : Nat → Bool} (h : IsBits w a len cap B) (hl : 0 < len) : ∃ b o, a = some ⟨b, o, none⟩ ∧ len ≤ maxLen ∧ b < w.heap.size ∧ (∀ i, i < len → w.cell? ⟨b, o + i, none⟩ = some (.bool (B i))) := by
  rcases h with ⟨_, h0, _⟩ | ⟨x, rfl, h1, h2, h4⟩
  · omega
  · obtain ⟨b, o, spot⟩ := x
    have hs : spot = none := by simpa [Addr.add] using World.cell?_spot (h4 0 (by omega))
    subst hs
    have hc : ∀ i, i < len → w.cell? ⟨b, o + i, none⟩ = some (.bool (B i)) := fun i hi => by
      have := h4 i (by omega)
      rwa [Addr.add_lit] at this
    exact ⟨b, o, rfl, by omega, World.block_lt_of_cell? _ _ (hc 0 hl), hc⟩
theorem ret_bool {b : Bool} (h : b = true) : Ending.returned (.bool b) = .returned (.bool true) := by rw [h]
end Go.Proofs.Ytbgpnjoghfjodaa
namespace Go.Proofs.Ytbgpnjoghfjodaa.parkerWakes
open Go.RowKit

/-- The one thread's state, and the counts: wakes, parks, lost. -/
def Keeps (w W : World) (p Wk P L : Nat) : Prop :=
  (Acc w W p [0, 0] ∧ Wk = P + L) ∨ (Acc w W p [0, 1] ∧ Wk + 1 = P + L) ∨ (Acc w W p [0, 2] ∧ Wk = P + 1 + L)

set_option maxRecDepth 100000 in
set_option maxHeartbeats 8000000 in
theorem walk (a0 : Option Addr) (len0 cap0 : Nat) (B : Nat → Bool) (w : World) (w0 : IsBits w a0 len0 cap0 B) (h0 : len0 ≤ 60) :
    Calls Try.prog 5 #[.slice a0 len0 cap0] w fun e w' => e = .returned (.bool true) ∧ Nw w w' := by
  have k0 : ¬ (60 : Int) < (len0 : Int) := by omega
  have R0 := Lib.hid w0
  clear w0
  go_enter Try.func5, Try.ntmps5
  go_wp2_with fail
  refine (lives_ok _).mono ?_
  rintro e wl ⟨rfl, g0⟩
  have G0 := Lib.hid g0
  clear g0
  go_wp2_with fail
  refine (acc_new w wl G0.out 2 2 rfl (by omega) (by omega)).mono ?_
  rintro e wa ⟨p, rfl, ha, _, _⟩
  have HA := Lib.hid (show Acc w wa p [0, 0] from ha)
  clear ha k0
  go_wp2
  go_loopw [5, 6, 7, 8] (fun v5 v6 v7 v8 wr => ∃ k Wk P L : Nat, v8 = .int .i64 k ∧ k ≤ len0 ∧ v5 = .int .i64 Wk ∧ v6 = .int .i64 P ∧ v7 = .int .i64 L ∧ Wk ≤ k ∧ P ≤ k ∧ L ≤ k ∧ Hid (Keeps w wr p Wk P L)) (fun _ _ _ v8 _ => len0 - (intOf v8).toNat)
  case atStart => exact ⟨0, 0, 0, 0, rfl, Nat.zero_le _, rfl, rfl, rfl, Nat.le_refl _, Nat.le_refl _, Nat.le_refl _, Lib.hid (.inl ⟨HA.out, rfl⟩)⟩
  case round =>
    clear HA
    obtain ⟨k, Wk, P, L, rfl, hk, rfl, rfl, rfl, b1, b2, b3, HK⟩ := hrel
    by_cases hlt : k < len0
    · obtain ⟨b, ob, rfl, hml, hbl, hcs⟩ := R0.out.at (by omega)
      have HC := Lib.hid (fun W (g : Nw w W) => (g.cell (o := ob + k) hbl).trans (hcs k hlt))
      generalize B k = t at *
      clear hcs
      rcases HK.out with ⟨ha, hq⟩ | ⟨ha, hq⟩ | ⟨ha, hq⟩
      · have H := Lib.hid ha
        clear HK ha
        go_wp2_with fail
        refine (acc_parked H.out 1 false (by decide)).mono ?_
        rintro e w1 ⟨rfl, h⟩
        have H1 := Lib.hid h
        clear h H
        go_wp2_with fail
        refine (acc_parked H1.out 0 false (by decide)).mono ?_
        rintro e w2 ⟨rfl, h⟩
        have H2 := Lib.hid h
        clear h H1
        go_wp2_with fail
        refine (acc_token H2.out 0 false (by decide)).mono ?_
        rintro e w3 ⟨rfl, h⟩
        have H3 := Lib.hid h
        clear h H2
        go_wp2_with fail
        refine (acc_parked H3.out 1 false (by decide)).mono ?_
        rintro e w4 ⟨rfl, h⟩
        have H4 := Lib.hid h
        clear h H3
        go_wp2_with fail
        refine (acc_token H4.out 1 false (by decide)).mono ?_
        rintro e w5 ⟨rfl, h⟩
        have H5 := Lib.hid h
        clear h H4
        have hc := HC.out _ H5.out.nw
        cases t with
        | true =>
          go_wp2_with fail
          refine (acc_park H5.out 1 false 0 [0, 1] (by decide) (by decide)).mono ?_
          rintro e w6 ⟨rfl, h, _⟩
          have H6 := Lib.hid h
          clear h H5
          go_wp2_with fail
          refine (acc_parked H6.out 1 true (by decide)).mono ?_
          rintro e w7 ⟨rfl, h⟩
          have H7 := Lib.hid h
          clear h H6
          go_wp2_with fail
          refine (acc_token H7.out 1 false (by decide)).mono ?_
          rintro e w8 ⟨rfl, h⟩
          have H8 := Lib.hid h
          clear h H7
          go_wp2
          go_roundw
          case rel => exact ⟨k + 1, Wk, P + 1, L, by go_num, by omega, by go_num, by go_num, by go_num, by omega, by omega, by omega, Lib.hid (.inr <| .inl ⟨H8.out, by omega⟩)⟩
          case measure => simp [intOf]; omega
        | false =>
          go_wp2_with fail
          refine (acc_unpark H5.out 1 false 0 [0, 2] (by decide) (by decide)).mono ?_
          rintro e w9 ⟨rfl, h, _⟩
          have H9 := Lib.hid h
          clear h H5
          go_wp2_with fail
          refine (acc_parked H9.out 1 false (by decide)).mono ?_
          rintro e w10 ⟨rfl, h⟩
          have H10 := Lib.hid h
          clear h H9
          go_wp2_with fail
          refine (acc_token H10.out 1 true (by decide)).mono ?_
          rintro e w11 ⟨rfl, h⟩
          have H11 := Lib.hid h
          clear h H10
          go_wp2
          go_roundw
          case rel => exact ⟨k + 1, Wk + 1, P, L, by go_num, by omega, by go_num, by go_num, by go_num, by omega, by omega, by omega, Lib.hid (.inr <| .inr ⟨H11.out, by omega⟩)⟩
          case measure => simp [intOf]; omega
      · have H := Lib.hid ha
        clear HK ha
        go_wp2_with fail
        refine (acc_parked H.out 1 true (by decide)).mono ?_
        rintro e w12 ⟨rfl, h⟩
        have H12 := Lib.hid h
        clear h H
        go_wp2_with fail
        refine (acc_token H12.out 1 false (by decide)).mono ?_
        rintro e w13 ⟨rfl, h⟩
        have H13 := Lib.hid h
        clear h H12
        go_wp2_with fail
        refine (acc_parked H13.out 0 false (by decide)).mono ?_
        rintro e w14 ⟨rfl, h⟩
        have H14 := Lib.hid h
        clear h H13
        go_wp2_with fail
        refine (acc_token H14.out 0 false (by decide)).mono ?_
        rintro e w15 ⟨rfl, h⟩
        have H15 := Lib.hid h
        clear h H14
        go_wp2_with fail
        refine (acc_parked H15.out 1 true (by decide)).mono ?_
        rintro e w16 ⟨rfl, h⟩
        have H16 := Lib.hid h
        clear h H15
        go_wp2_with fail
        refine (acc_token H16.out 1 false (by decide)).mono ?_
        rintro e w17 ⟨rfl, h⟩
        have H17 := Lib.hid h
        clear h H16
        have hc := HC.out _ H17.out.nw
        cases t with
        | true =>
          go_wp2
          go_roundw
          case rel => exact ⟨k + 1, Wk, P, L, by go_num, by omega, by go_num, by go_num, by go_num, by omega, by omega, by omega, Lib.hid (.inr <| .inl ⟨H17.out, by omega⟩)⟩
          case measure => simp [intOf]; omega
        | false =>
          go_wp2_with fail
          refine (acc_unpark H17.out 1 true 0 [0, 0] (by decide) (by decide)).mono ?_
          rintro e w18 ⟨rfl, h, _⟩
          have H18 := Lib.hid h
          clear h H17
          go_wp2_with fail
          refine (acc_parked H18.out 1 false (by decide)).mono ?_
          rintro e w19 ⟨rfl, h⟩
          have H19 := Lib.hid h
          clear h H18
          go_wp2_with fail
          refine (acc_token H19.out 1 false (by decide)).mono ?_
          rintro e w20 ⟨rfl, h⟩
          have H20 := Lib.hid h
          clear h H19
          go_wp2
          go_roundw
          case rel => exact ⟨k + 1, Wk + 1, P, L, by go_num, by omega, by go_num, by go_num, by go_num, by omega, by omega, by omega, Lib.hid (.inl ⟨H20.out, by omega⟩)⟩
          case measure => simp [intOf]; omega
      · have H := Lib.hid ha
        clear HK ha
        go_wp2_with fail
        refine (acc_parked H.out 1 false (by decide)).mono ?_
        rintro e w21 ⟨rfl, h⟩
        have H21 := Lib.hid h
        clear h H
        go_wp2_with fail
        refine (acc_parked H21.out 0 false (by decide)).mono ?_
        rintro e w22 ⟨rfl, h⟩
        have H22 := Lib.hid h
        clear h H21
        go_wp2_with fail
        refine (acc_token H22.out 0 false (by decide)).mono ?_
        rintro e w23 ⟨rfl, h⟩
        have H23 := Lib.hid h
        clear h H22
        go_wp2_with fail
        refine (acc_parked H23.out 1 false (by decide)).mono ?_
        rintro e w24 ⟨rfl, h⟩
        have H24 := Lib.hid h
        clear h H23
        go_wp2_with fail
        refine (acc_token H24.out 1 true (by decide)).mono ?_
        rintro e w25 ⟨rfl, h⟩
        have H25 := Lib.hid h
        clear h H24
        have hc := HC.out _ H25.out.nw
        cases t with
        | true =>
          go_wp2_with fail
          refine (acc_park H25.out 1 true 0 [0, 0] (by decide) (by decide)).mono ?_
          rintro e w26 ⟨rfl, h, _⟩
          have H26 := Lib.hid h
          clear h H25
          go_wp2_with fail
          refine (acc_parked H26.out 1 false (by decide)).mono ?_
          rintro e w27 ⟨rfl, h⟩
          have H27 := Lib.hid h
          clear h H26
          go_wp2_with fail
          refine (acc_token H27.out 1 false (by decide)).mono ?_
          rintro e w28 ⟨rfl, h⟩
          have H28 := Lib.hid h
          clear h H27
          go_wp2
          go_roundw
          case rel => exact ⟨k + 1, Wk, P + 1, L, by go_num, by omega, by go_num, by go_num, by go_num, by omega, by omega, by omega, Lib.hid (.inl ⟨H28.out, by omega⟩)⟩
          case measure => simp [intOf]; omega
        | false =>
          go_wp2_with fail
          refine (acc_unpark H25.out 1 false 0 [0, 2] (by decide) (by decide)).mono ?_
          rintro e w29 ⟨rfl, h, _⟩
          have H29 := Lib.hid h
          clear h H25
          go_wp2_with fail
          refine (acc_parked H29.out 1 false (by decide)).mono ?_
          rintro e w30 ⟨rfl, h⟩
          have H30 := Lib.hid h
          clear h H29
          go_wp2_with fail
          refine (acc_token H30.out 1 true (by decide)).mono ?_
          rintro e w31 ⟨rfl, h⟩
          have H31 := Lib.hid h
          clear h H30
          go_wp2
          go_roundw
          case rel => exact ⟨k + 1, Wk + 1, P, L + 1, by go_num, by omega, by go_num, by go_num, by go_num, by omega, by omega, by omega, Lib.hid (.inr <| .inr ⟨H31.out, by omega⟩)⟩
          case measure => simp [intOf]; omega
    · rcases HK.out with ⟨ha, hq⟩ | ⟨ha, hq⟩ | ⟨ha, hq⟩
      · have H := Lib.hid ha
        clear HK ha
        go_wp2_with fail
        refine (acc_parked H.out 1 false (by decide)).mono ?_
        rintro e w32 ⟨rfl, h⟩
        have H32 := Lib.hid h
        clear h H
        go_wp2_with fail
        refine (acc_token H32.out 1 false (by decide)).mono ?_
        rintro e w33 ⟨rfl, h⟩
        have H33 := Lib.hid h
        clear h H32
        go_wp2
        go_ret
        refine ⟨ret_bool ?_, H33.out.nw⟩
        simp
        try omega
      · have H := Lib.hid ha
        clear HK ha
        go_wp2_with fail
        refine (acc_parked H.out 1 true (by decide)).mono ?_
        rintro e w34 ⟨rfl, h⟩
        have H34 := Lib.hid h
        clear h H
        go_wp2_with fail
        refine (acc_token H34.out 1 false (by decide)).mono ?_
        rintro e w35 ⟨rfl, h⟩
        have H35 := Lib.hid h
        clear h H34
        go_wp2
        go_ret
        refine ⟨ret_bool ?_, H35.out.nw⟩
        simp
        try omega
      · have H := Lib.hid ha
        clear HK ha
        go_wp2_with fail
        refine (acc_parked H.out 1 false (by decide)).mono ?_
        rintro e w36 ⟨rfl, h⟩
        have H36 := Lib.hid h
        clear h H
        go_wp2_with fail
        refine (acc_token H36.out 1 true (by decide)).mono ?_
        rintro e w37 ⟨rfl, h⟩
        have H37 := Lib.hid h
        clear h H36
        go_wp2
        go_ret
        refine ⟨ret_bool ?_, H37.out.nw⟩
        simp
        try omega

theorem law_any (a0 : Option Addr) (len0 cap0 : Nat) (B : Nat → Bool) (w : World) (w0 : IsBits w a0 len0 cap0 B) :
    Calls Try.prog 5 #[.slice a0 len0 cap0] w fun e w' => e = .returned (.bool true) ∧ Nw w w' := by
  by_cases h : len0 ≤ 60
  · exact walk a0 len0 cap0 B w w0 h
  · have k0 : (60 : Int) < (len0 : Int) := by omega
    clear w0
    go_enter Try.func5, Try.ntmps5
    go_wp2_with fail
    refine (lives_ok _).mono ?_
    rintro e wl ⟨rfl, g0⟩
    have G0 := Lib.hid g0
    clear g0
    go_wp2
    go_ret
    exact ⟨rfl, G0.out⟩
end Go.Proofs.Ytbgpnjoghfjodaa.parkerWakes
