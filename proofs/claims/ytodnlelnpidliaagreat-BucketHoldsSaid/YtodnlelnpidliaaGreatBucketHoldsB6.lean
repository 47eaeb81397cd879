/- Texts merged: PhF -/
import Derived.Test.YtodnlelnpidliaaGreatBucketHoldsB5

/- container/heap's down, on a row of numbers behind a header. -/
section
namespace Go.Proofs.YtodnlelnpidliaaGreat
open Go.RowKit Go.Shelf
set_option linter.unusedVariables false

def IDownPost (w : World) (hb ho g cap n i0 : Nat) (l : List Int) (e : Ending) (w' : World) : Prop :=
  ∃ (b : Bool) (l' : List Int), e = .returned (.bool b) ∧ l'.Perm l ∧ (∀ k, n ≤ k → iat l' k = iat l k) ∧ IHpAt w' hb ho g cap l' ∧ Tch (fun k => k = g) w w' ∧ ((b = true ∧ IHp (iat l') n) ∨ (b = false ∧ l' = l ∧ ICh (iat l) n i0))
def IDownRel (w : World) (hb ho g cap n i0 : Nat) (l : List Int) (i : Nat) (l' : List Int) (wr : World) : Prop :=
  l'.Perm l ∧ (∀ x, n ≤ x → iat l' x = iat l x) ∧ IEx (iat l') n i ∧ IGr (iat l') n i ∧ IHpAt wr hb ho g cap l' ∧ Tch (fun x => x = g) w wr ∧ ((i = i0 ∧ l' = l) ∨ (i0 < i ∧ IPa (iat l') i))

theorem IDownRel.ends {w : World} {hb ho g cap n i0 : Nat} {l : List Int} {i : Nat} {l' : List Int} {wr w1 : World} (h : IDownRel w hb ho g cap n i0 l i l' wr) (k : Nw wr w1) (hc : ICh (iat l') n i) :
    (i = i0 → IDownPost w hb ho g cap n i0 l (.returned (.bool false)) w1) ∧ (i0 < i → IDownPost w hb ho g cap n i0 l (.returned (.bool true)) w1) := by
  obtain ⟨h1, h2, h3, h4, h5, h6, h7⟩ := h
  refine ⟨fun e => ?_, fun e => ?_⟩
  · rcases h7 with ⟨rfl, rfl⟩ | ⟨a, _⟩
    · exact ⟨false, l', rfl, h1, h2, h5.nw k, h6.trans (Tch.nw k), .inr ⟨rfl, rfl, hc⟩⟩
    · omega
  · rcases h7 with ⟨a, _⟩ | ⟨_, hp⟩
    · omega
    · exact ⟨true, l', rfl, h1, h2, h5.nw k, h6.trans (Tch.nw k), .inl ⟨rfl, IHp.of h3 hc hp⟩⟩
theorem IDownRel.step {w : World} {hb ho g cap n i0 : Nat} {l : List Int} {i m : Nat} {l' : List Int} {wr w1 w2 : World} (h : IDownRel w hb ho g cap n i0 l i l' wr) (hl : l'.length = l.length) (hn : n ≤ l.length)
    (hm : (m - 1) / 2 = i) (h0 : 0 < m) (hmn : m < n) (hi : i0 ≤ i) (hmin : ∀ k, 0 < k → k < n → (k - 1) / 2 = i → itle (iat l' m) (iat l' k)) (hlt : itlt (iat l' m) (iat l' i) = true)
    (k : Nw wr w1) (h1 : IHpAt w1 hb ho g cap l') (r : ITRow w2 g cap (iswp l' i m)) (t : Tch (fun x => x = g) w1 w2) : IDownRel w hb ho g cap n i0 l m (iswp l' i m) w2 := by
  obtain ⟨a1, a2, a3, a4, a5, a6, a7⟩ := h
  obtain ⟨u1, u2, u3⟩ := idown_step hm h0 a3 a4 hmin hmn hlt
  have hs := iat_swp l' (i := i) (j := m) (by omega) (by omega)
  refine ⟨(iswp_perm l' (by omega) (by omega)).trans a1, fun x hx => ?_, ?_, ?_, h1.turned t r (iswp_len _ _ _), a6.trans ((Tch.nw k).trans t), .inr ⟨by omega, ?_⟩⟩
  · rw [iat_swp_o l' (by omega) (by omega) (by omega) (by omega)]; exact a2 x hx
  · rw [hs]; exact u1
  · rw [hs]; exact u2
  · rw [hs]; exact u3

set_option maxHeartbeats 2000000 in
theorem idown_any (hb ho g cap : Nat) (l : List Int) (n i0 : Nat) (hn : n ≤ l.length) (hsm : l.length ≤ 1000000) (hi0 : i0 ≤ 1000000) (w : World) (h : IHpAt w hb ho g cap l) (hex : IEx (iat l) n i0) (hgr : IGr (iat l) n i0) :
    Calls Tryz.prog 123 #[.iface 119 (.pointer (some ⟨hb, ho, none⟩)), .int .i64 i0, .int .i64 n] w (IDownPost w hb ho g cap n i0 l) := by
  have H0 := Lib.hid (And.intro h (And.intro hex hgr))
  clear h hex hgr
  have el := ie_less
  have es := ie_swap
  go_enter Tryz.func123, Tryz.ntmps123
  go_wp2
  go_loopw [7] (fun vj wr => ∃ (i : Nat) (l' : List Int), vj = .int .i64 i ∧ i0 ≤ i ∧ i ≤ 1000000 ∧ l'.length = l.length ∧ Hid (IDownRel w hb ho g cap n i0 l i l' wr)) (fun vj _ => n - (intOf vj).toNat)
  case atStart => exact ⟨i0, l, rfl, Nat.le_refl _, hi0, rfl, .refl _, fun _ _ => rfl, H0.out.2.1, H0.out.2.2, H0.out.1, Tch.refl _ _, .inl ⟨rfl, rfl⟩⟩
  case round =>
    obtain ⟨i, l', rfl, hi, hib, hl, HR⟩ := hrel
    have hc := HR.out.2.2.2.2.1.hd
    rw [hl] at hc
    have mL := im_less wr _ _ _ hc
    by_cases hA : n ≤ 2 * i + 1
    · have HE := Lib.hid (HR.out.ends (Nw.refl _) (fun k h0 h1 h2 => by omega))
      have hA' : (n : Int) ≤ 2 * (i : Int) + 1 := by omega
      clear H0 mL hc
      rcases Nat.eq_or_lt_of_le hi with he | hlt
      · have hq : decide ((i0 : Int) < (i : Int)) = false := by simp; omega
        go_wp2
        go_ret
        exact HE.out.1 he.symm
      · have hq : (i0 : Int) < (i : Int) := by omega
        go_wp2
        go_ret
        exact HE.out.2 hlt
    · have hA' : ¬ (n : Int) ≤ 2 * (i : Int) + 1 := by omega
      by_cases hB : 2 * i + 2 < n
      · have hB' : 2 * (i : Int) + 1 + 1 < (n : Int) := by omega
        have HL0 := iless_any g cap l' (2 * i + 2) (2 * i + 1) (by omega) (by omega) wr HR.out.2.2.2.2.1.row
        rw [hl, show ((2 * i + 2 : Nat) : Int) = 2 * (i : Int) + 1 + 1 by omega, show ((2 * i + 1 : Nat) : Int) = 2 * (i : Int) + 1 by omega] at HL0
        clear H0
        cases hl0 : itlt (iat l' (2 * i + 2)) (iat l' (2 * i + 1)) with
        | true =>
          rw [hl0] at HL0
          have Hl0 := Lib.hid hl0
          clear hl0
          go_wp2_with fail
          refine HL0.mono ?_
          rintro e wP ⟨rfl, hgP⟩
          clear mL hc
          have HM := Lib.hid (show ∀ k, 0 < k → k < n → (k - 1) / 2 = i → itle (iat l' (2 * i + 2)) (iat l' k) from fun k h0 h1 h2 => by
            rcases (show k = 2 * i + 1 ∨ k = 2 * i + 2 by omega) with rfl | rfl
            · exact itle_of_lt Hl0.out
            · exact itle_refl _)
          have H1 := Lib.hid (HR.out.2.2.2.2.1.nw hgP)
          have HG := Lib.hid hgP
          have hc1 := H1.out.hd
          rw [hl] at hc1
          have mL1 := im_less wP _ _ _ hc1
          have HL := iless_any g cap l' (2 * i + 2) i (by omega) (by omega) wP H1.out.row
          rw [hl, show (((2 * i + 2 : Nat)) : Int) = 2 * (i : Int) + 1 + 1 by omega] at HL
          clear hgP
          cases hlt : itlt (iat l' (2 * i + 2)) (iat l' i) with
          | true =>
            rw [hlt] at HL
            have Hlt := Lib.hid hlt
            clear hlt
            go_wp2_with fail
            refine HL.mono ?_
            rintro e w1 ⟨rfl, hg1⟩
            have h1 := H1.out.nw hg1
            have hc2 := h1.hd
            rw [hl] at hc2
            have mS := im_swap w1 _ _ _ hc2
            have HS := iswap_any g cap l' i (2 * i + 2) (by omega) (by omega) w1 h1.row
            rw [hl, show (((2 * i + 2 : Nat)) : Int) = 2 * (i : Int) + 1 + 1 by omega] at HS
            have H1' := Lib.hid h1
            have HG1 := Lib.hid (HG.out.trans hg1)
            clear h1 mL1 hc1 hg1
            go_wp2_with fail
            refine HS.mono ?_
            rintro e w2 ⟨rfl, hr2, ht2⟩
            have H2 := Lib.hid (HR.out.step (m := 2 * i + 2) hl hn (by omega) (by omega) (by omega) hi HM.out Hlt.out HG1.out H1'.out hr2 ht2)
            clear hr2 ht2 mS hc2
            go_wp2
            go_roundw
            case rel => exact ⟨2 * i + 2, iswp l' i (2 * i + 2), by congr 1, by omega, by omega, by rw [iswp_len]; exact hl, H2.out⟩
            case measure => simp [intOf]; omega
          | false =>
            rw [hlt] at HL
            have Hlt := Lib.hid hlt
            clear hlt
            go_wp2_with fail
            refine HL.mono ?_
            rintro e w1 ⟨rfl, hg1⟩
            have HE := Lib.hid (HR.out.ends (HG.out.trans hg1) (fun k h0 h1 h2 => itle_trans Hlt.out (HM.out k h0 h1 h2)))
            clear mL1 hc1 hg1
            rcases Nat.eq_or_lt_of_le hi with he | hlt
            · have hq : decide ((i0 : Int) < (i : Int)) = false := by simp; omega
              go_wp2
              go_ret
              exact HE.out.1 he.symm
            · have hq : (i0 : Int) < (i : Int) := by omega
              go_wp2
              go_ret
              exact HE.out.2 hlt
        | false =>
          rw [hl0] at HL0
          have Hl0 := Lib.hid hl0
          clear hl0
          go_wp2_with fail
          refine HL0.mono ?_
          rintro e wP ⟨rfl, hgP⟩
          clear mL hc
          have HM := Lib.hid (show ∀ k, 0 < k → k < n → (k - 1) / 2 = i → itle (iat l' (2 * i + 1)) (iat l' k) from fun k h0 h1 h2 => by
            rcases (show k = 2 * i + 1 ∨ k = 2 * i + 2 by omega) with rfl | rfl
            · exact itle_refl _
            · exact Hl0.out)
          have H1 := Lib.hid (HR.out.2.2.2.2.1.nw hgP)
          have HG := Lib.hid hgP
          have hc1 := H1.out.hd
          rw [hl] at hc1
          have mL1 := im_less wP _ _ _ hc1
          have HL := iless_any g cap l' (2 * i + 1) i (by omega) (by omega) wP H1.out.row
          rw [hl, show (((2 * i + 1 : Nat)) : Int) = 2 * (i : Int) + 1 by omega] at HL
          clear hgP
          cases hlt : itlt (iat l' (2 * i + 1)) (iat l' i) with
          | true =>
            rw [hlt] at HL
            have Hlt := Lib.hid hlt
            clear hlt
            go_wp2_with fail
            refine HL.mono ?_
            rintro e w1 ⟨rfl, hg1⟩
            have h1 := H1.out.nw hg1
            have hc2 := h1.hd
            rw [hl] at hc2
            have mS := im_swap w1 _ _ _ hc2
            have HS := iswap_any g cap l' i (2 * i + 1) (by omega) (by omega) w1 h1.row
            rw [hl, show (((2 * i + 1 : Nat)) : Int) = 2 * (i : Int) + 1 by omega] at HS
            have H1' := Lib.hid h1
            have HG1 := Lib.hid (HG.out.trans hg1)
            clear h1 mL1 hc1 hg1
            go_wp2_with fail
            refine HS.mono ?_
            rintro e w2 ⟨rfl, hr2, ht2⟩
            have H2 := Lib.hid (HR.out.step (m := 2 * i + 1) hl hn (by omega) (by omega) (by omega) hi HM.out Hlt.out HG1.out H1'.out hr2 ht2)
            clear hr2 ht2 mS hc2
            go_wp2
            go_roundw
            case rel => exact ⟨2 * i + 1, iswp l' i (2 * i + 1), by congr 1, by omega, by omega, by rw [iswp_len]; exact hl, H2.out⟩
            case measure => simp [intOf]; omega
          | false =>
            rw [hlt] at HL
            have Hlt := Lib.hid hlt
            clear hlt
            go_wp2_with fail
            refine HL.mono ?_
            rintro e w1 ⟨rfl, hg1⟩
            have HE := Lib.hid (HR.out.ends (HG.out.trans hg1) (fun k h0 h1 h2 => itle_trans Hlt.out (HM.out k h0 h1 h2)))
            clear mL1 hc1 hg1
            rcases Nat.eq_or_lt_of_le hi with he | hlt
            · have hq : decide ((i0 : Int) < (i : Int)) = false := by simp; omega
              go_wp2
              go_ret
              exact HE.out.1 he.symm
            · have hq : (i0 : Int) < (i : Int) := by omega
              go_wp2
              go_ret
              exact HE.out.2 hlt
      · have hB' : ¬ 2 * (i : Int) + 1 + 1 < (n : Int) := by omega
        clear H0 mL hc
        have hgP := Nw.refl wr
        have HM := Lib.hid (show ∀ k, 0 < k → k < n → (k - 1) / 2 = i → itle (iat l' (2 * i + 1)) (iat l' k) from fun k h0 h1 h2 => by
          obtain rfl : k = 2 * i + 1 := by omega
          exact itle_refl _)
        have H1 := Lib.hid (HR.out.2.2.2.2.1.nw hgP)
        have HG := Lib.hid hgP
        have hc1 := H1.out.hd
        rw [hl] at hc1
        have mL1 := im_less wr _ _ _ hc1
        have HL := iless_any g cap l' (2 * i + 1) i (by omega) (by omega) wr H1.out.row
        rw [hl, show (((2 * i + 1 : Nat)) : Int) = 2 * (i : Int) + 1 by omega] at HL
        clear hgP
        cases hlt : itlt (iat l' (2 * i + 1)) (iat l' i) with
        | true =>
          rw [hlt] at HL
          have Hlt := Lib.hid hlt
          clear hlt
          go_wp2_with fail
          refine HL.mono ?_
          rintro e w1 ⟨rfl, hg1⟩
          have h1 := H1.out.nw hg1
          have hc2 := h1.hd
          rw [hl] at hc2
          have mS := im_swap w1 _ _ _ hc2
          have HS := iswap_any g cap l' i (2 * i + 1) (by omega) (by omega) w1 h1.row
          rw [hl, show (((2 * i + 1 : Nat)) : Int) = 2 * (i : Int) + 1 by omega] at HS
          have H1' := Lib.hid h1
          have HG1 := Lib.hid (HG.out.trans hg1)
          clear h1 mL1 hc1 hg1
          go_wp2_with fail
          refine HS.mono ?_
          rintro e w2 ⟨rfl, hr2, ht2⟩
          have H2 := Lib.hid (HR.out.step (m := 2 * i + 1) hl hn (by omega) (by omega) (by omega) hi HM.out Hlt.out HG1.out H1'.out hr2 ht2)
          clear hr2 ht2 mS hc2
          go_wp2
          go_roundw
          case rel => exact ⟨2 * i + 1, iswp l' i (2 * i + 1), by congr 1, by omega, by omega, by rw [iswp_len]; exact hl, H2.out⟩
          case measure => simp [intOf]; omega
        | false =>
          rw [hlt] at HL
          have Hlt := Lib.hid hlt
          clear hlt
          go_wp2_with fail
          refine HL.mono ?_
          rintro e w1 ⟨rfl, hg1⟩
          have HE := Lib.hid (HR.out.ends (HG.out.trans hg1) (fun k h0 h1 h2 => itle_trans Hlt.out (HM.out k h0 h1 h2)))
          clear mL1 hc1 hg1
          rcases Nat.eq_or_lt_of_le hi with he | hlt
          · have hq : decide ((i0 : Int) < (i : Int)) = false := by simp; omega
            go_wp2
            go_ret
            exact HE.out.1 he.symm
          · have hq : (i0 : Int) < (i : Int) := by omega
            go_wp2
            go_ret
            exact HE.out.2 hlt
end Go.Proofs.YtodnlelnpidliaaGreat
end
