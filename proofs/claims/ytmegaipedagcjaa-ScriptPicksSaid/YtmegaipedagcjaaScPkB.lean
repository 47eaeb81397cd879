
/- ScriptPicks: every input. -/
import Derived.Test.YtmegaipedagcjaaScPkW
namespace Go.Proofs.Ytmegaipedagcjaa.scriptPicks
open Go.RowKit
set_option linter.unusedVariables false

theorem step_pick_no (s : PS) (kk uu : Nat) (hk : kk < 6) (hu : uu < 256) (h : kk < 1 ∨ (1 ≤ kk ∧ 4 < kk) ∨ (1 ≤ kk ∧ kk ≤ 4 ∧ 4096 ≤ s.pk.length)) : step s (pickE ((kk : Int), (uu : Int))) = s := by
  have h' : step s (pickE ((kk : Int), (uu : Int))) = addP s ((kk : Int), (uu : Int)) (pickE ((kk : Int), (uu : Int))) := by
    simp [step, pickE, bt_of (kk : Int) (by omega) (by omega), bt_of (uu : Int) (by omega) (by omega)]
  rw [h', addP, if_neg]
  rintro ⟨h1, h2, _⟩
  simp only [okP, decide_eq_true_eq] at h2
  omega
theorem pick_range (a : Int) (m : Nat) (hm : 0 < m) : ∃ j : Nat, a % (m : Int) = j ∧ j < m := by
  have h0 := Int.emod_nonneg a (b := (m : Int)) (by omega)
  have h1 := Int.emod_lt_of_pos a (b := (m : Int)) (by omega)
  obtain ⟨j, hj⟩ := Int.eq_ofNat_of_zero_le h0
  exact ⟨j, hj, by omega⟩
set_option maxRecDepth 100000 in
theorem short (l : List UInt8) (k0 u0 : Int) (W : World) (h : 1600 < l.length) : Calls Try.prog 7 #[stV l, .agg #[.int .i64 k0, .int .i64 u0]] W fun e w' => e = .returned (.bool true) ∧ Nw W w' := by
  have d0 : decide ((1600 : Int) < (l.length : Int)) = true := by simp; omega
  go_enter Try.func7, Try.ntmps7
  go_wp2_with (go_at_call 8; refine (lives_ok _).mono ?_; rintro e w1 ⟨rfl, g1⟩)
  go_ret
  exact ⟨rfl, ((Nw.refl W).alloc _).trans g1⟩
theorem law_any (s0 : ByteArray) (q : Int × Int) (W : World) : Calls Try.prog 7 #[.string s0, pkV q] W fun e w' => e = .returned (.bool true) ∧ Nw W w' := by
  obtain ⟨l, rfl⟩ : ∃ l : List UInt8, s0 = ⟨l.toArray⟩ := ⟨s0.data.toList, (Lib.mk_data s0).symm⟩
  obtain ⟨k0, u0⟩ := q
  by_cases hl : l.length ≤ 1600
  · obtain ⟨kk, hk, hk6⟩ := pick_range k0 6 (by omega)
    obtain ⟨uu, hu, hu6⟩ := pick_range u0 256 (by omega)
    have hB := take8 l
    have hBm : (l.take (l.length / 8 * 8)).length % 8 = 0 := by omega
    have HP1 : ∀ z, Calls Try.prog 22 #[.int .i64 k0, .int .i64 6] z fun e w' => e = .returned (.int .i64 kk) ∧ z = w' := fun z => by have := pick_any k0 6 z (by omega) (by omega); rw [show (6 : Int) = ((6 : Nat) : Int) from rfl, hk] at this; exact this
    have HP2 : ∀ z, Calls Try.prog 22 #[.int .i64 u0, .int .i64 256] z fun e w' => e = .returned (.int .i64 uu) ∧ z = w' := fun z => by have := pick_any u0 256 z (by omega) (by omega); rw [show (256 : Int) = ((256 : Nat) : Int) from rfl, hu] at this; exact this
    have hx1 : ((bt (kk : Int)).toNat : Int) = kk := bt_of _ (by omega) (by omega)
    have hx2 : ((bt (uu : Int)).toNat : Int) = uu := bt_of _ (by omega) (by omega)
    have hS : rd (l.take (l.length / 8 * 8) ++ [3, bt (kk : Int), bt (uu : Int), 0, 0, 0, 0, 0]) = step (rd (l.take (l.length / 8 * 8))) (pickE ((kk : Int), (uu : Int))) := rd_one _ _ hBm rfl
    have HR1 := Lib.hid (readC_as (l.take (l.length / 8 * 8)) _ rfl (by omega))
    have HR2 := Lib.hid (readC_as (l.take (l.length / 8 * 8) ++ [3, bt (kk : Int), bt (uu : Int), 0, 0, 0, 0, 0]) _ rfl (by simp; omega))
    have hf := Lib.hid (fits_ok (rd_ok (l.take (l.length / 8 * 8))))
    by_cases hg : 1 ≤ kk ∧ kk ≤ 4 ∧ (rd (l.take (l.length / 8 * 8))).pk.length < 4096
    · refine main_good l _ k0 u0 kk uu (bt kk) (bt uu) (rd (l.take (l.length / 8 * 8))) _ W hl rfl hk6 hu6 (Lib.hid HP1) (Lib.hid HP2) rfl hx1 hx2 HR1 HR2 hf ?_ hg
      rw [hS]
      exact step_pick _ _ (by simp only [okP, decide_eq_true_eq]; omega) hg.2.2
    · have hb : kk < 1 ∨ (1 ≤ kk ∧ 4 < kk) ∨ (1 ≤ kk ∧ kk ≤ 4 ∧ 4096 ≤ (rd (l.take (l.length / 8 * 8))).pk.length) := by omega
      refine main_bad l _ k0 u0 kk uu (bt kk) (bt uu) (rd (l.take (l.length / 8 * 8))) _ W hl rfl hk6 hu6 (Lib.hid HP1) (Lib.hid HP2) rfl hx1 hx2 HR1 HR2 hf ?_ hb
      rw [hS]
      exact step_pick_no _ kk uu hk6 hu6 hb
  · exact short l k0 u0 W (by omega)
end Go.Proofs.Ytmegaipedagcjaa.scriptPicks
