
/- What the laws' walks share: strings, what Read is at bytes. -/
import Derived.Test.YtmegaipedagcjaaScU
import Derived.Test.YtmegaipedagcjaaScV
import Derived.Test.YtmegaipedagcjaaOrd
import Derived.Lib.Strings
namespace Go.Proofs.Ytmegaipedagcjaa
open Go.RowKit

theorem ext_rule (l : List UInt8) (i j : Nat) : (⟨l.toArray⟩ : ByteArray).extract i j = ⟨((l.drop i).take (j - i)).toArray⟩ := Lib.extract_eq _ _ _
theorem app_rule (a b : List UInt8) : (⟨a.toArray⟩ : ByteArray) ++ ⟨b.toArray⟩ = ⟨(a ++ b).toArray⟩ := by
  apply ByteArray.ext
  simp
/-- A call that returns a script. -/
def RdS (w : World) (S : PS) (e : Ending) (W : World) : Prop := ∃ vt vp, e = .returned (scV vt vp S.cp) ∧ ScAt W vt vp S ∧ Nw w W
theorem read_as (l : List UInt8) (S : PS) (h : rd l = S) (hl : l.length ≤ 1000000) (z : World) : Calls Try.prog 16 #[stV l] z (RdS z S) := by
  subst h
  exact read_any l z hl
theorem fits_ok {s : PS} (h : okS s = true) : Fits s := by
  obtain ⟨h1, h2, h3, _⟩ := okS_parts.1 h
  refine ⟨by omega, fun x hx => ?_, by omega⟩
  have := List.all_eq_true.1 h2 x hx
  simp only [okR, Bool.and_eq_true, decide_eq_true_eq] at this
  omega
theorem take8 (l : List UInt8) : (l.take (l.length / 8 * 8)).length = 8 * (l.length / 8) := by rw [List.length_take]; omega
/-- Pick within bounds, as a natural number. -/
theorem pick_nat (a : Int) (n : Nat) : ∃ j : Nat, a % ((n : Int) + 1) = j ∧ j ≤ n := by
  have h0 := Int.emod_nonneg a (b := (n : Int) + 1) (by omega)
  have h1 := Int.emod_lt_of_pos a (b := (n : Int) + 1) (by omega)
  obtain ⟨j, hj⟩ := Int.eq_ofNat_of_zero_le h0
  exact ⟨j, hj, by omega⟩
end Go.Proofs.Ytmegaipedagcjaa
