/- Contracts of the reference's functions on names, fourth part: Read. -/
import Derived.Test.YtdcjhjmbfpkigaaDoorRefB
namespace Go.Proofs.YtdcjhjmbfpkigaaDoor
open Go.ChangeShapes Go.WideShapes Go.ChangeAt Go.RowKit

def isD (b : UInt8) : Bool := decide (48 ≤ b.toNat) && decide (b.toNat ≤ 57)
/-- The number that at most two digits are, and how many there are. -/
def numV : List UInt8 → Int × Nat
  | [] => (0, 0)
  | [d] => if isD d then (d.toNat - 48, 1) else (0, 0)
  | d :: c :: _ => if isD d then (if isD c then (10 * (d.toNat - 48) + (c.toNat - 48), 2) else (d.toNat - 48, 1)) else (0, 0)
theorem drop_get (s : ByteArray) (i : Nat) (h : i < s.size) : s.data.toList.drop i = s[i] :: s.data.toList.drop (i + 1) := by
  have h' : i < s.data.toList.length := by simpa using h
  rw [List.drop_eq_getElem_cons h']
  rfl
theorem isD_t {b : UInt8} (h0 : 48 ≤ b.toNat) (h1 : b.toNat ≤ 57) : isD b = true := by unfold isD; simp [h0, h1]
theorem isD_lo {b : UInt8} (h : b.toNat < 48) : isD b = false := by unfold isD; simp; omega
theorem isD_hi {b : UInt8} (h : 57 < b.toNat) : isD b = false := by unfold isD; simp; omega
theorem number_val (s : ByteArray) (i : Nat) (w : World) (hs : s.size ≤ 60) :
    Calls Tryd.prog 44 #[.string s, .int .i64 i] w fun e w' => e = .returned (.tuple #[.int .i64 (numV (s.data.toList.drop i)).1, .int .i64 ((i : Int) + ((numV (s.data.toList.drop i)).2 : Nat))]) ∧ Nw w w' := by
  by_cases a : s.size ≤ i
  · have e : s.data.toList.drop i = [] := List.drop_eq_nil_iff.2 (by simpa using a)
    rw [e]; simpa [numV] using number_z1 s i w a
  have a1 : i < s.size := by omega
  rw [drop_get s i a1]
  by_cases b : s[i].toNat < 48
  · have e : numV (s[i] :: s.data.toList.drop (i + 1)) = (0, 0) := by
      cases s.data.toList.drop (i + 1) <;> simp [numV, isD_lo b]
    rw [e]; simpa using number_z2 s i w hs a1 b
  by_cases c : 57 < s[i].toNat
  · have e : numV (s[i] :: s.data.toList.drop (i + 1)) = (0, 0) := by
      cases s.data.toList.drop (i + 1) <;> simp [numV, isD_hi c]
    rw [e]; simpa using number_z3 s i w hs a1 c
  have d0 : 48 ≤ s[i].toNat := by omega
  have d1 : s[i].toNat ≤ 57 := by omega
  have dd := isD_t d0 d1
  by_cases a2 : s.size ≤ i + 1
  · have e : s.data.toList.drop (i + 1) = [] := List.drop_eq_nil_iff.2 (by simpa using a2)
    rw [e]
    have e2 : numV [s[i]] = ((s[i].toNat : Int) - 48, 1) := by simp [numV, dd]
    rw [e2]; exact number_o1 s i w hs a1 d0 d1 a2
  have a3 : i + 1 < s.size := by omega
  rw [drop_get s (i + 1) a3]
  by_cases b2 : s[i + 1].toNat < 48
  · have e : numV (s[i] :: s[i + 1] :: s.data.toList.drop (i + 1 + 1)) = ((s[i].toNat : Int) - 48, 1) := by simp [numV, dd, isD_lo b2]
    rw [e]; exact number_o2 s i w hs a3 d0 d1 b2
  by_cases c2 : 57 < s[i + 1].toNat
  · have e : numV (s[i] :: s[i + 1] :: s.data.toList.drop (i + 1 + 1)) = ((s[i].toNat : Int) - 48, 1) := by simp [numV, dd, isD_hi c2]
    rw [e]; exact number_o3 s i w hs a3 d0 d1 c2
  have e : numV (s[i] :: s[i + 1] :: s.data.toList.drop (i + 1 + 1)) = (10 * ((s[i].toNat : Int) - 48) + ((s[i + 1].toNat : Int) - 48), 2) := by simp [numV, dd, isD_t (show 48 ≤ s[i + 1].toNat by omega) (show s[i + 1].toNat ≤ 57 by omega)]
  rw [e]; exact number_t s i w hs a3 d0 d1 (by omega) (by omega)

theorem numV_bd (l : List UInt8) : 0 ≤ (numV l).1 ∧ (numV l).1 < 100 ∧ (numV l).2 ≤ 2 := by
  have key : ∀ b : UInt8, isD b = true → 48 ≤ b.toNat ∧ b.toNat ≤ 57 := fun b h => by unfold isD at h; simpa using h
  rcases l with _ | ⟨d, _ | ⟨c, r⟩⟩
  · simp [numV]
  · simp only [numV]; split
    · rename_i h; have := key d h; simp; omega
    · simp
  · simp only [numV]; split
    · rename_i h
      have := key d h
      split
      · rename_i h2; have := key c h2; simp; omega
      · simp; omega
    · simp
/-- Digits are read as the number that they are. -/
theorem dig_isD : ∀ i < 10, isD (UInt8.ofNat (48 + i)) = true ∧ (UInt8.ofNat (48 + i)).toNat = 48 + i := by decide +kernel
theorem numV_dig (t : Int) (r : List UInt8) (h0 : 0 ≤ t) (h1 : t < 100) (hr : ∀ c l, r = c :: l → isD c = false) : numV (dig t ++ r) = (t, (dig t).length) := by
  obtain ⟨n, rfl⟩ := Int.eq_ofNat_of_zero_le h0
  unfold dig
  rw [show ((n : Int)).toNat = n by omega]
  by_cases h : n < 10
  · rw [Lib.decDigits_one h]
    obtain ⟨e1, e2⟩ := dig_isD n h
    show numV (UInt8.ofNat (48 + n) :: r) = ((n : Int), 1)
    generalize UInt8.ofNat (48 + n) = b at *
    rcases r with _ | ⟨c, l⟩
    · simp [numV, e1, e2]; omega
    · have := hr c l rfl
      simp [numV, e1, e2, this]; omega
  · rw [Lib.decDigits_two h (by omega)]
    obtain ⟨e1, e2⟩ := dig_isD (n / 10) (by omega)
    obtain ⟨f1, f2⟩ := dig_isD (n % 10) (by omega)
    show numV (UInt8.ofNat (48 + n / 10) :: UInt8.ofNat (48 + n % 10) :: r) = ((n : Int), 2)
    generalize UInt8.ofNat (48 + n / 10) = b at *
    generalize UInt8.ofNat (48 + n % 10) = c at *
    simp only [numV, e1, f1, e2, f2, if_true, Prod.mk.injEq, and_true]
    omega
end Go.Proofs.YtdcjhjmbfpkigaaDoor
