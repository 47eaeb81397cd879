
/- Parked threads: plain facts. A thread is 0 (running), 1 (parked) or 2 (it has a token). -/
import Derived.WalkKit
import Derived.Lib.Hide
import Derived.Laws.BitsAllLaws
namespace Go.Proofs.Ytbgpnjoghfjodaa

abbrev st (ss : List Int) (i : Nat) : Int := ss.getD i 0
def Okt (ss : List Int) (t : Int) : Prop := 0 ≤ t ∧ t < ss.length
instance (ss : List Int) (t : Int) : Decidable (Okt ss t) := by unfold Okt; infer_instance
def isB (ss : List Int) (t s : Int) : Bool := decide (Okt ss t ∧ st ss t.toNat = s)
def parkR (ss : List Int) (t : Int) : Bool × Int := if Okt ss t then (if st ss t.toNat = 1 then (false, 4) else if st ss t.toNat = 2 then (true, 0) else (false, 0)) else (false, 2)
def parkS (ss : List Int) (t : Int) : List Int := if Okt ss t then (if st ss t.toNat = 1 then ss else if st ss t.toNat = 2 then ss.set t.toNat 0 else ss.set t.toNat 1) else ss
def unpR (ss : List Int) (t : Int) : Bool × Int := if Okt ss t then (if st ss t.toNat = 1 then (true, 0) else (false, 0)) else (false, 2)
def unpS (ss : List Int) (t : Int) : List Int := if Okt ss t then (if st ss t.toNat = 1 then ss.set t.toNat 0 else ss.set t.toNat 2) else ss
def takeS (ss : List Int) (t s : Int) : List Int := if Okt ss t ∧ st ss t.toNat = s then ss.set t.toNat 0 else ss
def waitB (ss : List Int) (i : Nat) : Bool := decide (st ss i = 1)
def waitT (ss : List Int) (k : Nat) : List Int := ((List.range k).filter (waitB ss)).map Int.ofNat
def waitL (ss : List Int) : List Int := waitT ss ss.length
structure Vl (ss : List Int) : Prop where
  l0 : 1 ≤ ss.length
  l1 : ss.length ≤ 8
  bd : ∀ i, i < ss.length → 0 ≤ st ss i ∧ st ss i ≤ 2
theorem st_set (ss : List Int) (i j : Nat) (x : Int) (hi : i < ss.length) : st (ss.set i x) j = if i = j then x else st ss j := by
  unfold st
  rw [List.getD, List.getElem?_set]
  by_cases h : i = j
  · subst h; simp [hi]
  · simp [h, List.getD]
theorem st_out (ss : List Int) (i : Nat) (hi : ss.length ≤ i) : st ss i = 0 := by simp [st, List.getD, hi]
theorem Vl.set {ss : List Int} (h : Vl ss) {i : Nat} {x : Int} (hi : i < ss.length) (x0 : 0 ≤ x) (x1 : x ≤ 2) : Vl (ss.set i x) := by
  refine ⟨by simpa using h.l0, by simpa using h.l1, fun j hj => ?_⟩
  rw [st_set ss i j x hi]
  rw [List.length_set] at hj
  by_cases e : i = j
  · rw [if_pos e]; exact ⟨x0, x1⟩
  · rw [if_neg e]; exact h.bd j hj
theorem st_new (N i : Nat) : st (List.replicate N 0) i = 0 := by
  unfold st
  by_cases h : i < N <;> simp [List.getD, h]
theorem vl_new (N : Nat) (n0 : 1 ≤ N) (n1 : N ≤ 8) : Vl (List.replicate N 0) := ⟨by simpa using n0, by simpa using n1, fun i _ => by rw [st_new]; omega⟩
theorem Okt.n {ss : List Int} {t : Int} (h : Okt ss t) : ∃ i : Nat, t = i ∧ i < ss.length := by
  obtain ⟨i, rfl⟩ := Int.eq_ofNat_of_zero_le h.1
  exact ⟨i, rfl, by have := h.2; omega⟩
theorem okt_nat {ss : List Int} {i : Nat} (h : i < ss.length) : Okt ss i := ⟨by omega, by omega⟩
theorem park_bad {ss : List Int} {t : Int} (h : ¬ Okt ss t) : parkR ss t = (false, 2) ∧ parkS ss t = ss := by unfold parkR parkS; rw [if_neg h, if_neg h]; exact ⟨rfl, rfl⟩
theorem park_twice {ss : List Int} {i : Nat} (h : Okt ss i) (k : st ss i = 1) : parkR ss i = (false, 4) ∧ parkS ss i = ss := by
  unfold parkR parkS
  simp only [Int.toNat_natCast]
  rw [if_pos h, if_pos h, if_pos k, if_pos k]; exact ⟨rfl, rfl⟩
theorem park_tok {ss : List Int} {i : Nat} (h : Okt ss i) (k : st ss i = 2) : parkR ss i = (true, 0) ∧ parkS ss i = ss.set i 0 := by
  unfold parkR parkS
  simp only [Int.toNat_natCast]
  rw [if_pos h, if_pos h, if_neg (by omega), if_pos k, if_neg (by omega), if_pos k]; exact ⟨rfl, rfl⟩
theorem park_run {ss : List Int} {i : Nat} (h : Okt ss i) (k : st ss i = 0) : parkR ss i = (false, 0) ∧ parkS ss i = ss.set i 1 := by
  unfold parkR parkS
  simp only [Int.toNat_natCast]
  rw [if_pos h, if_pos h, if_neg (by omega), if_neg (by omega), if_neg (by omega), if_neg (by omega)]; exact ⟨rfl, rfl⟩
theorem unp_bad {ss : List Int} {t : Int} (h : ¬ Okt ss t) : unpR ss t = (false, 2) ∧ unpS ss t = ss := by unfold unpR unpS; rw [if_neg h, if_neg h]; exact ⟨rfl, rfl⟩
theorem unp_yes {ss : List Int} {i : Nat} (h : Okt ss i) (k : st ss i = 1) : unpR ss i = (true, 0) ∧ unpS ss i = ss.set i 0 := by
  unfold unpR unpS
  simp only [Int.toNat_natCast]
  rw [if_pos h, if_pos h, if_pos k, if_pos k]; exact ⟨rfl, rfl⟩
theorem unp_no {ss : List Int} {i : Nat} (h : Okt ss i) (k : st ss i ≠ 1) : unpR ss i = (false, 0) ∧ unpS ss i = ss.set i 2 := by
  unfold unpR unpS
  simp only [Int.toNat_natCast]
  rw [if_pos h, if_pos h, if_neg k, if_neg k]; exact ⟨rfl, rfl⟩
theorem is_yes {ss : List Int} {i : Nat} {s : Int} (h : Okt ss i) (k : st ss i = s) : isB ss i s = true := by unfold isB; simp only [Int.toNat_natCast]; exact decide_eq_true ⟨h, k⟩
theorem is_no {ss : List Int} {i : Nat} {s : Int} (k : st ss i ≠ s) : isB ss i s = false := by unfold isB; simp only [Int.toNat_natCast]; exact decide_eq_false fun e => k e.2
theorem is_bad {ss : List Int} {t s : Int} (h : ¬ Okt ss t) : isB ss t s = false := by unfold isB; exact decide_eq_false fun e => h e.1
theorem take_yes {ss : List Int} {i : Nat} {s : Int} (h : Okt ss i) (k : st ss i = s) : takeS ss i s = ss.set i 0 := by unfold takeS; simp only [Int.toNat_natCast]; rw [if_pos ⟨h, k⟩]
theorem take_no {ss : List Int} {t s : Int} (k : isB ss t s = false) : takeS ss t s = ss := by
  unfold isB at k; unfold takeS
  rw [if_neg (of_decide_eq_false k)]
theorem waitT_succ (ss : List Int) (k : Nat) : waitT ss (k + 1) = if waitB ss k = true then waitT ss k ++ [(k : Int)] else waitT ss k := by
  unfold waitT
  rw [List.range_succ, List.filter_append, List.map_append]
  cases h : waitB ss k <;> simp [h]
theorem waitT_len (ss : List Int) (k : Nat) : (waitT ss k).length ≤ k := by
  unfold waitT
  rw [List.length_map]
  exact Nat.le_trans (List.length_filter_le _ _) (by simp)
theorem parkS_len (ss : List Int) (t : Int) : (parkS ss t).length = ss.length := by
  unfold parkS
  by_cases h : Okt ss t
  · rw [if_pos h]
    by_cases h1 : st ss t.toNat = 1
    · rw [if_pos h1]
    · rw [if_neg h1]
      by_cases h2 : st ss t.toNat = 2
      · rw [if_pos h2, List.length_set]
      · rw [if_neg h2, List.length_set]
  · rw [if_neg h]
theorem unpS_len (ss : List Int) (t : Int) : (unpS ss t).length = ss.length := by
  unfold unpS
  by_cases h : Okt ss t
  · rw [if_pos h]
    by_cases h1 : st ss t.toNat = 1
    · rw [if_pos h1, List.length_set]
    · rw [if_neg h1, List.length_set]
  · rw [if_neg h]
theorem takeS_len (ss : List Int) (t s : Int) : (takeS ss t s).length = ss.length := by
  unfold takeS
  by_cases h : Okt ss t ∧ st ss t.toNat = s
  · rw [if_pos h, List.length_set]
  · rw [if_neg h]

/-! ### The bits -/
/-- The bit of a thread: s is 1 or 2. -/
def bit (s i : Nat) : Nat := s * 4 ^ i
theorem bit_pow (s i : Nat) (hs : s = 1 ∨ s = 2) : bit s i = 2 ^ (2 * i + (s - 1)) := by
  unfold bit
  rw [show (4 : Nat) = 2 ^ 2 from rfl, ← Nat.pow_mul]
  rcases hs with rfl | rfl
  · simp
  · simp [Nat.pow_succ, Nat.mul_comm]
theorem bit_lt (s i : Nat) (hs : s = 1 ∨ s = 2) (hi : i < 8) : bit s i < 65536 := by
  rw [bit_pow s i hs, show 65536 = 2 ^ 16 from rfl]
  exact Nat.pow_lt_pow_right (by omega) (by omega)
structure Bits (B : Nat) (ss : List Int) : Prop where
  lt : B < 65536
  b1 : ∀ i, B.testBit (2 * i) = decide (st ss i = 1)
  b2 : ∀ i, B.testBit (2 * i + 1) = decide (st ss i = 2)
theorem Bits.of {B : Nat} {ss : List Int} (h : Bits B ss) (s i : Nat) (hs : s = 1 ∨ s = 2) : B.testBit (2 * i + (s - 1)) = decide (st ss i = s) := by
  rcases hs with rfl | rfl
  · exact h.b1 i
  · exact h.b2 i
theorem Bits.mk' {B : Nat} {ss : List Int} (hB : B < 65536) (h : ∀ i s, (s = 1 ∨ s = 2) → B.testBit (2 * i + (s - 1)) = decide (st ss i = (s : Int))) : Bits B ss :=
  ⟨hB, fun i => h i 1 (.inl rfl), fun i => h i 2 (.inr rfl)⟩
theorem bits_new (N : Nat) : Bits 0 (List.replicate N 0) := Bits.mk' (by omega) fun i s hs => by
  rw [st_new, Nat.zero_testBit]
  exact (decide_eq_false (by omega)).symm
theorem and_pow (n i : Nat) : n &&& 2 ^ i = if n.testBit i = true then 2 ^ i else 0 := by
  refine Nat.eq_of_testBit_eq fun j => ?_
  rw [Nat.testBit_and, Nat.testBit_two_pow]
  by_cases e : i = j
  · subst e
    cases h : n.testBit i <;> simp
  · rw [decide_eq_false e, Bool.and_false]
    by_cases h : n.testBit i = true
    · rw [if_pos h, Nat.testBit_two_pow, decide_eq_false e]
    · rw [if_neg h, Nat.zero_testBit]
theorem Bits.and_no {B : Nat} {ss : List Int} (h : Bits B ss) {s i : Nat} (hs : s = 1 ∨ s = 2) (k : st ss i ≠ s) : B &&& bit s i = 0 := by
  rw [bit_pow s i hs, and_pow, h.of s i hs, decide_eq_false k]; simp
theorem Bits.and_yes {B : Nat} {ss : List Int} (h : Bits B ss) {s i : Nat} (hs : s = 1 ∨ s = 2) (k : st ss i = s) : B &&& bit s i = bit s i := by
  rw [bit_pow s i hs, and_pow, h.of s i hs, decide_eq_true k]; simp
theorem bit_pos (s i : Nat) (hs : s = 1 ∨ s = 2) : 0 < bit s i := by rw [bit_pow s i hs]; exact Nat.pow_pos (by omega)
theorem at_inj {i j s r : Nat} (hs : s = 1 ∨ s = 2) (hr : r = 1 ∨ r = 2) (e : 2 * i + (s - 1) = 2 * j + (r - 1)) : i = j ∧ s = r := by omega
theorem Bits.clear {B : Nat} {ss : List Int} (h : Bits B ss) {s i : Nat} (hs : s = 1 ∨ s = 2) (hi : i < ss.length) (hl : i < 8) (k : st ss i = s) : Bits (B &&& (65535 - bit s i)) (ss.set i 0) := by
  refine Bits.mk' (Nat.lt_of_le_of_lt Nat.and_le_left h.lt) fun j r hr => ?_
  have hb := bit_lt s i hs hl
  rw [st_set ss i j 0 hi, Nat.testBit_and, h.of r j hr, show 65535 - bit s i = 2 ^ 16 - (bit s i + 1) by omega, Nat.testBit_two_pow_sub_succ (by omega), bit_pow s i hs, Nat.testBit_two_pow]
  by_cases e : i = j
  · subst e
    rw [if_pos rfl, k, decide_eq_false (show ¬ ((0 : Int) = (r : Int)) by omega)]
    by_cases e2 : s = r
    · subst e2; simp
    · rw [decide_eq_false (by omega)]; simp
  · rw [if_neg e]
    by_cases q : st ss j = r
    · have hj : j < ss.length := by
        rcases Nat.lt_or_ge j ss.length with g | g
        · exact g
        · rw [st_out ss j g] at q; omega
      have h16 : 2 * j + (r - 1) < 16 := by
        rcases Nat.lt_or_ge (2 * j + (r - 1)) 16 with g | g
        · exact g
        · have := h.of r j hr
          rw [decide_eq_true q, Nat.testBit_lt_two_pow (Nat.lt_of_lt_of_le h.lt (by rw [show 65536 = 2 ^ 16 from rfl]; exact Nat.pow_le_pow_right (by omega) g))] at this
          cases this
      rw [decide_eq_true q, decide_eq_true h16, decide_eq_false (fun e' => e (at_inj hs hr e').1)]; rfl
    · rw [decide_eq_false q]; rfl
theorem Bits.put {B : Nat} {ss : List Int} (h : Bits B ss) {s i : Nat} (hs : s = 1 ∨ s = 2) (hi : i < ss.length) (hl : i < 8) (k : st ss i = 0 ∨ st ss i = s) : Bits (B ||| bit s i) (ss.set i s) := by
  refine Bits.mk' (by
    rw [show 65536 = 2 ^ 16 from rfl]
    exact Nat.or_lt_two_pow h.lt (by rw [show 2 ^ 16 = 65536 from rfl]; exact bit_lt s i hs hl)) fun j r hr => ?_
  rw [st_set ss i j s hi, Nat.testBit_or, h.of r j hr, bit_pow s i hs, Nat.testBit_two_pow]
  by_cases e : i = j
  · subst e
    rw [if_pos rfl]
    by_cases e2 : s = r
    · subst e2; simp
    · rw [decide_eq_false (show ¬ st ss i = r by omega), decide_eq_false (by omega), decide_eq_false (show ¬ ((s : Int) = (r : Int)) by omega)]; rfl
  · rw [if_neg e, decide_eq_false (show ¬ (2 * i + (s - 1) = 2 * j + (r - 1)) from fun e' => e (at_inj hs hr e').1), Bool.or_false]
end Go.Proofs.Ytbgpnjoghfjodaa
