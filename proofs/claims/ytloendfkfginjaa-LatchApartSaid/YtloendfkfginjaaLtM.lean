
/- Latches: plain facts. -1: nobody. -/
import Derived.WalkKit
import Derived.Lib.Hide
namespace Go.Proofs.Ytloendfkfginjaa

/-- Who holds latch i. -/
abbrev ho (hs : List Int) (i : Nat) : Int := hs.getD i (-1)
def Okl (hs : List Int) (k t : Int) : Prop := 0 ≤ k ∧ k < hs.length ∧ 0 ≤ t ∧ t < 8
instance (hs : List Int) (k t : Int) : Decidable (Okl hs k t) := by unfold Okl; infer_instance
def tryR (hs : List Int) (k t : Int) : Bool × Int := if Okl hs k t then (if ho hs k.toNat = t then (false, 4) else if 0 ≤ ho hs k.toNat then (false, 0) else (true, 0)) else (false, 2)
def tryS (hs : List Int) (k t : Int) : List Int := if Okl hs k t ∧ ho hs k.toNat < 0 then hs.set k.toNat t else hs
def freeE (hs : List Int) (k t : Int) : Int := if Okl hs k t then (if ho hs k.toNat = t then 0 else 6) else 2
def freeS (hs : List Int) (k t : Int) : List Int := if Okl hs k t ∧ ho hs k.toNat = t then hs.set k.toNat (-1) else hs
def holdR (hs : List Int) (k : Int) : Int × Bool := if 0 ≤ k ∧ k < hs.length ∧ 0 ≤ ho hs k.toNat then (ho hs k.toNat, true) else (0, false)
def heldB (hs : List Int) (t : Int) (i : Nat) : Bool := decide (0 ≤ ho hs i ∧ ho hs i = t)
def heldT (hs : List Int) (t : Int) (k : Nat) : List Int := ((List.range k).filter (heldB hs t)).map Int.ofNat
def heldL (hs : List Int) (t : Int) : List Int := heldT hs t hs.length
def takB (hs : List Int) (i : Nat) : Bool := decide (0 ≤ ho hs i)
def takT (hs : List Int) (k : Nat) : Nat := (List.range k).countP (takB hs)
def takL (hs : List Int) : Nat := takT hs hs.length
/-- Valid: 1 to 16 latches, each held by nobody or a thread. -/
structure Vl (hs : List Int) : Prop where
  l0 : 1 ≤ hs.length
  l1 : hs.length ≤ 16
  bd : ∀ i, i < hs.length → -1 ≤ ho hs i ∧ ho hs i ≤ 7
theorem tryS_len (hs : List Int) (k t : Int) : (tryS hs k t).length = hs.length := by unfold tryS; split <;> simp
theorem freeS_len (hs : List Int) (k t : Int) : (freeS hs k t).length = hs.length := by unfold freeS; split <;> simp
theorem ho_set (hs : List Int) (i j : Nat) (x : Int) (hi : i < hs.length) : ho (hs.set i x) j = if i = j then x else ho hs j := by
  unfold ho
  by_cases e : i = j
  · subst e; simp [List.getD, hi]
  · simp [List.getD, e, List.getElem?_set]
theorem Vl.set {hs : List Int} (h : Vl hs) {i : Nat} {x : Int} (hi : i < hs.length) (h0 : -1 ≤ x) (h1 : x ≤ 7) : Vl (hs.set i x) := by
  refine ⟨by rw [List.length_set]; exact h.l0, by rw [List.length_set]; exact h.l1, fun j hj => ?_⟩
  rw [List.length_set] at hj
  rw [ho_set hs i j x hi]
  split
  · exact ⟨h0, h1⟩
  · exact h.bd j hj
theorem Okl.n {hs : List Int} {k t : Int} (h : Okl hs k t) : ∃ i j : Nat, k = i ∧ t = j ∧ i < hs.length ∧ j < 8 := ⟨k.toNat, t.toNat, by unfold Okl at h; omega, by unfold Okl at h; omega, by unfold Okl at h; omega, by unfold Okl at h; omega⟩
theorem Vl.try {hs : List Int} (h : Vl hs) (k t : Int) : Vl (tryS hs k t) := by
  unfold tryS
  split
  · rename_i q
    obtain ⟨i, j, rfl, rfl, hi, hj⟩ := q.1.n
    exact h.set (by simpa using hi) (by omega) (by omega)
  · exact h
theorem Vl.free {hs : List Int} (h : Vl hs) (k t : Int) : Vl (freeS hs k t) := by
  unfold freeS
  split
  · rename_i q
    obtain ⟨i, j, rfl, rfl, hi, hj⟩ := q.1.n
    exact h.set (by simpa using hi) (by omega) (by omega)
  · exact h
theorem vl_new (N : Nat) (h0 : 1 ≤ N) (h1 : N ≤ 16) : Vl (List.replicate N (-1)) := by
  refine ⟨by simpa, by simpa, fun i hi => ?_⟩
  simp at hi
  simp [ho, List.getD, List.getElem?_replicate, hi]
theorem ho_new (N i : Nat) : ho (List.replicate N (-1)) i = -1 := by
  simp only [ho, List.getD, List.getElem?_replicate]
  split <;> rfl
theorem try_bad {hs : List Int} {k t : Int} (h : ¬ Okl hs k t) : tryR hs k t = (false, 2) ∧ tryS hs k t = hs := by
  unfold tryR tryS
  rw [if_neg h, if_neg (fun e => h e.1)]; exact ⟨rfl, rfl⟩
theorem try_free {hs : List Int} {i j : Nat} (h : Okl hs i j) (k : ho hs i = -1) : tryR hs i j = (true, 0) ∧ tryS hs i j = hs.set i j := by
  unfold tryR tryS
  simp only [Int.toNat_natCast]
  rw [if_pos h, if_neg (by omega), if_neg (by omega), if_pos ⟨h, by omega⟩]; exact ⟨rfl, rfl⟩
theorem try_own {hs : List Int} {i j : Nat} (h : Okl hs i j) (k : ho hs i = j) : tryR hs i j = (false, 4) ∧ tryS hs i j = hs := by
  unfold tryR tryS
  simp only [Int.toNat_natCast]
  rw [if_pos h, if_pos k, if_neg (fun e => by have := e.2; omega)]; exact ⟨rfl, rfl⟩
theorem try_other {hs : List Int} {i j : Nat} (h : Okl hs i j) (k0 : 0 ≤ ho hs i) (k : ho hs i ≠ j) : tryR hs i j = (false, 0) ∧ tryS hs i j = hs := by
  unfold tryR tryS
  simp only [Int.toNat_natCast]
  rw [if_pos h, if_neg k, if_pos k0, if_neg (fun e => by have := e.2; omega)]; exact ⟨rfl, rfl⟩
theorem free_bad {hs : List Int} {k t : Int} (h : ¬ Okl hs k t) : freeE hs k t = 2 ∧ freeS hs k t = hs := by
  unfold freeE freeS
  rw [if_neg h, if_neg (fun e => h e.1)]; exact ⟨rfl, rfl⟩
theorem free_own {hs : List Int} {i j : Nat} (h : Okl hs i j) (k : ho hs i = j) : freeE hs i j = 0 ∧ freeS hs i j = hs.set i (-1) := by
  unfold freeE freeS
  simp only [Int.toNat_natCast]
  rw [if_pos h, if_pos k, if_pos ⟨h, k⟩]; exact ⟨rfl, rfl⟩
theorem free_other {hs : List Int} {i j : Nat} (h : Okl hs i j) (k : ho hs i ≠ j) : freeE hs i j = 6 ∧ freeS hs i j = hs := by
  unfold freeE freeS
  simp only [Int.toNat_natCast]
  rw [if_pos h, if_neg k, if_neg (fun e => k e.2)]; exact ⟨rfl, rfl⟩
theorem heldT_succ (hs : List Int) (t : Int) (k : Nat) : heldT hs t (k + 1) = if heldB hs t k = true then heldT hs t k ++ [(k : Int)] else heldT hs t k := by
  unfold heldT
  rw [List.range_succ, List.filter_append, List.map_append]
  cases h : heldB hs t k <;> simp [List.filter_cons, h]
theorem heldT_len (hs : List Int) (t : Int) (k : Nat) : (heldT hs t k).length ≤ k := by
  unfold heldT
  rw [List.length_map]
  exact Nat.le_trans (List.length_filter_le _ _) (by simp)
theorem takT_succ (hs : List Int) (k : Nat) : takT hs (k + 1) = if takB hs k = true then takT hs k + 1 else takT hs k := by
  unfold takT
  rw [List.range_succ, List.countP_append]
  cases h : takB hs k <;> simp [h]
theorem takT_le (hs : List Int) (k : Nat) : takT hs k ≤ k := by
  unfold takT
  exact Nat.le_trans List.countP_le_length (by simp)
end Go.Proofs.Ytloendfkfginjaa
