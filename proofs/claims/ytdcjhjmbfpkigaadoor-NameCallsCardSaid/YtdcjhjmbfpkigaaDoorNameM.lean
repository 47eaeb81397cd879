/- Names and texts as lists of bytes: what the parts of a text stand for. Nothing of the program. -/
import Derived.Lib.AtoiAll
import Derived.Lib.IndexMore
import Derived.Lib.Strings
import Derived.Lib.ItoaNum
import Derived.Test.YtdcjhjmbfpkigaaDoorNameE
namespace Go.Proofs.YtdcjhjmbfpkigaaDoor
open Go.Lib

/-- The number behind a letter, and whether there is one. -/
def endI (l : List UInt8) : Int := match atoiAll l with
  | .ok v => v
  | .range => atoiSat l
  | _ => 0
def naI (p l : List UInt8) : Int := endI (trimPrefix l p)
def naB (p l : List UInt8) : Bool := hasPrefix l p && (match atoiAll (trimPrefix l p) with
  | .ok _ => true
  | _ => false)
/-- What the parts of a text that is not the database's stand for. -/
def prT (l : List UInt8) : Int := naI [116] (cut l [46]).1
def prR (l : List UInt8) : Int := if naB [116] (cut l [46]).1 && (cut l [46]).2.2 then naI [114] (cut l [46]).2.1 else -1
def prB (l : List UInt8) : Bool := naB [116] (cut l [46]).1 && (!(cut l [46]).2.2 || naB [114] (cut l [46]).2.1)

theorem index_none : ∀ (a : List UInt8), (∀ x ∈ a, x ≠ 46) → index a [46] = -1
  | [], _ => rfl
  | x :: r, h => by
    have hx := h x (List.mem_cons_self ..)
    have hr := index_none r (fun y hy => h y (List.mem_cons_of_mem _ hy))
    have e : ([46] : List UInt8).isPrefixOf (x :: r) = false := by simp [List.isPrefixOf]; exact fun h => hx h.symm
    unfold index
    rw [e, hr]
    rfl
theorem index_dot : ∀ (a b : List UInt8), (∀ x ∈ a, x ≠ 46) → index (a ++ 46 :: b) [46] = a.length
  | [], b, _ => by simp [index, List.isPrefixOf]
  | x :: r, b, h => by
    have hx := h x (List.mem_cons_self ..)
    have hr := index_dot r b (fun y hy => h y (List.mem_cons_of_mem _ hy))
    have e : ([46] : List UInt8).isPrefixOf (x :: (r ++ 46 :: b)) = false := by simp [List.isPrefixOf]; exact fun h => hx h.symm
    show index (x :: (r ++ 46 :: b)) [46] = _
    unfold index
    rw [e, hr]
    have : ((r.length : Int) == -1) = false := by rw [beq_eq_false_iff_ne]; omega
    simp [this]
theorem cut_none (a : List UInt8) (h : ∀ x ∈ a, x ≠ 46) : cut a [46] = (a, [], false) := by unfold cut; rw [index_none a h]; rfl
theorem cut_dot (a b : List UInt8) (h : ∀ x ∈ a, x ≠ 46) : cut (a ++ 46 :: b) [46] = (a, b, true) := by
  unfold cut
  rw [index_dot a b h, if_pos (by omega)]
  simp

theorem dig_one : ∀ i < 10, atoiAll [UInt8.ofNat (48 + i)] = .ok (Int.ofNat i) := by decide +kernel
theorem dig_two : ∀ i < 100, atoiAll [UInt8.ofNat (48 + i / 10), UInt8.ofNat (48 + i % 10)] = .ok (Int.ofNat i) := by decide +kernel
theorem dot_one : ∀ i < 10, UInt8.ofNat (48 + i) ≠ 46 := by decide +kernel
theorem atoi_dig (t : Int) (h0 : 0 ≤ t) (h1 : t < 100) : atoiAll (dig t) = .ok t := by
  obtain ⟨i, rfl⟩ := Int.eq_ofNat_of_zero_le h0
  unfold dig
  rw [show ((i : Int)).toNat = i by omega]
  by_cases h : i < 10
  · rw [decDigits_one h]; exact dig_one i h
  · rw [decDigits_two h (by omega)]; exact dig_two i (by omega)
theorem dig_dot (t : Int) (h0 : 0 ≤ t) (h1 : t < 100) : ∀ x ∈ dig t, x ≠ 46 := by
  unfold dig
  by_cases h : t.toNat < 10
  · rw [decDigits_one h]
    intro x hx
    obtain rfl := List.mem_singleton.1 hx
    exact dot_one _ h
  · rw [decDigits_two h (by omega)]
    intro x hx
    rcases List.mem_cons.1 hx with rfl | hx
    · exact dot_one _ (by omega)
    · obtain rfl := List.mem_singleton.1 hx
      exact dot_one _ (by omega)
theorem trim_cons (c : UInt8) (l : List UInt8) : trimPrefix (c :: l) [c] = l := by simp [trimPrefix, hasPrefix, List.isPrefixOf]
theorem has_cons (c : UInt8) (l : List UInt8) : hasPrefix (c :: l) [c] = true := by simp [hasPrefix, List.isPrefixOf]
theorem naI_dig (c : UInt8) (t : Int) (h0 : 0 ≤ t) (h1 : t < 100) : naI [c] (c :: dig t) = t := by unfold naI endI; rw [trim_cons, atoi_dig t h0 h1]
theorem naB_dig (c : UInt8) (t : Int) (h0 : 0 ≤ t) (h1 : t < 100) : naB [c] (c :: dig t) = true := by unfold naB; rw [trim_cons, has_cons, atoi_dig t h0 h1]; rfl
theorem cut_tab (t : Int) (h0 : 0 ≤ t) (h1 : t < 100) : cut (116 :: dig t) [46] = (116 :: dig t, [], false) :=
  cut_none _ (fun x hx => by rcases List.mem_cons.1 hx with rfl | hx; decide; exact dig_dot t h0 h1 x hx)
theorem cut_rec (t r : Int) (h0 : 0 ≤ t) (h1 : t < 100) : cut (116 :: (dig t ++ 46 :: 114 :: dig r)) [46] = (116 :: dig t, 114 :: dig r, true) :=
  cut_dot (116 :: dig t) (114 :: dig r) (fun x hx => by rcases List.mem_cons.1 hx with rfl | hx; decide; exact dig_dot t h0 h1 x hx)
/-- The texts of tables and records are taken apart to what they were made of. -/
theorem pr_tab (t : Int) (h0 : 0 ≤ t) (h1 : t < 100) : prT (116 :: dig t) = t ∧ prR (116 :: dig t) = -1 ∧ prB (116 :: dig t) = true := by
  unfold prT prR prB
  rw [cut_tab t h0 h1]
  refine ⟨naI_dig 116 t h0 h1, ?_, ?_⟩
  · simp
  · simp [naB_dig 116 t h0 h1]
theorem pr_rec (t r : Int) (h0 : 0 ≤ t) (h1 : t < 100) (h2 : 0 ≤ r) (h3 : r < 100) : prT (116 :: (dig t ++ 46 :: 114 :: dig r)) = t ∧ prR (116 :: (dig t ++ 46 :: 114 :: dig r)) = r ∧ prB (116 :: (dig t ++ 46 :: 114 :: dig r)) = true := by
  unfold prT prR prB
  rw [cut_rec t r h0 h1]
  refine ⟨naI_dig 116 t h0 h1, ?_, ?_⟩
  · simp [naB_dig 116 t h0 h1, naI_dig 114 r h2 h3]
  · simp [naB_dig 116 t h0 h1, naB_dig 114 r h2 h3]
/-- The mark of a name that is not valid has no parts. -/
theorem pr_mark : prB [63] = false := by decide +kernel
end Go.Proofs.YtdcjhjmbfpkigaaDoor
