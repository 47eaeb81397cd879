
/- How many of the names have each stripe: plain facts. -/
import Derived.Test.YtcffpbikjeimgaaDoorStripeA
namespace Go.Proofs.YtcffpbikjeimgaaDoor
open Go.ChangeShapes Go.WideShapes Go.ChangeAt Go.RowKit

def bump (c : List Int) (k : Int) : List Int := if k = -1 then c else c.set k.toNat (c.getD k.toNat 0 + 1)
def cnts (l : List (Int × Int)) (n : Int) : List Int := l.foldl (fun c z => bump c (ofS z.1 z.2 n)) (List.replicate n.toNat 0)
theorem bump_none (c : List Int) : bump c (-1) = c := if_pos rfl
theorem bump_some (c : List Int) (k : Int) (h : 0 ≤ k) : bump c k = c.set k.toNat (c.getD k.toNat 0 + 1) := if_neg (by omega)
theorem bump_len (c : List Int) (k : Int) : (bump c k).length = c.length := by unfold bump; split <;> simp
theorem cnts_snoc (l : List (Int × Int)) (z : Int × Int) (n : Int) : cnts (l ++ [z]) n = bump (cnts l n) (ofS z.1 z.2 n) := by simp [cnts]
theorem cnts_nil (n : Int) : cnts [] n = List.replicate n.toNat 0 := rfl
theorem snoc_ind {α : Type} {p : List α → Prop} (h0 : p []) (h1 : ∀ l z, p l → p (l ++ [z])) (l : List α) : p l := by
  have : ∀ m : List α, p m.reverse := fun m => by
    induction m with
    | nil => exact h0
    | cons a m ih => rw [List.reverse_cons]; exact h1 _ _ ih
  have := this l.reverse
  rwa [List.reverse_reverse] at this
theorem cnts_len (l : List (Int × Int)) (n : Int) : (cnts l n).length = n.toNat := by
  refine snoc_ind (p := fun l => (cnts l n).length = n.toNat) (by simp [cnts_nil]) (fun l z ih => ?_) l
  rw [cnts_snoc, bump_len, ih]
/-- How many names of the list have the stripe i. -/
def many (l : List (Int × Int)) (n : Int) (i : Nat) : Nat := (l.filter fun z => ofS z.1 z.2 n == (i : Int)).length
theorem many_snoc (l : List (Int × Int)) (z : Int × Int) (n : Int) (i : Nat) : many (l ++ [z]) n i = many l n i + if ofS z.1 z.2 n = (i : Int) then 1 else 0 := by
  unfold many
  rw [List.filter_append, List.length_append, List.filter_cons]
  by_cases h : ofS z.1 z.2 n = (i : Int)
  · simp [h]
  · simp [h]
theorem many_app (l m : List (Int × Int)) (n : Int) (i : Nat) : many (l ++ m) n i = many l n i + many m n i := by
  unfold many; rw [List.filter_append, List.length_append]
theorem many_le (l : List (Int × Int)) (n : Int) (i : Nat) : many l n i ≤ l.length := List.length_filter_le _ _
theorem bump_at (c : List Int) (k : Int) (i : Nat) (hi : i < c.length) (hk : k = -1 ∨ 0 ≤ k) : (bump c k).getD i 0 = c.getD i 0 + if k = (i : Int) then 1 else 0 := by
  rcases hk with rfl | hk
  · rw [bump_none, if_neg (by omega)]; simp
  · rw [bump_some c k hk]
    by_cases h : k = (i : Int)
    · subst h; simp [List.getD, hi]
    · have : k.toNat ≠ i := by omega
      simp [List.getD, this, h]
theorem cnts_at (l : List (Int × Int)) (n : Int) (i : Nat) (hi : i < n.toNat) : (cnts l n).getD i 0 = (many l n i : Int) := by
  refine snoc_ind (p := fun l => (cnts l n).getD i 0 = (many l n i : Int)) ?_ (fun l z ih => ?_) l
  · simp [cnts_nil, many, List.getD, hi]
  · rw [cnts_snoc, bump_at _ _ _ (by rw [cnts_len]; exact hi) ((ofS_range z.1 z.2 n).imp id (fun h => h.1)), ih, many_snoc]
    split <;> simp
theorem cnts_bound (l : List (Int × Int)) (n : Int) (i : Nat) : 0 ≤ (cnts l n).getD i 0 ∧ (cnts l n).getD i 0 ≤ l.length := by
  rcases Nat.lt_or_ge i n.toNat with h | h
  · rw [cnts_at l n i h]; have := many_le l n i; omega
  · have : (cnts l n).getD i 0 = 0 := by simp [List.getD, List.getElem?_eq_none (show (cnts l n).length ≤ i by rw [cnts_len]; exact h)]
    omega
theorem sum_set (c : List Int) : ∀ (i : Nat) (_ : i < c.length), (c.set i (c.getD i 0 + 1)).sum = c.sum + 1 := by
  induction c with
  | nil => intro i h; simp at h
  | cons a c ih =>
    intro i h
    cases i with
    | zero => simp; omega
    | succ i => have := ih i (by simpa using h); simp at this ⊢; omega
/-- How many names of the list are valid. -/
def vals (l : List (Int × Int)) : Nat := (l.filter fun z => lvl z.1 z.2 != -1).length
theorem vals_snoc (l : List (Int × Int)) (z : Int × Int) : vals (l ++ [z]) = vals l + if lvl z.1 z.2 = -1 then 0 else 1 := by
  unfold vals
  rw [List.filter_append, List.length_append, List.filter_cons]
  by_cases h : lvl z.1 z.2 = -1
  · simp [h]
  · simp [h]
theorem vals_le (l : List (Int × Int)) : vals l ≤ l.length := List.length_filter_le _ _
theorem cnts_sum (l : List (Int × Int)) (n : Int) (h0 : 1 ≤ n) (h1 : n ≤ 16) : (cnts l n).sum = (vals l : Int) := by
  refine snoc_ind (p := fun l => (cnts l n).sum = (vals l : Int)) ?_ (fun l z ih => ?_) l
  · simp [cnts_nil, vals]
  · rw [cnts_snoc, vals_snoc]
    by_cases h : lvl z.1 z.2 = -1
    · rw [ofS_bad _ _ _ h, bump_none, ih, if_pos h]; simp
    · have e := ofS_yes z.1 z.2 n h0 h1 h
      have m0 : 0 ≤ hsh z.1 z.2 % n := Int.emod_nonneg _ (by omega)
      have m1 : hsh z.1 z.2 % n < n := Int.emod_lt_of_pos _ (by omega)
      rw [e, bump_some _ _ m0, sum_set _ _ (by rw [cnts_len]; omega), ih, if_neg h]; omega
theorem sum_take (c : List Int) (k : Nat) (h : k < c.length) : (c.take (k + 1)).sum = (c.take k).sum + c.getD k 0 := by
  rw [List.take_succ_eq_append_getElem h, List.sum_append]; simp [List.getD, h]

/-! ### Lists of numbers in memory -/
def ICells (w : World) (b o : Nat) (zs : List Int) : Prop := b < w.heap.size ∧ ∀ k (_ : k < zs.length), w.cell? ⟨b, o + k, none⟩ = some (.int .i64 (zs.getD k 0))
theorem ICells.grown {w w' : World} {b o : Nat} {zs : List Int} (h : ICells w b o zs) (g : Nw w w') : ICells w' b o zs :=
  ⟨Nat.lt_of_lt_of_le h.1 g.sz, fun k hk => (g.cell h.1).trans (h.2 k hk)⟩
theorem ICells.set {w : World} {b : Nat} {zs : List Int} (h : ICells w b 0 zs) (i : Nat) (hi : i < zs.length) (v : Int) : ICells (w.setCell ⟨b, i, none⟩ (.int .i64 v)) b 0 (zs.set i v) := by
  refine ⟨by simpa using h.1, fun k hk => ?_⟩
  rw [List.length_set] at hk
  have h2 := h.2 k hk
  rw [Nat.zero_add] at h2 ⊢
  by_cases e : i = k
  · subst e
    rw [World.cell?_setCell_same (h := h2)]; simp [List.getD, hi]
  · rw [World.cell?_setCell_other (h := by simp [e]), h2]; simp [List.getD, e]
theorem icells_new (w : World) (n : Nat) (t : TypeId) : ICells (w.alloc (.cells (Array.replicate n (.int .i64 0)) t)) w.heap.size 0 (List.replicate n 0) := by
  refine ⟨by simp, fun k hk => ?_⟩
  simp at hk
  simp [go_sem, hk, List.getD]
/-- A block that may be written. -/
def Fz (w : World) (b : Nat) : Prop := ∀ j, w.frozen? ⟨b, j, none⟩ = false
theorem Fz.grown {w w' : World} {b : Nat} (h : Fz w b) (hb : b < w.heap.size) (g : Nw w w') : Fz w' b := fun j => (Below.frozen (p := ⟨b, j, none⟩) g hb).trans (h j)
theorem Fz.set {w : World} {b : Nat} (h : Fz w b) (a : Addr) (v : Value) : Fz (w.setCell a v) b := fun j => by rw [World.frozen?_setCell]; exact h j
theorem fz_new (w : World) (c : Array Value) (t : TypeId) : Fz (w.alloc (.cells c t)) w.heap.size := fun j => by simp [go_sem]
end Go.Proofs.YtcffpbikjeimgaaDoor
