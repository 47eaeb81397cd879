/- Plain facts on groups of modes, and on what an append to one of two lists of the call's own does. -/
import Derived.Test.YtcmdcbpbfjpnpaaModeD
namespace Go.Proofs.Ytcmdcbpbfjpnpaa
open Go.ChangeShapes Go.WideShapes Go.ChangeAt Go.RowKit

theorem cov_sup_all : ∀ i < 7, ∀ j < 7, ∀ k < 7, (covT (Int.ofNat i) (supT (Int.ofNat j) (Int.ofNat k)) == (covT (Int.ofNat i) (Int.ofNat j) && covT (Int.ofNat i) (Int.ofNat k))) = true := by decide +kernel
theorem cov_sup (m a b : Int) (hm : Md m) (ha : Md a) (hb : Md b) : covT m (supT a b) = (covT m a && covT m b) := by
  obtain ⟨i, rfl⟩ := Int.eq_ofNat_of_zero_le hm.1
  obtain ⟨j, rfl⟩ := Int.eq_ofNat_of_zero_le ha.1
  obtain ⟨k, rfl⟩ := Int.eq_ofNat_of_zero_le hb.1
  exact eq_of_beq (cov_sup_all i (by have := hm.2; omega) j (by have := ha.2; omega) k (by have := hb.2; omega))
theorem cov_basic_all : ∀ i < 7, ∀ j < 7, (covT (Int.ofNat i) 0 && covT (Int.ofNat i) (Int.ofNat i) && (!(covT (Int.ofNat i) (Int.ofNat j) && covT (Int.ofNat j) (Int.ofNat i)) || i == j)) = true := by decide +kernel
theorem cov_zero (m : Int) (hm : Md m) : covT m 0 = true := by
  obtain ⟨i, rfl⟩ := Int.eq_ofNat_of_zero_le hm.1
  have := cov_basic_all i (by have := hm.2; omega) 0 (by decide)
  simp only [Bool.and_eq_true] at this
  exact this.1.1
theorem cov_self (m : Int) (hm : Md m) : covT m m = true := by
  obtain ⟨i, rfl⟩ := Int.eq_ofNat_of_zero_le hm.1
  have := cov_basic_all i (by have := hm.2; omega) 0 (by decide)
  simp only [Bool.and_eq_true] at this
  exact this.1.2
theorem cov_anti (a b : Int) (ha : Md a) (hb : Md b) (h1 : covT a b = true) (h2 : covT b a = true) : a = b := by
  obtain ⟨i, rfl⟩ := Int.eq_ofNat_of_zero_le ha.1
  obtain ⟨j, rfl⟩ := Int.eq_ofNat_of_zero_le hb.1
  have := cov_basic_all i (by have := ha.2; omega) j (by have := hb.2; omega)
  simp only [Bool.and_eq_true, Bool.or_eq_true, Bool.not_eq_true', beq_iff_eq] at this
  rcases this.2 with h | h
  · have e : (covT (Int.ofNat i) (Int.ofNat j) && covT (Int.ofNat j) (Int.ofNat i)) = true := by rw [show Int.ofNat i = (i : Int) from rfl, show Int.ofNat j = (j : Int) from rfl, h1, h2]; rfl
    rw [e] at h; cases h
  · rw [h]

theorem cov_fold (m : Int) (hm : Md m) (l : List Int) : ∀ a : Int, Md a → (∀ z ∈ l, Md z) → covT m (l.foldl supT a) = (covT m a && l.all (covT m)) := by
  induction l with
  | nil => intro a _ _; simp
  | cons z r ih =>
    intro a ha h
    have hz := h z (List.mem_cons_self ..)
    rw [List.foldl_cons, ih _ (sup_md a z ha hz) (fun y hy => h y (List.mem_cons_of_mem _ hy)), cov_sup m a z hm ha hz, List.all_cons, Bool.and_assoc]
theorem cov_grp (m : Int) (hm : Md m) (l : List Int) (h : ∀ z ∈ l, Md z) : covT m (grpT l) = l.all (covT m) := by
  unfold grpT
  rw [cov_fold m hm l 0 ⟨by decide, by decide⟩ h, cov_zero m hm]; rfl
theorem grp_ext (l l' : List Int) (h : ∀ z ∈ l, Md z) (hl : ∀ z, z ∈ l ↔ z ∈ l') : grpT l = grpT l' := by
  have h' : ∀ z ∈ l', Md z := fun z hz => h z ((hl z).2 hz)
  have e : ∀ m, l.all (covT m) = l'.all (covT m) := fun m => by
    rw [Bool.eq_iff_iff, List.all_eq_true, List.all_eq_true]
    exact ⟨fun g z hz => g z ((hl z).2 hz), fun g z hz => g z ((hl z).1 hz)⟩
  have g1 := grp_md l h
  have g2 := grp_md l' h'
  refine cov_anti _ _ g1 g2 ?_ ?_
  · rw [cov_grp _ g1 l' h', ← e, ← cov_grp _ g1 l h, cov_self _ g1]
  · rw [cov_grp _ g2 l h, e, ← cov_grp _ g2 l' h', cov_self _ g2]
theorem grp_covers (l : List Int) (h : ∀ z ∈ l, Md z) (z : Int) (hz : z ∈ l) : covT (grpT l) z = true := by
  have g1 := grp_md l h
  have := cov_self _ g1
  rw [cov_grp _ g1 l h, List.all_eq_true] at this
  exact this z hz

/-- The list turned by t. -/
def turned (A : List Int) (t : Nat) : List Int := (List.range A.length).map fun i => A.getD ((i + t) % A.length) 0
theorem turned_length (A : List Int) (t : Nat) : (turned A t).length = A.length := by simp [turned]
theorem turned_at (A : List Int) (t k : Nat) (h : k < A.length) : (turned A t)[k]? = some (A.getD ((k + t) % A.length) 0) := by simp [turned, h]
theorem turned_mem (A : List Int) (t : Nat) (ht : t < A.length) (z : Int) : z ∈ A ↔ z ∈ turned A t := by
  have hn : 0 < A.length := by omega
  constructor
  · intro h
    obtain ⟨j, hj, rfl⟩ := List.getElem_of_mem h
    refine List.mem_of_getElem? (i := (j + (A.length - t)) % A.length) ?_
    rw [turned_at A t _ (Nat.mod_lt _ hn)]
    have e : ((j + (A.length - t)) % A.length + t) % A.length = j := by
      rw [Nat.mod_add_mod, show j + (A.length - t) + t = j + A.length by omega, Nat.add_mod_right, Nat.mod_eq_of_lt hj]
    rw [e]
    simp [List.getD, hj]
  · intro h
    simp only [turned, List.mem_map, List.mem_range] at h
    obtain ⟨i, _, rfl⟩ := h
    have hq : (i + t) % A.length < A.length := Nat.mod_lt _ hn
    simp only [List.getD, List.getElem?_eq_getElem hq, Option.getD_some]
    exact List.getElem_mem hq

theorem take_all (l : List Int) (p : Int → Bool) (j : Nat) (h : j < l.length) : (l.take (j + 1)).all p = ((l.take j).all p && p l[j]) := by
  rw [take_snoc l j h, List.all_append]; simp

/-! ### Two lists of the call's own -/
def Apart (v u : Value) : Prop := ∀ g, v.ownBlock = some g → u.ownBlock = some g → False
theorem Apart.symm {v u : Value} (h : Apart v u) : Apart u v := fun g h1 h2 => h g h2 h1
theorem step_app0 {B T : Nat} {w wr w1 : World} {va va' vb : Value} {k n : Nat} {xs ys : List Value} (hB : B ≤ wr.heap.size) (ha : wr.ownsRow B T 1 va k xs) (hb : wr.ownsRow B T 1 vb n ys) (hd : Apart va vb) (hw : Below B w wr)
    (hg : wr.grownBy w1 va.ownBlock) (hf : va'.ownBlock = va.ownBlock ∨ va'.ownBlock = some wr.heap.size) :
    w1.ownsRow B T 1 vb n ys ∧ Apart va' vb ∧ Below B w w1 := by
  refine ⟨hb.kept hg ?_, ?_, hw.grown hg hB (fun j hj => (ha.lt j hj).1)⟩
  · by_cases h : vb.ownBlock = none
    · exact .inl h
    · refine .inr fun e => ?_
      cases hv : vb.ownBlock with
      | none => exact h hv
      | some g => exact hd g (by rw [← e, hv]) hv
  · intro g h1 h2
    have := (hb.lt g h2).2
    rcases hf with e | e
    · exact hd g (by rw [← e, h1]) h2
    · rw [e] at h1; injection h1 with h1; omega
theorem step_app {B T : Nat} {w wr w1 : World} {va va' vb : Value} {o : Obj} {k n : Nat} {xs ys : List Value} (hB : B ≤ wr.heap.size) (ha : wr.ownsRow B T 1 va k xs) (hb : wr.ownsRow B T 1 vb n ys) (hd : Apart va vb) (hw : Below B w wr)
    (hg : (wr.alloc o).grownBy w1 va.ownBlock) (hf : va'.ownBlock = va.ownBlock ∨ va'.ownBlock = some (wr.alloc o).heap.size) :
    w1.ownsRow B T 1 vb n ys ∧ Apart va' vb ∧ Below B w w1 :=
  step_app0 (by show B ≤ (wr.heap.push _).size; simp; omega) (ha.alloc o) (hb.alloc o) hd (hw.alloc hB o) hg hf
theorem own_cells {w : World} {B T g c n : Nat} {xs : List Int} (h : w.ownsRow B T 1 (.slice (some ⟨g, 0, none⟩) n c) n (xs.map (Value.int .i64))) : Cells w g 0 xs ∧ xs.length = n := by
  refine ⟨⟨(h.lt g rfl).2, fun k hk => ?_⟩, by have := h.1; simpa using this⟩
  have := h.cells (g := g) rfl k (.int .i64 xs[k]) (by simp [hk])
  rwa [Addr.add_lit] at this
theorem own_some {w : World} {B T n : Nat} {v : Value} {xs : List Value} (h : w.ownsRow B T 1 v n xs) (hn : 0 < n) : ∃ g c, v = .slice (some ⟨g, 0, none⟩) n c := by
  rcases h.2 with ⟨_, h0⟩ | ⟨g, c, cur, e, _⟩
  · omega
  · exact ⟨g, c, e⟩
theorem group_own {w : World} {B T g c n : Nat} {xs : List Int} (h : w.ownsRow B T 1 (.slice (some ⟨g, 0, none⟩) n c) n (xs.map (Value.int .i64))) (hm : ∀ z ∈ xs, Md z) (hn : n ≤ 1000) (r : Int) (hr : grpT xs = r) :
    Calls Try.prog 16 #[.slice (some ⟨g, 0, none⟩) n c] w fun e w' => e = .returned (.int .i64 r) ∧ Nw w w' := by
  obtain ⟨hc, rfl⟩ := own_cells h
  subst hr
  exact group_some g 0 c xs w hc hm (by omega)
end Go.Proofs.Ytcmdcbpbfjpnpaa
