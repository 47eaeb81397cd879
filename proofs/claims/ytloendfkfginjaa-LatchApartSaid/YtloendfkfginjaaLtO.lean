
/- LatchOne: its facts. -/
import Derived.Test.YtloendfkfginjaaLtL
namespace Go.Proofs.Ytloendfkfginjaa
open Go.RowKit

theorem heldT_mem (hs : List Int) (t : Int) (k i : Nat) (hi : i < (heldT hs t k).length) : ∃ j : Nat, (heldT hs t k).getD i 0 = j ∧ j < k ∧ 0 ≤ ho hs j ∧ ho hs j = t := by
  have h : (heldT hs t k).getD i 0 ∈ heldT hs t k := by
    simp only [List.getD, List.getElem?_eq_getElem hi, Option.getD_some]
    exact List.getElem_mem hi
  generalize (heldT hs t k).getD i 0 = x at *
  unfold heldT at h
  obtain ⟨j, hj, rfl⟩ := List.mem_map.1 h
  obtain ⟨h1, h2⟩ := List.mem_filter.1 hj
  unfold heldB at h2
  have := of_decide_eq_true h2
  exact ⟨j, rfl, List.mem_range.1 h1, this.1, this.2⟩
theorem heldT_lt (hs : List Int) (t : Int) (k i : Nat) (hi : i + 1 < (heldT hs t k).length) : (heldT hs t k).getD i 0 < (heldT hs t k).getD (i + 1) 0 := by
  have h : (heldT hs t k).Pairwise (· < ·) := by
    unfold heldT
    rw [List.pairwise_map]
    refine List.Pairwise.imp ?_ ((List.pairwise_lt_range).filter _)
    intro a b h
    exact Int.ofNat_lt.2 h
  have := (List.pairwise_iff_getElem.1 h) i (i + 1) (by omega) hi (by omega)
  simpa [List.getD, List.getElem?_eq_getElem hi, List.getElem?_eq_getElem (show i < (heldT hs t k).length by omega)] using this
/-- How many are held by threads below T. -/
def cnt (hs : List Int) (T k : Nat) : Nat := (List.range k).countP fun i => decide (0 ≤ ho hs i ∧ ho hs i < (T : Int))
theorem cnt_le (hs : List Int) (T k : Nat) : cnt hs T k ≤ k := by
  unfold cnt
  exact Nat.le_trans List.countP_le_length (by simp)
theorem cnt_zero (hs : List Int) (k : Nat) : cnt hs 0 k = 0 := by
  unfold cnt
  rw [List.countP_eq_zero]
  intro i _ e
  have := of_decide_eq_true e
  omega
theorem cnt_succ (hs : List Int) (T k : Nat) : cnt hs (T + 1) k = cnt hs T k + (heldT hs T k).length := by
  induction k with
  | zero => rfl
  | succ k ih =>
    have e1 : ∀ U : Nat, cnt hs U (k + 1) = cnt hs U k + if 0 ≤ ho hs k ∧ ho hs k < (U : Int) then 1 else 0 := fun U => by
      unfold cnt
      rw [List.range_succ, List.countP_append]
      simp [List.countP_cons]
    rw [e1, e1, ih, heldT_succ]
    unfold heldB
    by_cases h0 : 0 ≤ ho hs k
    · by_cases h1 : ho hs k = T
      · simp only [h0, h1, true_and, decide_true, if_true, List.length_append]
        rw [if_pos (by omega), if_neg (by omega)]; simp; omega
      · simp only [h0, h1, true_and, and_false, decide_false, Bool.false_eq_true, if_false]
        by_cases h2 : ho hs k < (T : Int)
        · rw [if_pos (by omega), if_pos h2]; omega
        · rw [if_neg (by omega), if_neg h2]; omega
    · simp only [h0, false_and, if_false, decide_false, Bool.false_eq_true]; omega
theorem cnt_all {hs : List Int} (h : Vl hs) : cnt hs 8 hs.length = takL hs := by
  unfold cnt takL takT
  refine List.countP_congr fun i hi => ?_
  have := (h.bd i (List.mem_range.1 hi)).2
  unfold takB
  generalize ho hs i = x at *
  simp; omega
/-- What the law notes of each latch: 0 for nobody. -/
def plus (hs : List Int) : List Int := hs.map (· + 1)
theorem plus_len (hs : List Int) : (plus hs).length = hs.length := by simp [plus]
theorem plus_at (hs : List Int) (i : Nat) (hi : i < hs.length) : (plus hs).getD i 0 = ho hs i + 1 := by simp [plus, ho, List.getD, hi]
theorem plus_set (hs : List Int) (i : Nat) (x : Int) : (plus hs).set i (x + 1) = plus (hs.set i x) := by simp [plus, List.map_set]
theorem plus_new (N : Nat) : plus (List.replicate N (-1)) = List.replicate N 0 := by simp [plus]
structure Ol (w W : World) (l : Nat) (hs : List Int) (F : Nat → Prop) (h N : Nat) (hb : List Int) : Prop where
  a : Acc w W l hs F
  b : IS W (.slice (some ⟨h, 0, none⟩) N N) (plus hb)
  hn : w.heap.size ≤ h
  hF : ¬ F h
  hN : hs.length = N
theorem Ol.nw {w W W' : World} {l h N : Nat} {hs hb : List Int} {F : Nat → Prop} (x : Ol w W l hs F h N hb) (k : Nw W W') : Ol w W' l hs F h N hb := ⟨x.a.step k, x.b.nw k, x.hn, x.hF, x.hN⟩
theorem Ol.to {w W W' : World} {l h N : Nat} {hs hs' hb : List Int} {F : Nat → Prop} (x : Ol w W l hs F h N hb) (k : AccTo w W l hs' F W') (e : hs'.length = hs.length) : ∃ F', Ol w W' l hs' F' h N hb := by
  obtain ⟨F', h1, h2, h3⟩ := k
  exact ⟨F', h1, x.b.tch h3 (fun g e => by simp [Value.ownBlock] at e; subst e; exact x.hF), x.hn, fun e => (h2 _ e).elim x.hF (fun q => by have := x.b.glt; omega), e.trans x.hN⟩
theorem Ol.put {w W : World} {l h N : Nat} {hs hb : List Int} {F : Nat → Prop} (x : Ol w W l hs F h N hb) (i : Nat) (z : Int) : Ol w (W.setCell ⟨h, i, none⟩ (.int .i64 (z + 1))) l hs F h N (hb.set i z) := by
  have t := setCell_at W ⟨h, i, none⟩ (.int .i64 (z + 1))
  refine ⟨x.a.other t (fun i e => (show i = h from e) ▸ x.hn) (fun i e q => x.hF ((show i = h from q) ▸ e)), ?_, x.hn, x.hF, x.hN⟩
  rw [← plus_set]
  exact x.b.set i (z + 1)
theorem Ol.facts {w W : World} {l h N : Nat} {hs hb : List Int} {F : Nat → Prop} (x : Ol w W l hs F h N hb) (i : Nat) (hi : i < N) (e : hb.length = N) : W.cell? ⟨h, i, none⟩ = some (.int .i64 (ho hb i + 1)) ∧ W.frozen? ⟨h, i, none⟩ = false ∧ h < W.heap.size := by
  have := x.b.cell i (by rw [plus_len, e]; exact hi)
  rw [plus_at hb i (by omega)] at this
  exact ⟨this, x.b.frozen i, x.b.glt⟩
theorem pick_q (n m r : Int) (hr : n % m = r) (hm : 0 < m) (hm' : m ≤ 9223372036854775807) (W : World) (j : Nat) :
    Calls Try.prog 18 #[.int .i64 n, .int .i64 m] (W.drewN j) fun e w'' => e = .returned (.int .i64 r) ∧ ∃ m', w'' = W.drewN m' := by
  subst hr
  exact Calls.quiet_of_same ((pick_any n m (W.drewN j) hm hm').mono fun _ _ ⟨h1, h2⟩ => ⟨h1, h2.symm⟩)
theorem ol_try {w W : World} {l h N : Nat} {hs hb : List Int} {F : Nat → Prop} (x : Ol w W l hs F h N hb) (k t : Int) (b : Bool) (E : Int) (hs' : List Int) (hR : tryR hs k t = (b, E) ∧ tryS hs k t = hs') :
    Calls Try.prog 10 #[.pointer (some ⟨l, 0, none⟩), .int .i64 k, .int .i64 t] W fun e W' => e = .returned (.tuple #[.bool b, .int .i64 E]) ∧ ∃ F', Ol w W' l hs' F' h N hb := by
  obtain ⟨h1, rfl⟩ := hR
  exact (acc_try x.a k t b E _ h1 rfl).mono fun _ _ ⟨h1, h2⟩ => ⟨h1, x.to h2 (tryS_len _ _ _)⟩
theorem ol_free {w W : World} {l h N : Nat} {hs hb : List Int} {F : Nat → Prop} (x : Ol w W l hs F h N hb) (k t : Int) (E : Int) (hs' : List Int) (hR : freeE hs k t = E ∧ freeS hs k t = hs') :
    Calls Try.prog 11 #[.pointer (some ⟨l, 0, none⟩), .int .i64 k, .int .i64 t] W fun e W' => e = .returned (.int .i64 E) ∧ ∃ F', Ol w W' l hs' F' h N hb := by
  obtain ⟨h1, rfl⟩ := hR
  exact (acc_free x.a k t E _ h1 rfl).mono fun _ _ ⟨h1, h2⟩ => ⟨h1, x.to h2 (freeS_len _ _ _)⟩
end Go.Proofs.Ytloendfkfginjaa
