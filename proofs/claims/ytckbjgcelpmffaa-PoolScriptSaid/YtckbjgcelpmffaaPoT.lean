
/- Same[int] on two lists of one length. -/
import Derived.Test.YtckbjgcelpmffaaPoS
namespace Go.Proofs.Ytckbjgcelpmffaa
open Go.RowKit
set_option linter.unusedVariables false

theorem take_next {l l' : List Int} {k : Nat} (h : l.take k = l'.take k) (h1 : k < l.length) (h2 : k < l'.length) (e : l.getD k 0 = l'.getD k 0) : l.take (k + 1) = l'.take (k + 1) := by
  have a : l.getD k 0 = l[k] := by simp [List.getD, h1]
  have b : l'.getD k 0 = l'[k] := by simp [List.getD, h2]
  rw [List.take_succ_eq_append_getElem h1, List.take_succ_eq_append_getElem h2, h, ← a, ← b, e]
set_option maxHeartbeats 1000000 in
theorem same_rows_dec (g cap g' cap' n : Nat) (l l' : List Int) (w : World) (h : IS w (.slice (some ⟨g, 0, none⟩) n cap) l) (h' : IS w (.slice (some ⟨g', 0, none⟩) n cap') l') :
    Calls Try.prog 16 #[.slice (some ⟨g, 0, none⟩) n cap, .slice (some ⟨g', 0, none⟩) n cap'] w fun e w' => e = .returned (.bool (decide (l = l'))) ∧ Nw w w' := by
  have hn := h.nlen
  have hn' := h'.nlen
  have hm := h.len
  unfold maxLen at hm
  rw [← hn] at hm
  have H := Lib.hid (And.intro h (And.intro h' (And.intro hn hn')))
  clear h h' hn hn'
  obtain ⟨b, hb⟩ : ∃ b, decide (l = l') = b := ⟨_, rfl⟩
  have HB := Lib.hid hb
  rw [hb]
  clear hb
  go_enter Try.func16, Try.ntmps16
  go_wp2
  go_loopw [5] (fun i wr => ∃ k : Nat, k ≤ n ∧ i = .int .i64 k ∧ Hid (l.take k = l'.take k) ∧ Nw w wr) (fun i _ => n - (intOf i).toNat)
  case atStart => exact ⟨0, Nat.zero_le _, rfl, Lib.hid rfl, Nw.refl _⟩
  case round =>
    obtain ⟨k, hk, rfl, HT, hG⟩ := hrel
    by_cases hlt : k < n
    · have k1 : k < l.length := by rw [← H.out.2.2.1]; exact hlt
      have k2 : k < l'.length := by rw [← H.out.2.2.2]; exact hlt
      have c0 := (H.out.1.nw hG).cell k k1
      have d0 := (H.out.2.1.nw hG).cell k k2
      have HN := Lib.hid (fun e => take_next HT.out k1 k2 e)
      have HX := Lib.hid (show l.getD k 0 ≠ l'.getD k 0 → b = false from fun e => by
        rw [← HB.out]
        refine decide_eq_false fun q => e ?_
        rw [q])
      clear k1 k2
      by_cases e : l.getD k 0 = l'.getD k 0
      · have HT' := Lib.hid (HN.out e)
        rw [← e] at d0
        clear HN HX e
        generalize l.getD k 0 = x at *
        go_wp2_with fail
        go_quiet (fail)
        go_wp2
        go_roundw
        case rel => exact ⟨k + 1, by omega, by go_num, HT', hG.drewN _⟩
        case measure => simp [intOf]; omega
      · have hbf := HX.out e
        have he2 : (l.getD k 0 == l'.getD k 0) = false := by simpa using e
        clear HN HX HB
        subst hbf
        generalize l.getD k 0 = x at *
        generalize l'.getD k 0 = y at *
        go_wp2_with fail
        go_quiet (fail)
        go_wp2
        go_ret
        exact ⟨rfl, hG.drewN _⟩
    · obtain rfl : k = n := by omega
      have hbt : b = true := by
        rw [← HB.out]
        refine decide_eq_true ?_
        have := HT.out
        rwa [List.take_of_length_le (by rw [H.out.2.2.1]; exact Nat.le_refl _), List.take_of_length_le (by rw [← H.out.2.2.2]; exact Nat.le_refl _)] at this
      subst hbt
      go_wp2
      go_ret
      exact ⟨rfl, hG⟩
theorem same_dec (w : World) (v v' : Value) (l l' : List Int) (h : IS w v l) (h' : IS w v' l') (hl : l.length = l'.length) :
    Calls Try.prog 16 #[v, v'] w fun e w' => e = .returned (.bool (decide (l = l'))) ∧ Nw w w' := by
  rcases Nat.eq_zero_or_pos l.length with h0 | h0
  · obtain rfl := List.length_eq_zero_iff.1 h0
    obtain rfl := List.length_eq_zero_iff.1 (hl.symm.trans h0)
    exact same_any w v v' [] h h'
  · rcases h.form with ⟨rfl, rfl⟩ | ⟨g, cap, rfl⟩
    · simp at h0
    · rcases h'.form with ⟨rfl, rfl⟩ | ⟨g', cap', rfl⟩
      · rw [hl] at h0; simp at h0
      · rw [← hl] at h' ⊢
        exact same_rows_dec g cap g' cap' l.length l l' w h h'
/-- A list that lent has returned stays beside the pool. -/
def PRw (W : World) (v : Value) (l : List Int) (F : Nat → Prop) : Prop := IS W v l ∧ ∀ k, v.ownBlock = some k → ¬ F k
theorem PRw.nw {W W' : World} {v : Value} {l : List Int} {F : Nat → Prop} (h : PRw W v l F) (k : Nw W W') : PRw W' v l F := ⟨h.1.nw k, h.2⟩
theorem PRw.to {W W' : World} {v : Value} {l : List Int} {F F' : Nat → Prop} (h : PRw W v l F) (k : Tch F W W') (hF : ∀ k, F' k → F k ∨ W.heap.size ≤ k) : PRw W' v l F' :=
  ⟨h.1.tch k h.2, fun k e q => (hF k q).elim (h.2 k e) (fun r => by have := IS.lt h.1 e; omega)⟩
theorem mod_in (x : Int) (N : Nat) (hN : 0 < N) : ∃ j : Nat, x % (N : Int) = j ∧ j < N := by
  have h0 : 0 ≤ x % (N : Int) := Int.emod_nonneg _ (by omega)
  have h1 : x % (N : Int) < N := Int.emod_lt_of_pos _ (by omega)
  obtain ⟨j, hj⟩ := Int.eq_ofNat_of_zero_le h0
  exact ⟨j, hj, by omega⟩
theorem cast_inj {l m : List Nat} (h : castL l = castL m) : l = m := by
  refine (List.map_inj_right (fun a b e => ?_)).1 h
  exact Int.ofNat_inj.1 e
end Go.Proofs.Ytckbjgcelpmffaa
