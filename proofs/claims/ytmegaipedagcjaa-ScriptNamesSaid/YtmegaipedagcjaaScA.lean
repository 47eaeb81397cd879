
/- Op: conditions, argUnless. -/
import Derived.Test.YtmegaipedagcjaaScA0
namespace Go.Proofs.Ytmegaipedagcjaa
open Go.RowKit

theorem has_any (b : Bw) (x : Int) (w : World) : Calls Try.prog 33 #[bwV b, .int .i64 x] w fun e w' => e = .returned (.bool (inB b x)) ∧ Nw w w' := by
  obtain ⟨l, h⟩ := b
  simp only [bwV, inB]
  by_cases h1 : l ≤ x
  · by_cases h2 : x ≤ h
    · have d1 : decide (l ≤ x) = true := by simpa using h1
      have d2 : decide (x ≤ h) = true := by simpa using h2
      go_enter Try.func33, Try.ntmps33
      go_wp2
      go_ret
      exact ⟨by first | (simp; done) | simp [d1, d2], (Nw.refl w).alloc _⟩
    · have d1 : decide (l ≤ x) = true := by simpa using h1
      have d2 : decide (x ≤ h) = false := by simpa using h2
      go_enter Try.func33, Try.ntmps33
      go_wp2
      go_ret
      exact ⟨by first | (simp; done) | simp [d1, d2], (Nw.refl w).alloc _⟩
  · have d1 : decide (l ≤ x) = false := by simpa using h1
    go_enter Try.func33, Try.ntmps33
    go_wp2
    go_ret
    exact ⟨by first | (simp; done) | simp [d1], (Nw.refl w).alloc _⟩

/-- A row of truths. -/
def BCells (w : World) (b o : Nat) (l : List Bool) : Prop := ∀ i, i < l.length → w.cell? ⟨b, o + i, none⟩ = some (.bool (l.getD i true))
theorem any_false (l : List Bool) (k : Nat) (hk : k ≤ l.length) (h : ∀ i, i < k → l.getD i true = true) (he : k = l.length) : l.all id = true := by
  subst he
  rw [List.all_eq_true]
  intro x hx
  obtain ⟨i, hi, rfl⟩ := List.getElem_of_mem hx
  have := h i hi
  simpa [List.getD, hi] using this
theorem all_not (l : List Bool) (k : Nat) (hk : k < l.length) (h : l.getD k true = false) : l.all id = false := by
  rw [List.all_eq_false]
  refine ⟨l[k], List.getElem_mem hk, ?_⟩
  simp [List.getD, hk] at h
  simp [h]
set_option maxHeartbeats 1000000 in
theorem index_any (b o c : Nat) (l : List Bool) (w : World) (hm : l.length ≤ 1000) (h : BCells w b o l) : Calls Try.prog 63 #[.slice (some ⟨b, o, none⟩) l.length c, .bool false] w fun e w' =>
    ∃ r, e = .returned (.int .i64 r) ∧ decide (r ≥ 0) = !(l.all id) ∧ w' = w := by
  have H := Lib.hid h
  clear h
  go_enter Try.func63, Try.ntmps63
  go_wp2
  go_loopw [8] (fun i wr => ∃ k : Nat, k ≤ l.length ∧ i = .int .i64 k ∧ (∀ i, i < k → l.getD i true = true) ∧ wr = w) (fun i _ => l.length - (intOf i).toNat)
  case atStart => exact ⟨0, Nat.zero_le _, rfl, fun i hi => absurd hi (by omega), rfl⟩
  case round =>
    obtain ⟨k, hk, rfl, hA, rfl⟩ := hrel
    have HA := Lib.hid hA
    clear hA
    by_cases hlt : k < l.length
    · have c0 := H.out k hlt
      rcases hx : l.getD k true with _ | _
      · rw [hx] at c0
        have hno := Lib.hid (all_not l k hlt hx)
        go_wp2
        go_ret
        exact ⟨_, rfl, by rw [hno.out]; simp, rfl⟩
      · rw [hx] at c0
        go_wp2
        go_roundw
        case rel => exact ⟨k + 1, by omega, by go_num, fun i hi => by
          by_cases e : i = k
          · subst e; exact hx
          · exact HA.out i (by omega), by first | rfl | trivial⟩
        case measure => simp [intOf]; omega
    · have hal := Lib.hid (any_false l k hk HA.out (by omega))
      go_wp2
      go_ret
      exact ⟨-1, rfl, by rw [hal.out]; rfl, rfl⟩
theorem contains_any (b o c : Nat) (l : List Bool) (w : World) (hm : l.length ≤ 1000) (h : BCells w b o l) : Calls Try.prog 51 #[.slice (some ⟨b, o, none⟩) l.length c, .bool false] w fun e w' =>
    e = .returned (.bool !(l.all id)) ∧ w' = w := by
  have H := Lib.hid (index_any b o c l w hm h)
  clear h
  generalize (!(l.all id)) = B at *
  go_enter Try.func51, Try.ntmps51
  go_wp2_with (go_at_call 63; refine H.out.mono ?_; rintro e w' ⟨r, rfl, hr, rfl⟩)
  go_ret
  exact ⟨by first | rw [hr] | rfl, rfl⟩
theorem argUnless_any (b o c : Nat) (l : List Bool) (w : World) (hm : l.length ≤ 1000) (h : BCells w b o l) : Calls Try.prog 32 #[.slice (some ⟨b, o, none⟩) l.length c] w fun e w' =>
    e = .returned (.int .i64 (if l.all id = true then 0 else 2)) ∧ w' = w := by
  have H := Lib.hid (contains_any b o c l w hm h)
  clear h
  rcases hB : l.all id with _ | _
  · rw [hB] at H
    go_enter Try.func32, Try.ntmps32
    go_wp2_with (go_at_call 51; refine H.out.mono ?_; rintro e w' ⟨rfl, rfl⟩)
    go_ret
    exact ⟨rfl, rfl⟩
  · rw [hB] at H
    go_enter Try.func32, Try.ntmps32
    go_wp2_with (go_at_call 51; refine H.out.mono ?_; rintro e w' ⟨rfl, rfl⟩)
    go_ret
    exact ⟨rfl, rfl⟩
/-- Five conditions. -/
theorem argUnless_five (b c : Nat) (b0 b1 b2 b3 b4 : Bool) (w : World) (h0 : w.cell? ⟨b, 0, none⟩ = some (.bool b0)) (h1 : w.cell? ⟨b, 1, none⟩ = some (.bool b1)) (h2 : w.cell? ⟨b, 2, none⟩ = some (.bool b2)) (h3 : w.cell? ⟨b, 3, none⟩ = some (.bool b3)) (h4 : w.cell? ⟨b, 4, none⟩ = some (.bool b4)) :
    Calls Try.prog 32 #[.slice (some ⟨b, 0, none⟩) 5 c] w fun e w' => e = .returned (.int .i64 (if (b0 && (b1 && (b2 && (b3 && b4)))) = true then 0 else 2)) ∧ Nw w w' := by
  refine (argUnless_any b 0 c [b0, b1, b2, b3, b4] w (by simp) (fun i hi => ?_)).mono ?_
  · simp at hi
    have : i = 0 ∨ i = 1 ∨ i = 2 ∨ i = 3 ∨ i = 4 := by omega
    rcases this with rfl | rfl | rfl | rfl | rfl
    · exact h0
    · exact h1
    · exact h2
    · exact h3
    · exact h4
  · rintro e w' ⟨rfl, rfl⟩
    refine ⟨?_, Nw.refl _⟩
    simp [List.all_cons]
theorem argUnless_new (b0 b1 b2 b3 b4 : Bool) (w : World) :
    Calls Try.prog 32 #[.slice (some ⟨w.heap.size, 0, none⟩) 5 5] (w.alloc (.cells #[.bool b0, .bool b1, .bool b2, .bool b3, .bool b4] 4)) fun e w' => e = .returned (.int .i64 (if (b0 && (b1 && (b2 && (b3 && b4)))) = true then 0 else 2)) ∧ Nw (w.alloc (.cells #[.bool b0, .bool b1, .bool b2, .bool b3, .bool b4] 4)) w' :=
  argUnless_five w.heap.size 5 b0 b1 b2 b3 b4 _ (by simp [go_sem]) (by simp [go_sem]) (by simp [go_sem]) (by simp [go_sem]) (by simp [go_sem])
end Go.Proofs.Ytmegaipedagcjaa
