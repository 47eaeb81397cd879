
/- Same on timers; lives. -/
import Derived.Test.YtolpccchhjcddaaTkQ
namespace Go.Proofs.Ytolpccchhjcddaa
open Go.RowKit Go.Shelf

/-- A value that reads as the timers. -/
abbrev TS (w : World) (v : Value) (l : List Tm) : Prop := w.ownsRow 0 28 3 v l.length (trows l)
theorem TS.form {w : World} {v : Value} {l : List Tm} (h : TS w v l) : (v = .slice none 0 0 ∧ l = []) ∨ ∃ g cap, v = .slice (some ⟨g, 0, none⟩) l.length cap ∧ TRow w g cap l := by
  rcases h.2 with ⟨rfl, h0⟩ | ⟨g, cap, cur, rfl, _⟩
  · exact .inl ⟨rfl, List.length_eq_zero_iff.1 h0⟩
  · exact .inr ⟨g, cap, rfl, h⟩
theorem TS.tch {S : Nat → Prop} {w w' : World} {v : Value} {l : List Tm} (h : TS w v l) (k : Tch S w w') (hn : ∀ g, v.ownBlock = some g → ¬ S g) : TS w' v l := by
  rcases h.form with ⟨rfl, rfl⟩ | ⟨g, cap, rfl, hr⟩
  · exact World.ownsRow_nil _ _ _ _
  · exact hr.tch k (hn g rfl)
theorem TS.nw {w w' : World} {v : Value} {l : List Tm} (h : TS w v l) (k : Nw w w') : TS w' v l := h.tch (Tch.nw (S := fun _ => False) k) (fun _ _ e => e)
set_option maxHeartbeats 1000000 in
theorem same_rows (g cap g' cap' : Nat) (l : List Tm) (w : World) (h : TRow w g cap l) (h' : TRow w g' cap' l) :
    Calls Try.prog 13 #[.slice (some ⟨g, 0, none⟩) l.length cap, .slice (some ⟨g', 0, none⟩) l.length cap'] w fun e w' => e = .returned (.bool true) ∧ Nw w w' := by
  have hm := Nat.le_trans h.cap_le.1 h.cap_le.2
  unfold maxLen at hm
  have H := Lib.hid (And.intro h h')
  clear h h'
  go_enter Try.func13, Try.ntmps13
  go_wp2
  go_loopw [5] (fun i wr => ∃ k : Nat, k ≤ l.length ∧ i = .int .i64 k ∧ Nw w wr) (fun i _ => l.length - (intOf i).toNat)
  case atStart => exact ⟨0, Nat.zero_le _, rfl, Nw.refl _⟩
  case round =>
    obtain ⟨k, hk, rfl, hG⟩ := hrel
    by_cases hlt : k < l.length
    · obtain ⟨c0, c1, c2⟩ := (H.out.1.kept (hG.block g H.out.1.lt)).cells k hlt
      obtain ⟨d0, d1, d2⟩ := (H.out.2.kept (hG.block g' H.out.2.lt)).cells k hlt
      generalize at' l k = x at *
      obtain ⟨x0, x1, x2⟩ := x
      simp only at c0 c1 c2 d0 d1 d2
      go_wp2_with fail
      go_quiet (fail)
      go_wp2
      go_roundw
      case rel => exact ⟨k + 1, by omega, by go_num, hG.drewN _⟩
      case measure => simp [intOf]; omega
    · go_wp2
      go_ret
      exact ⟨rfl, hG⟩
theorem same_nil (w : World) (v v' : Value) (h : (v = .slice none 0 0) ∨ ∃ g cap, v = .slice (some ⟨g, 0, none⟩) 0 cap) (h' : (v' = .slice none 0 0) ∨ ∃ g cap, v' = .slice (some ⟨g, 0, none⟩) 0 cap) :
    Calls Try.prog 13 #[v, v'] w fun e w' => e = .returned (.bool true) ∧ Nw w w' := by
  rcases h with rfl | ⟨g, cap, rfl⟩ <;> rcases h' with rfl | ⟨g', cap', rfl⟩
  all_goals
    go_enter Try.func13, Try.ntmps13
    go_wp2
    refine wp_loop_rounds 1 ?_
    repeat (rw [rounds_succ]; go_wp2)
    go_ret
    exact ⟨rfl, Nw.refl _⟩
theorem same_any (w : World) (v v' : Value) (l : List Tm) (h : TS w v l) (h' : TS w v' l) :
    Calls Try.prog 13 #[v, v'] w fun e w' => e = .returned (.bool true) ∧ Nw w w' := by
  rcases h.form with ⟨rfl, rfl⟩ | ⟨g, cap, rfl, hr⟩
  · rcases h'.form with ⟨rfl, _⟩ | ⟨g', cap', rfl, hr'⟩
    · exact same_nil w _ _ (.inl rfl) (.inl rfl)
    · exact same_nil w _ _ (.inl rfl) (.inr ⟨_, _, rfl⟩)
  · rcases h'.form with ⟨rfl, rfl⟩ | ⟨g', cap', rfl, hr'⟩
    · exact same_nil w _ _ (.inr ⟨_, _, rfl⟩) (.inl rfl)
    · exact same_rows g cap g' cap' l w hr hr'
end Go.Proofs.Ytolpccchhjcddaa
