
/- Complete of whatever is right; what HistorySpans asks of spans. -/
import Derived.Test.YtekjmgdockfaiaaDoorHsW
namespace Go.Proofs.YtekjmgdockfaiaaDoor
open Go.RowKit
set_option linter.unusedVariables false      -- a contract need not use every name

theorem app_nil (x : Option Addr) (c : Nat) (ty : TypeId) (w : World) : (Builtin.append_ #[23, 23] ty #[.slice none 0 0, .slice x 0 c]).run Tryd.prog w = .ok (.slice none 0 0) w := by
  obtain ⟨i0, hi, hz0, hz1, hz2⟩ := info_parts infoE
  cases x <;> simp [Builtin.append_, run_underlying Tryd.underlying23, sizeOf, typeInfo, hi, Builtin.lenOf, Builtin.firstCells, loadCells, loadCellsFrom]
set_option maxRecDepth 100000 in
set_option maxHeartbeats 1000000 in
theorem complete_none (a : Option Addr) (c : Nat) (w : World) : Calls Tryd.prog 11 #[.slice a 0 c] w fun e w' => ∃ v', e = .returned v' ∧ Nw w w' ∧ EvAt w' v' [] := by
  have HP := Lib.hid (show Calls Tryd.prog 19 #[.slice a 0 c] w fun e w' => ∃ v', e = .returned v' ∧ Nw w w' ∧ SpAt w' v' [] from pendingSpans_any (.slice a 0 c) [] w (by simp) (by simp) ⟨a, c, rfl, .inl rfl⟩ (by simp [trk]))
  have ha := Lib.hid app_nil
  cases a
  all_goals
    go_enter Tryd.func11, Tryd.ntmps11
    go_wp2_with (go_at_call 19; refine HP.out.mono ?_; rintro e w1 ⟨v1, rfl, g1, ⟨a1, c1, rfl, hr⟩⟩)
    clear hr
    refine wp_loop_rounds 1 ?_
    rw [rounds_succ]
    go_wp2_with (at_builtin; refine wpList_append_run rfl (.tmp 25) (.tmp 28) 23 rfl _ _ _ _ rfl rfl (ha.out _ _ _ _) ?_)
    go_ret
    exact ⟨_, rfl, g1, ⟨none, 0, rfl, .inl rfl⟩⟩
/-- Complete(l) of a right history whose slice has its capacity. -/
theorem complete_any (a : Option Addr) (c : Nat) (l : List Ev) (w : World) (hl : l.length ≤ 800) (hcap : l.length ≤ c) (hfit : ∀ e ∈ l, fitE e) (h : EvAt w (.slice a l.length c) l) {S : List Sp} (hx : (trk l 0 []).2.2 = 0) (hS : (trk l 0 []).1 = S) (hSl : S.length ≤ 900) :
    Calls Tryd.prog 11 #[.slice a l.length c] w fun e w' => ∃ v', e = .returned v' ∧ Nw w w' ∧ EvAt w' v' (keepE (doneC S) l) := by
  have hp := pendingSpans_any (.slice a l.length c) l w hl hfit h (by rw [hS]; omega)
  rw [hS] at hp
  obtain ⟨a', c', q, hr⟩ := h
  simp only [Value.slice.injEq] at q
  obtain ⟨rfl, _, rfl⟩ := q
  rcases hr with rfl | ⟨b, o, rfl, hc⟩
  · exact complete_none a c w
  · exact complete_rows b o c l S (pendL S) w (by omega) hcap hc (cut_of hx hS) (Nat.le_trans (List.length_filter_le _ _) hSl) (Lib.hid hp)
end Go.Proofs.YtekjmgdockfaiaaDoor
