
/- Words of kinds and codes; Same of events. -/
import Derived.Test.YtekjmgdockfaiaaDoorHsQ
namespace Go.Proofs.YtekjmgdockfaiaaDoor
open Go.RowKit
set_option linter.unusedVariables false      -- a contract need not use every name

theorem codeText_1 (w : World) : Calls Tryd.prog 24 #[.int .i64 1] w fun e w' => e = .returned (.string ⟨#[103, 114, 97, 110, 116, 101, 100]⟩) ∧ Nw w w' := by
  go_enter Tryd.func24, Tryd.ntmps24
  go_wp2
  go_ret
  exact ⟨rfl, Nw.refl _⟩
theorem codeText_9 (w : World) : Calls Tryd.prog 24 #[.int .i64 9] w fun e w' => e = .returned (.string ⟨#[63]⟩) ∧ Nw w w' := by
  go_enter Tryd.func24, Tryd.ntmps24
  go_wp2
  go_ret
  exact ⟨rfl, Nw.refl _⟩
theorem kindText_1 (w : World) : Calls Tryd.prog 25 #[.int .i64 1] w fun e w' => e = .returned (.string ⟨#[97, 99, 113, 117, 105, 114, 101]⟩) ∧ Nw w w' := by
  go_enter Tryd.func25, Tryd.ntmps25
  go_wp2
  go_ret
  exact ⟨rfl, Nw.refl _⟩
theorem kindText_9 (w : World) : Calls Tryd.prog 25 #[.int .i64 9] w fun e w' => e = .returned (.string ⟨#[63]⟩) ∧ Nw w w' := by
  go_enter Tryd.func25, Tryd.ntmps25
  go_wp2
  go_ret
  exact ⟨rfl, Nw.refl _⟩
set_option maxRecDepth 100000 in
set_option maxHeartbeats 2000000 in
theorem sameE_rows (b o c b' o' c' : Nat) (l : List Ev) (w : World) (hm : l.length ≤ 1000) (h : ECells w b o l) (h' : ECells w b' o' l) :
    Calls Tryd.prog 10 #[.slice (some ⟨b, o, none⟩) l.length c, .slice (some ⟨b', o', none⟩) l.length c'] w fun e w' => e = .returned (.bool true) ∧ Nw w w' := by
  have H := Lib.hid (And.intro h h')
  clear h h'
  go_enter Tryd.func10, Tryd.ntmps10
  go_wp2
  go_loopw [5] (fun i wr => ∃ k : Nat, k ≤ l.length ∧ i = .int .i64 k ∧ Nw w wr) (fun i _ => l.length - (intOf i).toNat)
  case atStart => exact ⟨0, Nat.zero_le _, rfl, Nw.refl _⟩
  case round =>
    obtain ⟨k, hk, rfl, hG⟩ := hrel
    by_cases hlt : k < l.length
    · have hce := (H.out.1.nw hG).2 k hlt
      have hde := (H.out.2.nw hG).2 k hlt
      generalize l[k] = s at *
      obtain ⟨s0, s1, s2, ⟨s3, s4, s5, s6, s7, s8⟩⟩ := s
      have c0 := hce 0 _ rfl
      have c1 := hce 1 _ rfl
      have c2 := hce 2 _ rfl
      have c3 := hce 3 _ rfl
      have c4 := hce 4 _ rfl
      have c5 := hce 5 _ rfl
      have c6 := hce 6 _ rfl
      have c7 := hce 7 _ rfl
      have c8 := hce 8 _ rfl
      simp only [Nat.add_zero] at c0
      have d0 := hde 0 _ rfl
      have d1 := hde 1 _ rfl
      have d2 := hde 2 _ rfl
      have d3 := hde 3 _ rfl
      have d4 := hde 4 _ rfl
      have d5 := hde 5 _ rfl
      have d6 := hde 6 _ rfl
      have d7 := hde 7 _ rfl
      have d8 := hde 8 _ rfl
      simp only [Nat.add_zero] at d0
      clear hce hde
      have HG := Lib.hid hG
      clear hG
      go_wp2_with fail
      go_quiet (fail)
      go_wp2
      go_roundw
      case rel => exact ⟨k + 1, by omega, by go_num, HG.out.drewN _⟩
      case measure => simp [intOf]; omega
    · have HG := Lib.hid hG
      clear hG
      go_wp2
      go_ret
      exact ⟨rfl, HG.out⟩
theorem sameE_none (a a' : Option Addr) (c c' : Nat) (w : World) : Calls Tryd.prog 10 #[.slice a 0 c, .slice a' 0 c'] w fun e w' => e = .returned (.bool true) ∧ Nw w w' := by
  go_enter Tryd.func10, Tryd.ntmps10
  go_wp2
  refine wp_loop_rounds 1 ?_
  repeat (rw [rounds_succ]; go_wp2)
  go_ret
  exact ⟨rfl, Nw.refl _⟩
theorem sameE_any (v v' : Value) (l : List Ev) (w : World) (hm : l.length ≤ 1000) (h : EvAt w v l) (h' : EvAt w v' l) : Calls Tryd.prog 10 #[v, v'] w fun e w' => e = .returned (.bool true) ∧ Nw w w' := by
  obtain ⟨a, c, rfl, rfl | ⟨b, o, rfl, hc⟩⟩ := h
  · obtain ⟨a', c', rfl, _⟩ := h'
    exact sameE_none a a' c c' w
  · obtain ⟨a', c', rfl, rfl | ⟨b', o', rfl, hc'⟩⟩ := h'
    · exact sameE_none _ a' c c' w
    · exact sameE_rows b o c b' o' c' l w hm hc hc'
end Go.Proofs.YtekjmgdockfaiaaDoor
