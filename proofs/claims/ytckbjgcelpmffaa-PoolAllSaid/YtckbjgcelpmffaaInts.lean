
/- Rows of int of the call's own; make([]int, n), append of one, Same[int], Pick. -/
import Derived.Test.YtckbjgcelpmffaaTch
import Derived.Test.YtckbjgcelpmffaaRegion
import Derived.Deep.RegionHeld3
import Derived.Deep.QuietTactic
import Derived.BigQuiet
namespace Go.Proofs.Ytckbjgcelpmffaa
open Go.RowKit

abbrev IS (w : World) (v : Value) (l : List Int) : Prop := w.ownsRow 0 3 1 v l.length (l.map (Value.int .i64))
theorem IS.form {w : World} {v : Value} {l : List Int} (h : IS w v l) : (v = .slice none 0 0 ∧ l = []) ∨ ∃ g cap, v = .slice (some ⟨g, 0, none⟩) l.length cap := by
  rcases h.2 with ⟨rfl, h0⟩ | ⟨g, cap, cur, rfl, _⟩
  · exact .inl ⟨rfl, List.length_eq_zero_iff.1 h0⟩
  · exact .inr ⟨g, cap, rfl⟩
theorem IS.tch {S : Nat → Prop} {w w' : World} {v : Value} {l : List Int} (h : IS w v l) (k : Tch S w w') (hn : ∀ g, v.ownBlock = some g → ¬ S g) : IS w' v l := by
  refine ⟨h.1, ?_⟩
  rcases h.2 with h0 | ⟨g, cap, cur, rfl, hb, hg, rest⟩
  · exact .inl h0
  · exact .inr ⟨g, cap, cur, rfl, hb, (k.block g (Array.getElem?_eq_some_iff.1 hg).1 (hn g rfl)).trans hg, rest⟩
theorem IS.nw {w w' : World} {v : Value} {l : List Int} (h : IS w v l) (k : Nw w w') : IS w' v l := h.tch (Tch.nw (S := fun _ => False) k) (fun _ _ e => e)
theorem IS.nil (w : World) : IS w (.slice none 0 0) [] := World.ownsRow_nil _ _ _ _
theorem IS.nlen {w : World} {g cap n : Nat} {l : List Int} (h : IS w (.slice (some ⟨g, 0, none⟩) n cap) l) : n = l.length := by
  rcases h.2 with ⟨h', _⟩ | ⟨g', cap', cur, h', _⟩
  · simp at h'
  · simp only [Value.slice.injEq] at h'
    exact h'.2.1
theorem IS.cell {w : World} {g cap n : Nat} {l : List Int} (h : IS w (.slice (some ⟨g, 0, none⟩) n cap) l) (i : Nat) (hi : i < l.length) : w.cell? ⟨g, i, none⟩ = some (.int .i64 (l.getD i 0)) := by
  have e := h.nlen
  subst e
  exact (World.ownsRow.cellAt h i (by omega)).trans (by simp [List.getD, hi])
theorem IS.frozen {w : World} {g cap n : Nat} {l : List Int} (h : IS w (.slice (some ⟨g, 0, none⟩) n cap) l) (j : Nat) : w.frozen? ⟨g, j, none⟩ = false := by
  have e := h.nlen
  subst e
  exact World.ownsRow.frozenAt h j
theorem IS.lt {w : World} {v : Value} {l : List Int} (h : IS w v l) {k : Nat} (hk : v.ownBlock = some k) : k < w.heap.size := (World.ownsRow.lt h k hk).2
theorem IS.glt {w : World} {g cap n : Nat} {l : List Int} (h : IS w (.slice (some ⟨g, 0, none⟩) n cap) l) : g < w.heap.size := h.lt rfl
theorem IS.len {w : World} {v : Value} {l : List Int} (h : IS w v l) : l.length ≤ maxLen := by
  rcases h.2 with ⟨rfl, h0⟩ | ⟨g', cap', cur, h', _, _, h1, h2, _⟩
  · rw [h0]; exact Nat.zero_le _
  · exact Nat.le_trans h1 h2
theorem IS.set {w : World} {g cap n : Nat} {l : List Int} (h : IS w (.slice (some ⟨g, 0, none⟩) n cap) l) (i : Nat) (x : Int) : IS (w.setCell ⟨g, i, none⟩ (.int .i64 x)) (.slice (some ⟨g, 0, none⟩) n cap) (l.set i x) := by
  have e := h.nlen
  subst e
  have h1 := (World.ownsRow.stored h i (.int .i64 x)).1
  unfold IS
  rw [List.length_set, List.map_set]
  exact h1
theorem IS.box {w : World} {v : Value} {l : List Int} (h : IS w v l) : ∃ ao cap, v = .slice ao l.length cap ∧ (0 < l.length → ∃ g, ao = some ⟨g, 0, none⟩ ∧ v.ownBlock = some g) := by
  rcases h.form with ⟨rfl, rfl⟩ | ⟨g, cap, rfl⟩
  · exact ⟨none, 0, rfl, fun h => by simp at h⟩
  · exact ⟨_, cap, rfl, fun _ => ⟨g, rfl, rfl⟩⟩
theorem infoI : (Try.prog.info? 3).map (fun i => (i.zero, i.size, i.bytes)) = some (some (.int .i64 0), 1, 8) := by kernel_rfl
theorem IS.push (w : World) (v : Value) (l : List Int) (x : Int) (h : IS w v l) (hsm : l.length ≤ 100000) :
    ∃ v' w1, (Builtin.append_ #[30, 30] 30 #[v, .slice (some ⟨w.heap.size, 0, none⟩) 1 1]).run Try.prog (w.alloc (.cells #[.int .i64 x] 3)) = .ok v' w1 ∧ IS w1 v' (l ++ [x]) ∧ Tch (fun k => v.ownBlock = some k) w w1 ∧
      (∀ k, v'.ownBlock = some k → v.ownBlock = some k ∨ w.heap.size ≤ k) ∧ (∃ g cap, v' = .slice (some ⟨g, 0, none⟩) (l.length + 1) cap) := by
  obtain ⟨i0, hi, hz0, hz1, hz2⟩ := info_parts infoI
  have ha : IS (w.alloc (.cells #[.int .i64 x] 3)) v l := h.nw ((Nw.refl w).alloc _)
  have hc : (w.alloc (.cells #[.int .i64 x] 3)).cell? ⟨w.heap.size, 0, none⟩ = some (.int .i64 x) := by simp [go_sem]
  obtain ⟨v', w1, hrun, ho, hg, hp⟩ := run_append_fresh (P := Try.prog) (w.alloc (.cells #[.int .i64 x] 3)) 0 30 30 3 i0 _ 1 8 Try.underlying30 hi hz0 hz1 hz2 rfl (by decide) v l.length _ ha
    ⟨w.heap.size, 0, none⟩ 1 1 [.int .i64 x] rfl (by
      intro j u hu
      match j, hu with
      | 0, hu => simp at hu; subst hu; exact hc) (by simp [Value.oneCell']) (by unfold maxLen; omega) (by omega) (Nat.zero_le _)
  have hI : IS w1 v' (l ++ [x]) := by
    unfold IS
    rw [List.length_append, List.map_append]
    exact ho
  refine ⟨v', w1, hrun, hI, (Tch.alloc (Tch.refl _ w) _).grown hg (fun k e => .inl e), fun k e => ?_, ?_⟩
  · rcases hp with hp | hp
    · exact .inl (hp ▸ e)
    · rw [hp] at e
      simp at e
      exact .inr (by omega)
  · rcases hI.form with ⟨_, q⟩ | ⟨g, cap, rfl⟩
    · simp at q
    · exact ⟨g, cap, by simp⟩
theorem mk_ints (w : World) (N : Nat) (hN : N ≤ 1000) : (Instr.makeSlice 30 (.int .i64 N) (.int .i64 N)).run Try.prog w = .ok (.slice (some ⟨w.heap.size, 0, none⟩) N N) (w.alloc (.cells (Array.replicate N (.int .i64 0)) 3)) := by
  obtain ⟨i0, hi, hz0, hz1, hz2⟩ := info_parts infoI
  have h := run_make (P := Try.prog) w 30 3 i0 (.int .i64 0) Try.underlying30 hi hz0 .i64 .i64 N N (by omega) (Int.le_refl _) (by rw [hz2]; omega) (by omega)
  have e : madeCells (Value.int .i64 0).cells (N * 1) = Array.replicate N (.int .i64 0) := by
    apply Array.ext
    · simp [madeCells]
    · intro j h1 h2
      simp [madeCells, Value.cells, Nat.mod_one]
  rw [h, hz1]
  simp only [Int.toNat_natCast, e]
theorem is_made (w : World) (N : Nat) (hN : N ≤ 1000) : IS (w.alloc (.cells (Array.replicate N (.int .i64 0)) 3)) (.slice (some ⟨w.heap.size, 0, none⟩) N N) (List.replicate N 0) := by
  have h := World.ownsRow_lit (base := 0) (size := 1) (e := 3) w (Array.replicate N (.int .i64 0)) N (Nat.zero_le _) (by unfold maxLen; omega) (by simp)
  unfold IS
  simpa using h

set_option maxHeartbeats 1000000 in
theorem same_rows (g cap g' cap' : Nat) (l : List Int) (w : World) (h : IS w (.slice (some ⟨g, 0, none⟩) l.length cap) l) (h' : IS w (.slice (some ⟨g', 0, none⟩) l.length cap') l) :
    Calls Try.prog 16 #[.slice (some ⟨g, 0, none⟩) l.length cap, .slice (some ⟨g', 0, none⟩) l.length cap'] w fun e w' => e = .returned (.bool true) ∧ Nw w w' := by
  have hm := h.len
  unfold maxLen at hm
  have H := Lib.hid (And.intro h h')
  clear h h'
  go_enter Try.func16, Try.ntmps16
  go_wp2
  go_loopw [5] (fun i wr => ∃ k : Nat, k ≤ l.length ∧ i = .int .i64 k ∧ Nw w wr) (fun i _ => l.length - (intOf i).toNat)
  case atStart => exact ⟨0, Nat.zero_le _, rfl, Nw.refl _⟩
  case round =>
    obtain ⟨k, hk, rfl, hG⟩ := hrel
    by_cases hlt : k < l.length
    · have c0 := (H.out.1.nw hG).cell k hlt
      have d0 := (H.out.2.nw hG).cell k hlt
      generalize l.getD k 0 = x at *
      go_wp2_with fail
      go_quiet (fail)
      go_wp2
      go_roundw
      case rel => exact ⟨k + 1, by omega, by go_num, hG.drewN _⟩
      case measure => simp [intOf]; omega
    · go_wp2
      go_ret
      exact ⟨rfl, hG⟩
theorem same_nil (w : World) (v v' : Value) (h : (v = .slice none 0 0) ∨ ∃ g cap, v = .slice (some ⟨g, 0, none⟩) 0 cap) (h' : (v' = .slice none 0 0) ∨ ∃ g cap, v' = .slice (some ⟨g, 0, none⟩) 0 cap) :
    Calls Try.prog 16 #[v, v'] w fun e w' => e = .returned (.bool true) ∧ Nw w w' := by
  rcases h with rfl | ⟨g, cap, rfl⟩ <;> rcases h' with rfl | ⟨g', cap', rfl⟩
  all_goals
    go_enter Try.func16, Try.ntmps16
    go_wp2
    refine wp_loop_rounds 1 ?_
    repeat (rw [rounds_succ]; go_wp2)
    go_ret
    exact ⟨rfl, Nw.refl _⟩
theorem same_any (w : World) (v v' : Value) (l : List Int) (h : IS w v l) (h' : IS w v' l) :
    Calls Try.prog 16 #[v, v'] w fun e w' => e = .returned (.bool true) ∧ Nw w w' := by
  rcases h.form with ⟨rfl, rfl⟩ | ⟨g, cap, rfl⟩
  · rcases h'.form with ⟨rfl, _⟩ | ⟨g', cap', rfl⟩
    · exact same_nil w _ _ (.inl rfl) (.inl rfl)
    · exact same_nil w _ _ (.inl rfl) (.inr ⟨_, _, rfl⟩)
  · rcases h'.form with ⟨rfl, rfl⟩ | ⟨g', cap', rfl⟩
    · exact same_nil w _ _ (.inr ⟨_, _, rfl⟩) (.inl rfl)
    · exact same_rows g cap g' cap' l w h h'

theorem rem_bd (n m : Int) (hm : 0 < m) : -m < n.tmod m ∧ n.tmod m < m := by
  refine ⟨?_, Int.tmod_lt_of_pos n hm⟩
  have := Int.tmod_lt_of_pos (-n) hm
  rw [Int.neg_tmod] at this; omega
theorem rem_emod (n m : Int) (hm : 0 < m) : n % m = if n.tmod m < 0 then n.tmod m + m else n.tmod m := by
  have h1 : n.tmod m + m * n.tdiv m = n := Int.tmod_add_mul_tdiv n m
  have h2 := rem_bd n m hm
  generalize n.tmod m = r at *
  generalize n.tdiv m = q at *
  subst h1
  rw [Int.add_mul_emod_self_left]
  by_cases h : r < 0
  · rw [if_pos h, ← Int.add_emod_right, Int.emod_eq_of_lt (by omega) (by omega)]
  · rw [if_neg h, Int.emod_eq_of_lt (by omega) (by omega)]
theorem ret_int {k : IntKind} {a b : Int} (h : a = b) : Ending.returned (.int k a) = .returned (.int k b) := by rw [h]
/-- Pick(n, m) is n modulo m, from 0 on. -/
theorem pick_any (n m : Int) (w : World) (hm : 0 < m) (hm' : m ≤ 9223372036854775807) :
    Calls Try.prog 24 #[.int .i64 n, .int .i64 m] w fun e w' => e = .returned (.int .i64 (n % m)) ∧ w = w' := by
  have hr := Lib.hid (rem_emod n m hm)
  obtain ⟨b1, b2⟩ := rem_bd n m hm
  by_cases hneg : n.tmod m < 0
  · go_enter Try.func24, Try.ntmps24
    go_wp2
    go_ret
    exact ⟨ret_int (by rw [hr.out, if_pos hneg]), rfl⟩
  · go_enter Try.func24, Try.ntmps24
    go_wp2
    go_ret
    exact ⟨ret_int (by rw [hr.out, if_neg (by omega)]), rfl⟩
end Go.Proofs.Ytckbjgcelpmffaa
