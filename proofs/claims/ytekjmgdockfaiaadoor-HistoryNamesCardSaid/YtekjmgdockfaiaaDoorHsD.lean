
/- What is wrong with an event: wrongEnd, wrong. -/
import Derived.Test.YtekjmgdockfaiaaDoorHsC
namespace Go.Proofs.YtekjmgdockfaiaaDoor
open Go.RowKit
set_option linter.unusedVariables false      -- a contract need not use every name

set_option maxRecDepth 100000 in
set_option maxHeartbeats 2000000 in
theorem wrongEnd_walk (p bc : Nat) (c t : Int) (i : Bool) (k x tb rc m co : Int) (a b : Int) (d y : Bool) (w : World) (hp : p < w.heap.size) (c1 : w.cell? ⟨p, 1, none⟩ = some (.map (some bc)))
    (hL : ∀ W, Nw w W → (Instr.lookup 59 (.map (some bc)) (.int .i64 c) true).run Tryd.prog W = .ok (.tuple #[callV a b d, .bool y]) W) :
    Calls Tryd.prog 36 #[.pointer (some ⟨p, 0, none⟩), .agg #[.int .i64 c, .int .i64 t, .bool i, .int .i64 k, .int .i64 x, .int .i64 tb, .int .i64 rc, .int .i64 m, .int .i64 co]] w fun e w' => e = .returned (.int .i64 (if (y && (a == t) && !d) = true then 0 else 5)) ∧ Nw w w' := by
  have hL1 : ∀ o, (Instr.lookup 59 (.map (some bc)) (.int .i64 c) true).run Tryd.prog ((w.alloc o).drew) = .ok (.tuple #[callV a b d, .bool y]) ((w.alloc o).drew) := fun o => hL _ ((Nw.refl w).alloc o).drew1
  have hL2 : ∀ o o', (Instr.lookup 59 (.map (some bc)) (.int .i64 c) true).run Tryd.prog (((w.alloc o).alloc o').drew) = .ok (.tuple #[callV a b d, .bool y]) (((w.alloc o).alloc o').drew) := fun o o' => hL _ (((Nw.refl w).alloc o).alloc o').drew1
  clear hL
  cases y
  case false =>
    go_enter Tryd.func36, Tryd.ntmps36
    go_wp2
    go_region
    go_wp2
    go_ret
    exact ⟨rfl, (((Nw.refl w).alloc _).alloc _).drew1⟩
  case true =>
    by_cases h : a = t
    · subst h
      rw [show (a == a) = true by simp]
      have e : (a != a) = false := by simp
      cases d
      case false =>
        show Calls _ _ _ _ fun e w' => e = .returned (.int .i64 0) ∧ Nw w w'
        go_enter Tryd.func36, Tryd.ntmps36
        go_wp2
        go_region
        all_goals
          go_wp2
          go_ret
          exact ⟨rfl, (((Nw.refl w).alloc _).alloc _).drew1⟩
      case true =>
        show Calls _ _ _ _ fun e w' => e = .returned (.int .i64 5) ∧ Nw w w'
        go_enter Tryd.func36, Tryd.ntmps36
        go_wp2
        go_region
        all_goals
          go_wp2
          go_ret
          exact ⟨rfl, (((Nw.refl w).alloc _).alloc _).drew1⟩
    · have e : (a == t) = false := by simpa using h
      rw [e]
      show Calls _ _ _ _ fun e w' => e = .returned (.int .i64 5) ∧ Nw w w'
      go_enter Tryd.func36, Tryd.ntmps36
      go_wp2
      go_region
      all_goals
        go_wp2
        go_ret
        exact ⟨rfl, (((Nw.refl w).alloc _).alloc _).drew1⟩
section
variable {w : World} {g0 p bc bb n : Nat} {v : Value} {l : List Sp}
theorem hasC_at {l : List Sp} {c : Int} (h : hasC l c = true) : ∃ j, ∃ h : j < l.length, (l[j]).call = c := by
  obtain ⟨s, hs, hc⟩ := List.any_eq_true.1 h
  obtain ⟨j, hj, rfl⟩ := List.getElem_of_mem hs
  exact ⟨j, hj, by simpa using hc⟩
theorem wrongBeg_any (h : Trk w g0 p v bc bb l n) (e : Ev) (he : okE e = true) (hf : fitE e) (hi : e.inv = true) :
    Calls Tryd.prog 35 #[.pointer (some ⟨p, 0, none⟩), evV e] w fun x w' => x = .returned (.int .i64 (nxt l e)) ∧ Nw w w' := by
  have hp := okE_pos he
  have hn : nxt l e = if hasC l e.call = true then 4 else if busyT l e.thread = true then 7 else 0 := by unfold nxt; rw [if_neg (by simp [he]), if_pos hi]
  rw [hn]
  cases q : hasC l e.call with
  | true =>
    obtain ⟨j, hj, hc⟩ := hasC_at q
    exact wrongBeg_walk p bc bb e.call e.thread e.inv _ _ _ _ _ _ (l[j]).thread j _ true (busyT l e.thread) w h.lt h.c1 h.c2
      (fun W g => by have := (h.calls.nw g).look_yes hj (by rw [hc]; exact hp.1) (by rw [hc]; exact hf.1); rw [hc] at this; exact this) (fun W g => (h.busy.nw g).look hp.2 hf.2)
  | false =>
    exact wrongBeg_walk p bc bb e.call e.thread e.inv _ _ _ _ _ _ 0 0 _ false (busyT l e.thread) w h.lt h.c1 h.c2
      (fun W g => (h.calls.nw g).look_no hp.1 hf.1 q) (fun W g => (h.busy.nw g).look hp.2 hf.2)
theorem any_mt {l : List Sp} (hc : l.Pairwise fun s s' => s.call ≠ s'.call) (hto : ∀ s ∈ l, s.to = -1 ∨ 0 ≤ s.to) (e : Ev) {j : Nat} (hj : j < l.length) (h : (l[j]).call = e.call) : l.any (mt e) = (((l[j]).thread == e.thread) && !decide (0 ≤ (l[j]).to)) := by
  rw [Bool.eq_iff_iff, List.any_eq_true]
  constructor
  · rintro ⟨s, hs, hm⟩
    obtain ⟨i, hi, rfl⟩ := List.getElem_of_mem hs
    obtain ⟨m1, m2, m3⟩ := mt_iff.1 hm
    have : i = j := by
      rcases Nat.lt_trichotomy i j with r | r | r
      · exact absurd (m1.trans h.symm) (List.pairwise_iff_getElem.1 hc i j hi hj r)
      · exact r
      · exact absurd (h.trans m1.symm) (List.pairwise_iff_getElem.1 hc j i hj hi r)
    subst this
    simp [m2]; omega
  · intro q
    simp at q
    exact ⟨l[j], List.getElem_mem hj, mt_iff.2 ⟨h, q.1, by omega⟩⟩
theorem wrongEnd_any (h : Trk w g0 p v bc bb l n) (hg : l.Pairwise fun s s' => s.call ≠ s'.call) (hto : ∀ s ∈ l, s.to = -1 ∨ 0 ≤ s.to) (e : Ev) (he : okE e = true) (hf : fitE e) (hi : e.inv = false) :
    Calls Tryd.prog 36 #[.pointer (some ⟨p, 0, none⟩), evV e] w fun x w' => x = .returned (.int .i64 (nxt l e)) ∧ Nw w w' := by
  have hp := okE_pos he
  have hn : nxt l e = if l.any (mt e) = true then 0 else 5 := by unfold nxt; rw [if_neg (by simp [he]), if_neg (by simp [hi])]
  rw [hn]
  cases q : hasC l e.call with
  | true =>
    obtain ⟨j, hj, hc⟩ := hasC_at q
    rw [any_mt hg hto e hj hc]
    exact wrongEnd_walk p bc e.call e.thread e.inv _ _ _ _ _ _ (l[j]).thread j _ true w h.lt h.c1
      (fun W g => by have := (h.calls.nw g).look_yes hj (by rw [hc]; exact hp.1) (by rw [hc]; exact hf.1); rw [hc] at this; exact this)
  | false =>
    have hany : l.any (mt e) = false := by
      rw [Bool.eq_false_iff]
      intro r
      obtain ⟨s, hs, hm⟩ := List.any_eq_true.1 r
      have := any_no q s hs
      simp [(mt_iff.1 hm).1] at this
    rw [hany]
    exact wrongEnd_walk p bc e.call e.thread e.inv _ _ _ _ _ _ 0 0 _ false w h.lt h.c1 (fun W g => (h.calls.nw g).look_no hp.1 hf.1 q)
end
set_option maxRecDepth 100000 in
set_option maxHeartbeats 2000000 in
theorem wrong_walk (p : Nat) (c t : Int) (i : Bool) (k x tb rc m co : Int) (ok : Bool) (E : Int) (w : World)
    (HF : Hid (∀ W, Calls Tryd.prog 34 #[.agg #[.int .i64 c, .int .i64 t, .bool i, .int .i64 k, .int .i64 x, .int .i64 tb, .int .i64 rc, .int .i64 m, .int .i64 co]] W fun e w' => e = .returned (.bool ok) ∧ Nw W w'))
    (HB : Hid (ok = true → i = true → ∀ W, Nw w W → Calls Tryd.prog 35 #[.pointer (some ⟨p, 0, none⟩), .agg #[.int .i64 c, .int .i64 t, .bool i, .int .i64 k, .int .i64 x, .int .i64 tb, .int .i64 rc, .int .i64 m, .int .i64 co]] W fun e w' => e = .returned (.int .i64 E) ∧ Nw W w'))
    (HE : Hid (ok = true → i = false → ∀ W, Nw w W → Calls Tryd.prog 36 #[.pointer (some ⟨p, 0, none⟩), .agg #[.int .i64 c, .int .i64 t, .bool i, .int .i64 k, .int .i64 x, .int .i64 tb, .int .i64 rc, .int .i64 m, .int .i64 co]] W fun e w' => e = .returned (.int .i64 E) ∧ Nw W w')) :
    Calls Tryd.prog 28 #[.pointer (some ⟨p, 0, none⟩), .agg #[.int .i64 c, .int .i64 t, .bool i, .int .i64 k, .int .i64 x, .int .i64 tb, .int .i64 rc, .int .i64 m, .int .i64 co]] w fun e w' => e = .returned (.int .i64 (if ok = false then 2 else E)) ∧ Nw w w' := by
  cases ok
  case false =>
    go_enter Tryd.func28, Tryd.ntmps28
    go_wp2_with (go_at_call 34; refine (HF.out _).mono ?_; rintro e w1 ⟨rfl, g1⟩; obtain ⟨hc1, hf1⟩ := g1.rl)
    go_ret
    exact ⟨rfl, ((Nw.refl w).alloc _).trans g1⟩
  case true =>
    cases i
    case true =>
      have HB' := Lib.hid (HB.out rfl rfl)
      go_enter Tryd.func28, Tryd.ntmps28
      go_wp2_with (first | (go_at_call 34; refine (HF.out _).mono ?_; rintro e w1 ⟨rfl, g1⟩; obtain ⟨hc1, hf1⟩ := g1.rl; replace g1 := ((Nw.refl w).alloc _).trans g1) | (go_at_call 35; refine (HB'.out _ g1).mono ?_; rintro e w2 ⟨rfl, g2⟩))
      go_ret
      exact ⟨rfl, g1.trans g2⟩
    case false =>
      have HE' := Lib.hid (HE.out rfl rfl)
      go_enter Tryd.func28, Tryd.ntmps28
      go_wp2_with (first | (go_at_call 34; refine (HF.out _).mono ?_; rintro e w1 ⟨rfl, g1⟩; obtain ⟨hc1, hf1⟩ := g1.rl; replace g1 := ((Nw.refl w).alloc _).trans g1) | (go_at_call 36; refine (HE'.out _ g1).mono ?_; rintro e w2 ⟨rfl, g2⟩))
      go_ret
      exact ⟨rfl, g1.trans g2⟩
/-- wrong(v): what is wrong with v as the next event. -/
theorem wrong_any {w : World} {g0 p bc bb n : Nat} {v : Value} {l : List Sp} (h : Trk w g0 p v bc bb l n) (hg : l.Pairwise fun s s' => s.call ≠ s'.call) (hto : ∀ s ∈ l, s.to = -1 ∨ 0 ≤ s.to) (e : Ev) (hf : fitE e) :
    Calls Tryd.prog 28 #[.pointer (some ⟨p, 0, none⟩), evV e] w fun x w' => x = .returned (.int .i64 (nxt l e)) ∧ Nw w w' := by
  have hn : nxt l e = if okE e = false then 2 else nxt l e := by
    by_cases q : okE e = false
    · rw [if_pos q]; unfold nxt; rw [if_pos q]
    · rw [if_neg q]
  rw [hn]
  exact wrong_walk p _ _ _ _ _ _ _ _ _ (okE e) (nxt l e) w (Lib.hid (formed_any e)) (Lib.hid fun a b W g => wrongBeg_any (h.nw g) e a hf b) (Lib.hid fun a b W g => wrongEnd_any (h.nw g) hg hto e a hf b)
end Go.Proofs.YtekjmgdockfaiaaDoor
