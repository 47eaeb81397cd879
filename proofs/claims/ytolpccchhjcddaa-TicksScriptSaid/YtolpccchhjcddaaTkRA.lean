
/- The document's own clock: its time and its list; what only reads. -/
import Derived.Test.YtolpccchhjcddaaTkW
namespace Go.Proofs.Ytolpccchhjcddaa
open Go.RowKit Go.Shelf

/-- The document's own clock in memory. -/
structure Rc (W : World) (c : Nat) (t : Int) (v : Value) (s : List Tm) : Prop where
  now : W.cell? ⟨c, 0, none⟩ = some (.int .i64 t)
  lst : W.cell? ⟨c, 1, none⟩ = some v
  fz : ∀ j, W.frozen? ⟨c, j, none⟩ = false
  lt : c < W.heap.size
  ts : TS W v s
  ne : ∀ k, v.ownBlock = some k → k ≠ c
theorem Rc.tch {S : Nat → Prop} {W W' : World} {c : Nat} {t : Int} {v : Value} {s : List Tm} (h : Rc W c t v s) (k : Tch S W W') (hc : ¬ S c) (hv : ∀ g, v.ownBlock = some g → ¬ S g) : Rc W' c t v s :=
  ⟨(k.cell h.lt hc).trans h.now, (k.cell h.lt hc).trans h.lst, fun j => (k.froz h.lt hc).trans (h.fz j), Nat.lt_of_lt_of_le h.lt k.size, h.ts.tch k hv, h.ne⟩
theorem Rc.nw {W W' : World} {c : Nat} {t : Int} {v : Value} {s : List Tm} (h : Rc W c t v s) (k : Nw W W') : Rc W' c t v s := h.tch (Tch.nw (S := fun _ => False) k) (fun e => e) (fun _ _ e => e)
theorem TS.row2 {w : World} {v : Value} {l : List Tm} (h : TS w v l) : ∃ ao cap, v = .slice ao l.length cap ∧ (0 < l.length → ∃ g, ao = some ⟨g, 0, none⟩ ∧ TRow w g cap l) := by
  rcases h.form with ⟨rfl, rfl⟩ | ⟨g, cap, rfl, hr⟩
  · exact ⟨none, 0, rfl, fun h => by simp at h⟩
  · exact ⟨_, cap, rfl, fun _ => ⟨g, rfl, hr⟩⟩
theorem rnew_any (w : World) : Calls Try.prog 16 #[] w fun e w' => ∃ c, e = .returned (.pointer (some ⟨c, 0, none⟩)) ∧ Rc w' c 0 (.slice none 0 0) [] ∧ w.heap.size ≤ c ∧ Nw w w' := by
  go_enter Try.func16, Try.ntmps16
  go_wp2
  go_ret
  refine ⟨_, rfl, ⟨?_, ?_, ?_, ?_, World.ownsRow_nil _ _ _ _, fun k e => by simp [Value.ownBlock] at e⟩, Nat.le_refl _, (Nw.refl w).alloc _⟩
  · simp [go_sem]
  · simp [go_sem]
  · intro j; simp [go_sem]
  · simp
theorem rnow_any (c : Nat) (t : Int) (v : Value) (s : List Tm) (w : World) (h : Rc w c t v s) : Calls Try.prog 23 #[.pointer (some ⟨c, 0, none⟩)] w fun e w' => e = .returned (.int .i64 t) ∧ w = w' := by
  have hn := h.now
  go_enter Try.func23, Try.ntmps23
  go_wp2
  go_ret
  exact ⟨rfl, rfl⟩
theorem rlen_any (c : Nat) (t : Int) (v : Value) (s : List Tm) (w : World) (h : Rc w c t v s) : Calls Try.prog 24 #[.pointer (some ⟨c, 0, none⟩)] w fun e w' => e = .returned (.int .i64 s.length) ∧ w = w' := by
  have hn := h.lst
  obtain ⟨ao, cap, rfl, _⟩ := h.ts.row2
  go_enter Try.func24, Try.ntmps24
  go_wp2
  go_ret
  exact ⟨rfl, rfl⟩
theorem rless_any (x y : Tm) (w : World) : Calls Try.prog 33 #[agT x, agT y] w fun e w' => e = .returned (.bool (tlt x y)) ∧ Nw w w' := by
  obtain ⟨x0, x1, x2⟩ := x
  obtain ⟨y0, y1, y2⟩ := y
  unfold agT
  simp only
  rcases Decidable.em (x0 = y0) with h0 | h0
  · subst h0
    rcases Decidable.em (x1 = y1) with h1 | h1
    · subst h1
      have e : tlt (x0, x1, x2) (x0, x1, y2) = decide (x2 < y2) := by unfold tlt; simp
      rw [e]
      go_enter Try.func33, Try.ntmps33
      go_wp2
      go_ret
      exact ⟨rfl, ((Nw.refl w).alloc _).alloc _⟩
    · have e : tlt (x0, x1, x2) (x0, y1, y2) = decide (x1 < y1) := by unfold tlt; simp [h1]
      have k : (x1 == y1) = false := by simpa using h1
      rw [e]
      go_enter Try.func33, Try.ntmps33
      go_wp2
      go_ret
      exact ⟨rfl, ((Nw.refl w).alloc _).alloc _⟩
  · have e : tlt (x0, x1, x2) (y0, y1, y2) = decide (x0 < y0) := by unfold tlt; simp [h0]
    have k : (x0 == y0) = false := by simpa using h0
    rw [e]
    go_enter Try.func33, Try.ntmps33
    go_wp2
    go_ret
    exact ⟨rfl, ((Nw.refl w).alloc _).alloc _⟩
set_option maxHeartbeats 1000000 in
theorem rat_any (c : Nat) (t : Int) (v : Value) (s : List Tm) (who mark : Int) (w : World) (h : Rc w c t v s) (hsm : s.length ≤ 100000) :
    Calls Try.prog 32 #[.pointer (some ⟨c, 0, none⟩), .int .i64 who, .int .i64 mark] w fun e w' => e = .returned (.int .i64 (idxI who mark s)) ∧ w = w' := by
  have hn := h.lst
  have ts := h.ts
  obtain ⟨ao, cap, rfl, hao⟩ := h.ts.row2
  go_enter Try.func32, Try.ntmps32
  go_wp2
  go_loopw [7] (fun i wr => ∃ k : Nat, k ≤ s.length ∧ i = .int .i64 k ∧ w = wr ∧ ∀ i, i < k → keyB who mark (at' s i) = false) (fun i _ => s.length - (intOf i).toNat)
  case atStart => exact ⟨0, Nat.zero_le _, rfl, rfl, fun i h => by omega⟩
  case round =>
    obtain ⟨k, hk, rfl, rfl, hno⟩ := hrel
    by_cases hlt : k < s.length
    · obtain ⟨g, rfl, hrow⟩ := hao (by omega)
      obtain ⟨c0, c1, c2⟩ := hrow.cells k hlt
      have hml : s.length ≤ maxLen := by unfold maxLen; omega
      cases hb : keyB who mark (at' s k) with
      | true =>
        have he := Lib.hid (idx_at who mark s k hlt hno hb)
        have hk2 := (keyB_iff _ _ _).1 hb
        generalize at' s k = x at *
        obtain ⟨x0, x1, x2⟩ := x
        simp only [Prod.mk.injEq] at c0 c1 c2 hk2
        obtain ⟨rfl, rfl⟩ := hk2
        clear hno hb
        go_wp2
        go_ret
        exact ⟨ret_int he.out.symm, rfl⟩
      | false =>
        have hno' : Hid (∀ i, i < k + 1 → keyB who mark (at' s i) = false) := Lib.hid (fun i hi => by
          rcases Nat.lt_or_ge i k with h | h
          · exact hno i h
          · obtain rfl : i = k := by omega
            exact hb)
        have hk2 : ¬ (at' s k).2 = (who, mark) := fun e => by rw [(keyB_iff _ _ _).2 e] at hb; cases hb
        clear hno hb
        generalize at' s k = x at *
        obtain ⟨x0, x1, x2⟩ := x
        simp only [Prod.mk.injEq] at c0 c1 c2 hk2
        by_cases hw : x1 = who
        · subst hw
          have k2 : (x2 == mark) = false := by simp; intro e; exact hk2 ⟨rfl, e⟩
          go_wp2
          go_roundw
          case rel => exact ⟨k + 1, by omega, by go_num, trivial, hno'.out⟩
          case measure => simp [intOf]; omega
        · have k2 : (x1 == who) = false := by simpa using hw
          go_wp2
          go_roundw
          case rel => exact ⟨k + 1, by omega, by go_num, trivial, hno'.out⟩
          case measure => simp [intOf]; omega
    · obtain rfl : k = s.length := by omega
      have he := Lib.hid (idx_end who mark s hno)
      go_wp2
      go_ret
      exact ⟨ret_int he.out.symm, rfl⟩
end Go.Proofs.Ytolpccchhjcddaa
