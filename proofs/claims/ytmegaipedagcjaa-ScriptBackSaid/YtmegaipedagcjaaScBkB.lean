
/- ScriptBack: every input. -/
import Derived.Test.YtmegaipedagcjaaScBkW
namespace Go.Proofs.Ytmegaipedagcjaa.scriptBack
open Go.RowKit
set_option linter.unusedVariables false

set_option maxRecDepth 100000 in
set_option maxHeartbeats 1000000 in
theorem short1 (l : List UInt8) (a0 p0 : Option Addr) (n0 m0 t0 q0 : Nat) (c1 c2 c3 c4 : Int) (W : World)
    (HL : Hid (∀ z, Nw W z → Calls Try.prog 20 #[.agg #[.slice a0 n0 t0, .slice p0 m0 q0, .int .i64 c1, .int .i64 c2, .int .i64 c3, .int .i64 c4]] z fun e w' => e = .returned (.bool false) ∧ Nw z w')) :
    Calls Try.prog 4 #[.agg #[.slice a0 n0 t0, .slice p0 m0 q0, .int .i64 c1, .int .i64 c2, .int .i64 c3, .int .i64 c4], stV l] W fun e w' => e = .returned (.bool true) ∧ Nw W w' := by
  go_enter Try.func4, Try.ntmps4
  go_wp2_with fail
  refine (lives_ok _).mono ?_
  rintro e w1 ⟨rfl, g1⟩
  have k0 : w1.cell? ⟨W.heap.size, 0, none⟩ = some (.slice a0 n0 t0) := g1.keep' (by simp [go_sem])
  have k1 : w1.cell? ⟨W.heap.size, 1, none⟩ = some (.slice p0 m0 q0) := g1.keep' (by simp [go_sem])
  have k2 : w1.cell? ⟨W.heap.size, 2, none⟩ = some (.int .i64 c1) := g1.keep' (by simp [go_sem])
  have k3 : w1.cell? ⟨W.heap.size, 3, none⟩ = some (.int .i64 c2) := g1.keep' (by simp [go_sem])
  have k4 : w1.cell? ⟨W.heap.size, 4, none⟩ = some (.int .i64 c3) := g1.keep' (by simp [go_sem])
  have k5 : w1.cell? ⟨W.heap.size, 5, none⟩ = some (.int .i64 c4) := g1.keep' (by simp [go_sem])
  have h1 : Nw W w1 := ((Nw.refl W).alloc _).trans g1
  go_wp2_with fail
  refine (HL.out _ h1).mono ?_
  rintro e w2 ⟨rfl, g2⟩
  have h2 := h1.trans g2
  clear g1 k0 k1 k2 k3 k4 k5
  go_wp2
  go_ret
  exact ⟨rfl, h2⟩
set_option maxRecDepth 100000 in
set_option maxHeartbeats 1000000 in
theorem short2 (l : List UInt8) (a0 p0 : Option Addr) (n0 m0 t0 q0 : Nat) (c1 c2 c3 c4 : Int) (W : World) (hl : 1600 < l.length)
    (HL : Hid (∀ z, Nw W z → Calls Try.prog 20 #[.agg #[.slice a0 n0 t0, .slice p0 m0 q0, .int .i64 c1, .int .i64 c2, .int .i64 c3, .int .i64 c4]] z fun e w' => e = .returned (.bool true) ∧ Nw z w')) :
    Calls Try.prog 4 #[.agg #[.slice a0 n0 t0, .slice p0 m0 q0, .int .i64 c1, .int .i64 c2, .int .i64 c3, .int .i64 c4], stV l] W fun e w' => e = .returned (.bool true) ∧ Nw W w' := by
  have dl : decide ((1600 : Int) < (l.length : Int)) = true := by simp; omega
  go_enter Try.func4, Try.ntmps4
  go_wp2_with fail
  refine (lives_ok _).mono ?_
  rintro e w1 ⟨rfl, g1⟩
  have k0 : w1.cell? ⟨W.heap.size, 0, none⟩ = some (.slice a0 n0 t0) := g1.keep' (by simp [go_sem])
  have k1 : w1.cell? ⟨W.heap.size, 1, none⟩ = some (.slice p0 m0 q0) := g1.keep' (by simp [go_sem])
  have k2 : w1.cell? ⟨W.heap.size, 2, none⟩ = some (.int .i64 c1) := g1.keep' (by simp [go_sem])
  have k3 : w1.cell? ⟨W.heap.size, 3, none⟩ = some (.int .i64 c2) := g1.keep' (by simp [go_sem])
  have k4 : w1.cell? ⟨W.heap.size, 4, none⟩ = some (.int .i64 c3) := g1.keep' (by simp [go_sem])
  have k5 : w1.cell? ⟨W.heap.size, 5, none⟩ = some (.int .i64 c4) := g1.keep' (by simp [go_sem])
  have h1 : Nw W w1 := ((Nw.refl W).alloc _).trans g1
  go_wp2_with fail
  refine (HL.out _ h1).mono ?_
  rintro e w2 ⟨rfl, g2⟩
  have h2 := h1.trans g2
  clear g1 k0 k1 k2 k3 k4 k5
  go_wp2
  go_ret
  exact ⟨rfl, h2⟩
theorem law_any (vt vp : Value) (S : PS) (s1 : ByteArray) (W : World) (h : ScAt W vt vp S) : Calls Try.prog 4 #[scV vt vp S.cp, .string s1] W fun e w' => e = .returned (.bool true) ∧ Nw W w' := by
  obtain ⟨l, rfl⟩ : ∃ l : List UInt8, s1 = ⟨l.toArray⟩ := ⟨s1.data.toList, (Lib.mk_data s1).symm⟩
  have hS := h
  have HL := fun z (g : Nw W z) => light_any vt vp S z (h.nw g)
  obtain ⟨⟨a0, t0, rfl, _⟩, p0, q0, rfl, _⟩ := h
  obtain ⟨⟨c1, c2, c3, c4⟩, hc⟩ : ∃ c, S.cp = c := ⟨_, rfl⟩
  rw [hc] at HL ⊢
  rcases hb : lightB S with _ | _
  · rw [hb] at HL
    exact short1 l a0 p0 _ _ t0 q0 c1 c2 c3 c4 W (Lib.hid HL)
  · rw [hb] at HL
    by_cases hl : l.length ≤ 1600
    · exact main l a0 p0 _ _ t0 q0 c1 c2 c3 c4 S (rd l) (okS S) W hl (Lib.hid hS) (Lib.hid hc) (Lib.hid rfl) (Lib.hid (rd_ok l)) (Lib.hid rfl) (Lib.hid (light_fits hb)) (Lib.hid hb)
    · exact short2 l a0 p0 _ _ t0 q0 c1 c2 c3 c4 W (by omega) (Lib.hid HL)
end Go.Proofs.Ytmegaipedagcjaa.scriptBack
