/- Texts merged: QuB -/
import Derived.Test.YtpffldfpabglbaaGreatDoorTableHoldsB5
import Derived.LoopTactic

/- The document's own queue: right, Check. -/
section
namespace Go.Proofs.YtpffldfpabglbaaGreatDoor
open Go.RowKit
set_option linter.unusedVariables false      -- a contract need not use every name

set_option maxHeartbeats 2000000 in
theorem r9right (a b m n s W : Int) (w : World) : Calls Tryz.prog 84 #[.agg #[.int .i64 a, .int .i64 b, .int .i64 m, .int .i64 n, .int .i64 s], .int .i64 W] w fun e w' => e = .returned (.bool (rtB W ⟨a, b, m, n, s⟩)) ∧ Nw w w' := by
  have hK1 := fun w => r1known m w
  have hK2 := fun w => r1known n w
  have hCV := fun w => r1cov m n w
  unfold rtB
  simp only
  generalize knI m = k1 at *
  generalize knI n = k2 at *
  generalize cvI m n = cv at *
  have K1 := Lib.hid hK1
  have K2 := Lib.hid hK2
  have CV := Lib.hid hCV
  clear hK1 hK2 hCV
  by_cases h1 : a < 0
  · rw [show (!(((((decide (a < 0) || !k1) || !k2) || decide (s < 0)) || decide (W < s))) && (if 0 < s then !cv else ((m != 0) && (n == m)))) = false by simp [h1]]
    go_enter Tryz.func84, Tryz.ntmps84
    go_wp2
    go_ret
    exact ⟨rfl, (Nw.refl _).alloc _⟩
  cases k1
  · rw [show (!(((((decide (a < 0) || !false) || !k2) || decide (s < 0)) || decide (W < s))) && (if 0 < s then !cv else ((m != 0) && (n == m)))) = false by simp]
    go_enter Tryz.func84, Tryz.ntmps84
    go_wp2_with fail
    refine (K1.out _).mono ?_
    rintro e w' ⟨rfl, rfl⟩
    go_wp2
    go_ret
    exact ⟨rfl, (Nw.refl _).alloc _⟩
  cases k2
  · rw [show (!(((((decide (a < 0) || !true) || !false) || decide (s < 0)) || decide (W < s))) && (if 0 < s then !cv else ((m != 0) && (n == m)))) = false by simp]
    go_enter Tryz.func84, Tryz.ntmps84
    go_wp2_with fail
    refine (K1.out _).mono ?_
    rintro e w' ⟨rfl, rfl⟩
    go_wp2_with fail
    refine (K2.out _).mono ?_
    rintro e w' ⟨rfl, rfl⟩
    go_wp2
    go_ret
    exact ⟨rfl, (Nw.refl _).alloc _⟩
  by_cases h4 : s < 0
  · rw [show (!(((((decide (a < 0) || !true) || !true) || decide (s < 0)) || decide (W < s))) && (if 0 < s then !cv else ((m != 0) && (n == m)))) = false by simp [h4]]
    go_enter Tryz.func84, Tryz.ntmps84
    go_wp2_with fail
    refine (K1.out _).mono ?_
    rintro e w' ⟨rfl, rfl⟩
    go_wp2_with fail
    refine (K2.out _).mono ?_
    rintro e w' ⟨rfl, rfl⟩
    go_wp2
    go_ret
    exact ⟨rfl, (Nw.refl _).alloc _⟩
  by_cases h5 : W < s
  · rw [show (!(((((decide (a < 0) || !true) || !true) || decide (s < 0)) || decide (W < s))) && (if 0 < s then !cv else ((m != 0) && (n == m)))) = false by simp [h5]]
    go_enter Tryz.func84, Tryz.ntmps84
    go_wp2_with fail
    refine (K1.out _).mono ?_
    rintro e w' ⟨rfl, rfl⟩
    go_wp2_with fail
    refine (K2.out _).mono ?_
    rintro e w' ⟨rfl, rfl⟩
    go_wp2
    go_ret
    exact ⟨rfl, (Nw.refl _).alloc _⟩
  by_cases h6 : 0 < s
  · rw [show (!(((((decide (a < 0) || !true) || !true) || decide (s < 0)) || decide (W < s))) && (if 0 < s then !cv else ((m != 0) && (n == m)))) = !cv by simp [h1, h4, h5, h6]]
    have d6 : decide (0 < s) = true := by simpa using h6
    go_enter Tryz.func84, Tryz.ntmps84
    go_wp2_with fail
    refine (K1.out _).mono ?_
    rintro e w' ⟨rfl, rfl⟩
    go_wp2_with fail
    refine (K2.out _).mono ?_
    rintro e w' ⟨rfl, rfl⟩
    go_wp2_with fail
    refine (r9waits _ _ _ _ _ _).mono ?_
    rintro e w2 ⟨rfl, g2⟩
    have hN := ((Nw.refl w).alloc (.cells #[.int .i64 a, .int .i64 b, .int .i64 m, .int .i64 n, .int .i64 s] 50)).trans g2
    have c2 : w2.cell? ⟨w.heap.size, 2, none⟩ = some (.int .i64 m) := g2.kp (hcell (allocAt w _))
    have c3 : w2.cell? ⟨w.heap.size, 3, none⟩ = some (.int .i64 n) := g2.kp (hcell (allocAt w _))
    clear g2
    go_wp2_with fail
    refine (CV.out _).mono ?_
    rintro e w4 ⟨rfl, g4⟩
    go_wp2
    go_ret
    exact ⟨rfl, hN.trans g4⟩
  · rw [show (!(((((decide (a < 0) || !true) || !true) || decide (s < 0)) || decide (W < s))) && (if 0 < s then !cv else ((m != 0) && (n == m)))) = ((m != 0) && (n == m)) by simp [h1, h4, h5, h6]]
    have d6 : decide (0 < s) = false := by simpa using h6
    cases h7 : (m != 0)
    · go_enter Tryz.func84, Tryz.ntmps84
      go_wp2_with fail
      refine (K1.out _).mono ?_
      rintro e w' ⟨rfl, rfl⟩
      go_wp2_with fail
      refine (K2.out _).mono ?_
      rintro e w' ⟨rfl, rfl⟩
      go_wp2_with fail
      refine (r9waits _ _ _ _ _ _).mono ?_
      rintro e w2 ⟨rfl, g2⟩
      have hN := ((Nw.refl w).alloc (.cells #[.int .i64 a, .int .i64 b, .int .i64 m, .int .i64 n, .int .i64 s] 50)).trans g2
      have c0 : w2.cell? ⟨w.heap.size, 0, none⟩ = some (.int .i64 a) := g2.kp (hcell (allocAt w _))
      have c1 : w2.cell? ⟨w.heap.size, 1, none⟩ = some (.int .i64 b) := g2.kp (hcell (allocAt w _))
      have c2 : w2.cell? ⟨w.heap.size, 2, none⟩ = some (.int .i64 m) := g2.kp (hcell (allocAt w _))
      have c3 : w2.cell? ⟨w.heap.size, 3, none⟩ = some (.int .i64 n) := g2.kp (hcell (allocAt w _))
      have c4 : w2.cell? ⟨w.heap.size, 4, none⟩ = some (.int .i64 s) := g2.kp (hcell (allocAt w _))
      clear g2
      go_wp2_with fail
      refine (r9holds _ _ _ _ _ _).mono ?_
      rintro e w4 ⟨rfl, g4⟩
      go_wp2
      go_ret
      exact ⟨rfl, hN.trans g4⟩
    · go_enter Tryz.func84, Tryz.ntmps84
      go_wp2_with fail
      refine (K1.out _).mono ?_
      rintro e w' ⟨rfl, rfl⟩
      go_wp2_with fail
      refine (K2.out _).mono ?_
      rintro e w' ⟨rfl, rfl⟩
      go_wp2_with fail
      refine (r9waits _ _ _ _ _ _).mono ?_
      rintro e w2 ⟨rfl, g2⟩
      have hN := ((Nw.refl w).alloc (.cells #[.int .i64 a, .int .i64 b, .int .i64 m, .int .i64 n, .int .i64 s] 50)).trans g2
      have c0 : w2.cell? ⟨w.heap.size, 0, none⟩ = some (.int .i64 a) := g2.kp (hcell (allocAt w _))
      have c1 : w2.cell? ⟨w.heap.size, 1, none⟩ = some (.int .i64 b) := g2.kp (hcell (allocAt w _))
      have c2 : w2.cell? ⟨w.heap.size, 2, none⟩ = some (.int .i64 m) := g2.kp (hcell (allocAt w _))
      have c3 : w2.cell? ⟨w.heap.size, 3, none⟩ = some (.int .i64 n) := g2.kp (hcell (allocAt w _))
      have c4 : w2.cell? ⟨w.heap.size, 4, none⟩ = some (.int .i64 s) := g2.kp (hcell (allocAt w _))
      clear g2
      go_wp2_with fail
      refine (r9holds _ _ _ _ _ _).mono ?_
      rintro e w4 ⟨rfl, g4⟩
      replace c2 := g4.kp c2
      replace c3 := g4.kp c3
      replace hN := hN.trans g4
      go_wp2
      go_ret
      exact ⟨rfl, hN⟩
end Go.Proofs.YtpffldfpabglbaaGreatDoor
end
