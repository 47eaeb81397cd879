
/- ScriptSkips: every input. -/
import Derived.Test.YtmegaipedagcjaaScSkA
namespace Go.Proofs.Ytmegaipedagcjaa.scriptSkips
open Go.RowKit
set_option linter.unusedVariables false

theorem step_skip (s : PS) (e0 e1 e2 e3 e4 e5 e6 e7 : UInt8) (h1 : e0 ≠ 1) (h3 : e0 ≠ 3) (hn : ent [e0, e1, e2, e3, e4, e5, e6, e7] = none) : step s [e0, e1, e2, e3, e4, e5, e6, e7] = s := by
  simp only [step]
  rw [if_neg h1]
  by_cases h2 : e0 = 2
  · rw [if_pos h2, addO, hn]
  · rw [if_neg h2, if_neg h3]
set_option maxRecDepth 100000 in
theorem short1 (l x m : List UInt8) (at' : Int) (W : World) (h : 1600 < l.length) : Calls Try.prog 5 #[stV l, .int .i64 at', stV x, stV m] W fun e w' => e = .returned (.bool true) ∧ Nw W w' := by
  have d0 : decide ((1600 : Int) < (l.length : Int)) = true := by simp; omega
  go_enter Try.func5, Try.ntmps5
  go_wp2_with (go_at_call 8; refine (lives_ok _).mono ?_; rintro e w1 ⟨rfl, g1⟩)
  go_ret
  exact ⟨rfl, g1⟩
set_option maxRecDepth 100000 in
theorem short2 (l x m : List UInt8) (at' : Int) (W : World) (h : l.length ≤ 1600) (h2 : x.length ≠ 8) : Calls Try.prog 5 #[stV l, .int .i64 at', stV x, stV m] W fun e w' => e = .returned (.bool true) ∧ Nw W w' := by
  have d0 : decide ((1600 : Int) < (l.length : Int)) = false := by simp; omega
  have d1 : ((x.length : Int) != 8) = true := by simp; omega
  go_enter Try.func5, Try.ntmps5
  go_wp2_with (go_at_call 8; refine (lives_ok _).mono ?_; rintro e w1 ⟨rfl, g1⟩)
  go_ret
  exact ⟨rfl, g1⟩
set_option maxRecDepth 100000 in
theorem short3 (l m : List UInt8) (at' : Int) (e0 e1 e2 e3 e4 e5 e6 e7 : UInt8) (W : World) (h : l.length ≤ 1600) (h3 : 8 ≤ m.length) : Calls Try.prog 5 #[stV l, .int .i64 at', stV [e0, e1, e2, e3, e4, e5, e6, e7], stV m] W fun e w' => e = .returned (.bool true) ∧ Nw W w' := by
  have d0 : decide ((1600 : Int) < (l.length : Int)) = false := by simp; omega
  have d1 : decide ((8 : Int) ≤ (m.length : Int)) = true := by simp; omega
  go_enter Try.func5, Try.ntmps5
  go_wp2_with (go_at_call 8; refine (lives_ok _).mono ?_; rintro e w1 ⟨rfl, g1⟩)
  go_ret
  exact ⟨rfl, g1⟩
theorem law_any (s0 : ByteArray) (at' : Int) (s2 s3 : ByteArray) (W : World) : Calls Try.prog 5 #[.string s0, .int .i64 at', .string s2, .string s3] W fun e w' => e = .returned (.bool true) ∧ Nw W w' := by
  obtain ⟨l, rfl⟩ : ∃ l : List UInt8, s0 = ⟨l.toArray⟩ := ⟨s0.data.toList, (Lib.mk_data s0).symm⟩
  obtain ⟨x, rfl⟩ : ∃ l : List UInt8, s2 = ⟨l.toArray⟩ := ⟨s2.data.toList, (Lib.mk_data s2).symm⟩
  obtain ⟨m, rfl⟩ : ∃ l : List UInt8, s3 = ⟨l.toArray⟩ := ⟨s3.data.toList, (Lib.mk_data s3).symm⟩
  by_cases h0 : l.length ≤ 1600
  · by_cases h1 : x.length = 8
    · obtain ⟨e0, e1, e2, e3, e4, e5, e6, e7, rfl⟩ := eight x h1
      by_cases h2 : m.length < 8
      · obtain ⟨j, hj, hjn⟩ := pick_nat at' (l.length / 8)
        have hB := take8 l
        have hBm : (l.take (l.length / 8 * 8)).length % 8 = 0 := by omega
        have hlen : (l.take (l.length / 8 * 8)).length ≤ 1600 := by omega
        have key : ∀ (t : Int) (o : Od) (is : Bool), (is = false → ent [e0, e1, e2, e3, e4, e5, e6, e7] = none) →
            (∀ z, Calls Try.prog 15 #[stV [e0, e1, e2, e3, e4, e5, e6, e7]] z fun e w' => e = .returned (.tuple #[.int .i64 t, .agg #[.int .i64 o.1, .int .i64 o.2.1, .int .i64 o.2.2.1, .int .i64 o.2.2.2.1, .int .i64 o.2.2.2.2.1, .int .i64 o.2.2.2.2.2], .bool is]) ∧ Nw z w') →
            Calls Try.prog 5 #[stV l, .int .i64 at', stV [e0, e1, e2, e3, e4, e5, e6, e7], stV m] W fun e w' => e = .returned (.bool true) ∧ Nw W w' := fun t o is hno hE =>
          main l (l.take (l.length / 8 * 8)) m (l.length / 8) j (8 * j) at' t o is (rd (l.take (l.length / 8 * 8))) e0 e1 e2 e3 e4 e5 e6 e7 W h0 h2 rfl hB (by omega) hjn (by omega) (Lib.hid (fits_ok (rd_ok _)))
            (Lib.hid fun z => by have := pick_any at' ((l.length / 8 : Nat) + 1) z (by omega) (by omega); rw [hj] at this; exact this)
            (Lib.hid (read_as _ _ rfl (by omega))) (Lib.hid (read_as _ _ (rd_short _ m hBm h2) (by rw [List.length_append]; omega)))
            (Lib.hid fun hi q1 q3 X hX => by
              refine read_as X _ ?_ (by rw [hX]; simp only [List.length_append, List.length_take, List.length_drop, List.length_cons, List.length_nil]; omega)
              rw [hX, rd_mid _ [e0, e1, e2, e3, e4, e5, e6, e7] _ (by rw [List.length_take]; omega) rfl (fun s => step_skip s e0 e1 e2 e3 e4 e5 e6 e7 q1 q3 (hno hi)), List.take_append_drop])
            (Lib.hid hE)
        have hE := fun z => entry_e e0 e1 e2 e3 e4 e5 e6 e7 z
        rcases hq : ent [e0, e1, e2, e3, e4, e5, e6, e7] with _ | ⟨t, o⟩
        · rw [hq] at hE
          exact key 0 (0, 0, 0, 0, 0, 0) false (fun _ => hq) hE
        · rw [hq] at hE
          exact key t o true (fun q => by simp at q) hE
      · exact short3 l m at' e0 e1 e2 e3 e4 e5 e6 e7 W h0 (by omega)
    · exact short2 l x m at' W h0 h1
  · exact short1 l x m at' W (by omega)
end Go.Proofs.Ytmegaipedagcjaa.scriptSkips
