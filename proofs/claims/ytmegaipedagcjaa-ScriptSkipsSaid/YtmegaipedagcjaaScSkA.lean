
/- ScriptSkips: the walk. -/
import Derived.Test.YtmegaipedagcjaaScW
namespace Go.Proofs.Ytmegaipedagcjaa.scriptSkips
open Go.RowKit
set_option linter.unusedVariables false

set_option maxRecDepth 100000 in
set_option maxHeartbeats 4000000 in
theorem main (l B m : List UInt8) (n j K : Nat) (at' t : Int) (o : Od) (is : Bool) (S : PS) (e0 e1 e2 e3 e4 e5 e6 e7 : UInt8) (W : World) (hl : l.length ≤ 1600) (hm : m.length < 8) (hB : l.take (l.length / 8 * 8) = B) (hBl : B.length = 8 * n) (hn : n ≤ 200) (hj : j ≤ n) (hK : 8 * (j : Int) = (K : Int)) (hf : Hid (Fits S))
    (HP : Hid (∀ z, Calls Try.prog 22 #[.int .i64 at', .int .i64 ((n : Int) + 1)] z fun e w' => e = .returned (.int .i64 j) ∧ z = w'))
    (HR1 : Hid (∀ z, Calls Try.prog 16 #[stV B] z (RdS z S))) (HR2 : Hid (∀ z, Calls Try.prog 16 #[stV (B ++ m)] z (RdS z S)))
    (HR3 : Hid (is = false → e0 ≠ 1 → e0 ≠ 3 → ∀ X, X = B.take K ++ [e0, e1, e2, e3, e4, e5, e6, e7] ++ B.drop K → ∀ z, Calls Try.prog 16 #[stV X] z (RdS z S)))
    (HE : Hid (∀ z, Calls Try.prog 15 #[stV [e0, e1, e2, e3, e4, e5, e6, e7]] z fun e w' => e = .returned (.tuple #[.int .i64 t, .agg #[.int .i64 o.1, .int .i64 o.2.1, .int .i64 o.2.2.1, .int .i64 o.2.2.2.1, .int .i64 o.2.2.2.2.1, .int .i64 o.2.2.2.2.2], .bool is]) ∧ Nw z w')) :
    Calls Try.prog 5 #[stV l, .int .i64 at', stV [e0, e1, e2, e3, e4, e5, e6, e7], stV m] W fun e w' => e = .returned (.bool true) ∧ Nw W w' := by
  have hx := ext_rule
  have hK0 : (0 : Int) ≤ (K : Int) := by omega
  have hK1 : (K : Int) ≤ 8 * (n : Int) := by omega
  have hK2 : K ≤ 8 * n := by omega
  have hK3 : ¬ (9223372036854775807 < K + 8) := by omega
  have hK4 : ¬ (9223372036854775807 < K + 8 + (8 * n - K)) := by omega
  have hd : (B.drop K).take (8 * n - K) = B.drop K := List.take_of_length_le (by rw [List.length_drop, hBl]; omega)
  have ha := app_rule
  have g0 : ∀ h, (⟨#[e0, e1, e2, e3, e4, e5, e6, e7]⟩ : ByteArray)[0]'h = e0 := fun _ => rfl
  have d0 : decide ((1600 : Int) < (l.length : Int)) = false := by simp; omega
  have d1 : decide ((8 : Int) ≤ (m.length : Int)) = false := by simp; omega
  go_enter Try.func5, Try.ntmps5
  go_wp2_with (first | (go_at_call 8; refine (lives_ok _).mono ?_; rintro e w1 ⟨rfl, g1⟩) | (go_at_call 22; refine (HP.out _).mono ?_; rintro e wq ⟨rfl, rfl⟩))
  refine (HR1.out _).mono ?_
  rintro e w2 ⟨vt, vp, rfl, hs1, g2⟩
  go_wp2_with fail
  refine (HR2.out _).mono ?_
  rintro e w3 ⟨vt', vp', rfl, hs2, g3⟩
  go_wp2_with fail
  refine (sameScript_any vt vp vt' vp' S w3 hf.out (hs1.nw g3) hs2).mono ?_
  rintro e w4 ⟨rfl, g4⟩
  have hn4 : Nw W w4 := ((g1.trans g2).trans g3).trans g4
  clear g1 g2 g3 g4 hs1 hs2 HR2 HP
  go_wp2_with fail
  refine (HE.out _).mono ?_
  rintro e w5 ⟨rfl, g5⟩
  have hn5 := hn4.trans g5
  clear hn4 g5 HE
  cases is with
  | true =>
    go_wp2
    go_ret
    exact ⟨rfl, hn5.alloc _⟩
  | false =>
    by_cases q1 : e0 = 1
    · have b1 : ((e0.toNat : Int) == 1) = true := by subst q1; rfl
      clear q1 HR3
      go_wp2
      go_ret
      exact ⟨rfl, hn5.alloc _⟩
    · have b1 : ((e0.toNat : Int) == 1) = false := u8_eq e0 1 (by decide) q1
      by_cases q3 : e0 = 3
      · have b3 : ((e0.toNat : Int) == 3) = true := by subst q3; rfl
        clear q1 q3 HR3
        go_wp2
        go_ret
        exact ⟨rfl, hn5.alloc _⟩
      · have b3 : ((e0.toNat : Int) == 3) = false := u8_eq e0 3 (by decide) q3
        have HR4 := Lib.hid (HR3.out rfl q1 q3)
        clear q1 q3 HR3
        go_wp2
        have hn6 := (hn5.alloc (.cells #[.int .i64 o.1, .int .i64 o.2.1, .int .i64 o.2.2.1, .int .i64 o.2.2.2.1, .int .i64 o.2.2.2.2.1, .int .i64 o.2.2.2.2.2] 37)).drew1
        refine region_told [some true, some false, some true, some true, some true, some true, some true, some true, some true, some true, some true, none, some false, none, some false, none, some true] (fun y => Nw W y) (by kernel_rfl) (by kernel_rfl) (by kernel_rfl) hn6 ?_
        repeat (first
          | (refine HW.off ?_)
          | (refine HW.take' ?_; apply Exists.intro; refine ⟨Or.inl ⟨by rfl, ?_⟩, ?_⟩; (intro x hx'; go_simp; first | done | with_reducible rfl); (try simp only [Act.put, List.setIfInBounds_toArray, List.set_cons_zero, List.set_cons_succ]))
          | (refine HW.go (fun KK hKK => ?_); go_simp; (first | (go_at_call 16; (with_reducible refine (HR1.out _).mono ?_); rintro e w7 ⟨ut, up, rfl, hs1, g7⟩; refine hKK.out _ _ (hn6.trans g7) ?_; intro _; clear hKK KK) | (go_at_call 16; (with_reducible refine (HR4.out _ (by simp) _).mono ?_); rintro e w8 ⟨ut', up', rfl, hs2, g8⟩; refine hKK.out _ _ ((hn6.trans g7).trans g8) ?_; intro _; clear hKK KK) | (go_at_call 21; (refine (sameScript_any ut up ut' up' S w8 hf.out (hs1.nw g8) hs2).mono ?_); rintro e w9 ⟨rfl, g9⟩; refine hKK.out _ _ (((hn6.trans g7).trans g8).trans g9) ?_; intro hF; clear hKK KK)); (try simp only [Act.put, List.setIfInBounds_toArray, List.set_cons_zero, List.set_cons_succ])))
        refine HW.end_ ?_
        refine NoPanic.normal ?_
        go_wp2
        go_ret
        exact ⟨rfl, ((hn6.trans g7).trans g8).trans g9⟩
end Go.Proofs.Ytmegaipedagcjaa.scriptSkips
