/- The walk of NameUnder: the ways put together. -/
import Derived.Test.YtdcjhjmbfpkigaaDoorNameUnderC
import Derived.Test.YtdcjhjmbfpkigaaDoorNameUnderD
import Derived.Test.YtdcjhjmbfpkigaaDoorNameUnderE
namespace Go.Proofs.YtdcjhjmbfpkigaaDoor.nameUnder
open Go.ChangeShapes Go.WideShapes Go.ChangeAt Go.RowKit
set_option linter.unusedVariables false      -- a walk need not use every fact
theorem walk (a0 b0 a1 b1 a2 b2 a3 a4 : Int) (w0 : (Lit.int .i64 a0).wf = true) (u0 : (Lit.int .i64 b0).wf = true) (w1 : (Lit.int .i64 a1).wf = true) (u1 : (Lit.int .i64 b1).wf = true) (w2 : (Lit.int .i64 a2).wf = true) (u2 : (Lit.int .i64 b2).wf = true) (w3 : (Lit.int .i64 a3).wf = true) (w4 : (Lit.int .i64 a4).wf = true) (w : World) (hsh : w.ShapedOpen Tryd.prog) :
    Calls Tryd.prog 8 #[.agg #[.int .i64 a0, .int .i64 b0], .agg #[.int .i64 a1, .int .i64 b1], .agg #[.int .i64 a2, .int .i64 b2], .int .i64 a3, .int .i64 a4] w fun e w' => e = .returned (.bool true) ∧ Nw w w' := by
  rcases two_ways a3 a4 with ⟨q0, t1, t2⟩ | ⟨⟨q0, q1⟩, t1, t2⟩ | ⟨⟨q0, q1, q2⟩, t1, t2⟩ | ⟨⟨q0, q1, q2, q3⟩, t1, t2⟩ | ⟨⟨q0, q1, q2, q3⟩, t1, t2, t3, t4⟩
  · by_cases hk : lvl a0 b0 = -1
    · have n : ∀ c d : Int, und a0 b0 c d = false := fun c d => und_no.2 (fun h => h.1 hk)
      exact way0_A1 a0 b0 a1 b1 a2 b2 a3 a4 w (Lib.hid hk) (Lib.hid (n _ _)) (Lib.hid (n _ _)) (Lib.hid (n _ _)) q0 t1 t2
    · have s1 : und a0 b0 a0 b0 = true := und_of.2 ⟨hk, hk, .inr ⟨rfl, .inr rfl⟩⟩
      have s2 : und a0 b0 (-1) (-1) = true := und_of.2 ⟨hk, by decide, .inl ⟨rfl, rfl⟩⟩
      cases x : und a0 b0 a1 b1 with
      | false => exact way1_A1 a0 b0 a1 b1 a2 b2 a3 a4 w (Lib.hid hk) (Lib.hid s1) (Lib.hid s2) (Lib.hid x) q0 t1 t2
      | true =>
        cases x' : und a1 b1 a0 b0 with
        | true =>
          obtain ⟨rfl, rfl⟩ := und_anti x x'
          cases y : und a0 b0 a2 b2 with
          | false => exact way4_A1 a0 b0 a2 b2 a3 a4 w (Lib.hid hk) (Lib.hid s1) (Lib.hid s2) (Lib.hid y) q0 t1 t2
          | true => exact way5_A1 a0 b0 a2 b2 a3 a4 w (Lib.hid hk) (Lib.hid s1) (Lib.hid s2) (Lib.hid y) q0 t1 t2
        | false =>
          cases y : und a1 b1 a2 b2 with
          | false => exact way2_A1 a0 b0 a1 b1 a2 b2 a3 a4 w (Lib.hid hk) (Lib.hid s1) (Lib.hid s2) (Lib.hid x) (Lib.hid y) (Lib.hid x') q0 t1 t2
          | true => exact way3_A1 a0 b0 a1 b1 a2 b2 a3 a4 w (Lib.hid hk) (Lib.hid s1) (Lib.hid s2) (Lib.hid x) (Lib.hid y) (Lib.hid (und_trans x y)) (Lib.hid x') q0 t1 t2
  · by_cases hk : lvl a0 b0 = -1
    · have n : ∀ c d : Int, und a0 b0 c d = false := fun c d => und_no.2 (fun h => h.1 hk)
      exact way0_A2 a0 b0 a1 b1 a2 b2 a3 a4 w (Lib.hid hk) (Lib.hid (n _ _)) (Lib.hid (n _ _)) (Lib.hid (n _ _)) q0 q1 t1 t2
    · have s1 : und a0 b0 a0 b0 = true := und_of.2 ⟨hk, hk, .inr ⟨rfl, .inr rfl⟩⟩
      have s2 : und a0 b0 (-1) (-1) = true := und_of.2 ⟨hk, by decide, .inl ⟨rfl, rfl⟩⟩
      cases x : und a0 b0 a1 b1 with
      | false => exact way1_A2 a0 b0 a1 b1 a2 b2 a3 a4 w (Lib.hid hk) (Lib.hid s1) (Lib.hid s2) (Lib.hid x) q0 q1 t1 t2
      | true =>
        cases x' : und a1 b1 a0 b0 with
        | true =>
          obtain ⟨rfl, rfl⟩ := und_anti x x'
          cases y : und a0 b0 a2 b2 with
          | false => exact way4_A2 a0 b0 a2 b2 a3 a4 w (Lib.hid hk) (Lib.hid s1) (Lib.hid s2) (Lib.hid y) q0 q1 t1 t2
          | true => exact way5_A2 a0 b0 a2 b2 a3 a4 w (Lib.hid hk) (Lib.hid s1) (Lib.hid s2) (Lib.hid y) q0 q1 t1 t2
        | false =>
          cases y : und a1 b1 a2 b2 with
          | false => exact way2_A2 a0 b0 a1 b1 a2 b2 a3 a4 w (Lib.hid hk) (Lib.hid s1) (Lib.hid s2) (Lib.hid x) (Lib.hid y) (Lib.hid x') q0 q1 t1 t2
          | true => exact way3_A2 a0 b0 a1 b1 a2 b2 a3 a4 w (Lib.hid hk) (Lib.hid s1) (Lib.hid s2) (Lib.hid x) (Lib.hid y) (Lib.hid (und_trans x y)) (Lib.hid x') q0 q1 t1 t2
  · by_cases hk : lvl a0 b0 = -1
    · have n : ∀ c d : Int, und a0 b0 c d = false := fun c d => und_no.2 (fun h => h.1 hk)
      exact way0_B1 a0 b0 a1 b1 a2 b2 a3 a4 w (Lib.hid hk) (Lib.hid (n _ _)) (Lib.hid (n _ _)) (Lib.hid (n _ _)) q0 q1 q2 t1 t2
    · have s1 : und a0 b0 a0 b0 = true := und_of.2 ⟨hk, hk, .inr ⟨rfl, .inr rfl⟩⟩
      have s2 : und a0 b0 (-1) (-1) = true := und_of.2 ⟨hk, by decide, .inl ⟨rfl, rfl⟩⟩
      cases x : und a0 b0 a1 b1 with
      | false => exact way1_B1 a0 b0 a1 b1 a2 b2 a3 a4 w (Lib.hid hk) (Lib.hid s1) (Lib.hid s2) (Lib.hid x) q0 q1 q2 t1 t2
      | true =>
        cases x' : und a1 b1 a0 b0 with
        | true =>
          obtain ⟨rfl, rfl⟩ := und_anti x x'
          cases y : und a0 b0 a2 b2 with
          | false => exact way4_B1 a0 b0 a2 b2 a3 a4 w (Lib.hid hk) (Lib.hid s1) (Lib.hid s2) (Lib.hid y) q0 q1 q2 t1 t2
          | true => exact way5_B1 a0 b0 a2 b2 a3 a4 w (Lib.hid hk) (Lib.hid s1) (Lib.hid s2) (Lib.hid y) q0 q1 q2 t1 t2
        | false =>
          cases y : und a1 b1 a2 b2 with
          | false => exact way2_B1 a0 b0 a1 b1 a2 b2 a3 a4 w (Lib.hid hk) (Lib.hid s1) (Lib.hid s2) (Lib.hid x) (Lib.hid y) (Lib.hid x') q0 q1 q2 t1 t2
          | true => exact way3_B1 a0 b0 a1 b1 a2 b2 a3 a4 w (Lib.hid hk) (Lib.hid s1) (Lib.hid s2) (Lib.hid x) (Lib.hid y) (Lib.hid (und_trans x y)) (Lib.hid x') q0 q1 q2 t1 t2
  · by_cases hk : lvl a0 b0 = -1
    · have n : ∀ c d : Int, und a0 b0 c d = false := fun c d => und_no.2 (fun h => h.1 hk)
      exact way0_B2 a0 b0 a1 b1 a2 b2 a3 a4 w (Lib.hid hk) (Lib.hid (n _ _)) (Lib.hid (n _ _)) (Lib.hid (n _ _)) q0 q1 q2 q3 t1 t2
    · have s1 : und a0 b0 a0 b0 = true := und_of.2 ⟨hk, hk, .inr ⟨rfl, .inr rfl⟩⟩
      have s2 : und a0 b0 (-1) (-1) = true := und_of.2 ⟨hk, by decide, .inl ⟨rfl, rfl⟩⟩
      cases x : und a0 b0 a1 b1 with
      | false => exact way1_B2 a0 b0 a1 b1 a2 b2 a3 a4 w (Lib.hid hk) (Lib.hid s1) (Lib.hid s2) (Lib.hid x) q0 q1 q2 q3 t1 t2
      | true =>
        cases x' : und a1 b1 a0 b0 with
        | true =>
          obtain ⟨rfl, rfl⟩ := und_anti x x'
          cases y : und a0 b0 a2 b2 with
          | false => exact way4_B2 a0 b0 a2 b2 a3 a4 w (Lib.hid hk) (Lib.hid s1) (Lib.hid s2) (Lib.hid y) q0 q1 q2 q3 t1 t2
          | true => exact way5_B2 a0 b0 a2 b2 a3 a4 w (Lib.hid hk) (Lib.hid s1) (Lib.hid s2) (Lib.hid y) q0 q1 q2 q3 t1 t2
        | false =>
          cases y : und a1 b1 a2 b2 with
          | false => exact way2_B2 a0 b0 a1 b1 a2 b2 a3 a4 w (Lib.hid hk) (Lib.hid s1) (Lib.hid s2) (Lib.hid x) (Lib.hid y) (Lib.hid x') q0 q1 q2 q3 t1 t2
          | true => exact way3_B2 a0 b0 a1 b1 a2 b2 a3 a4 w (Lib.hid hk) (Lib.hid s1) (Lib.hid s2) (Lib.hid x) (Lib.hid y) (Lib.hid (und_trans x y)) (Lib.hid x') q0 q1 q2 q3 t1 t2
  · by_cases hk : lvl a0 b0 = -1
    · have n : ∀ c d : Int, und a0 b0 c d = false := fun c d => und_no.2 (fun h => h.1 hk)
      exact way0_C a0 b0 a1 b1 a2 b2 a3 a4 w (Lib.hid hk) (Lib.hid (n _ _)) (Lib.hid (n _ _)) (Lib.hid (n _ _)) q0 q1 q2 q3 t1 t2 t3 t4
    · have s1 : und a0 b0 a0 b0 = true := und_of.2 ⟨hk, hk, .inr ⟨rfl, .inr rfl⟩⟩
      have s2 : und a0 b0 (-1) (-1) = true := und_of.2 ⟨hk, by decide, .inl ⟨rfl, rfl⟩⟩
      cases x : und a0 b0 a1 b1 with
      | false => exact way1_C a0 b0 a1 b1 a2 b2 a3 a4 w (Lib.hid hk) (Lib.hid s1) (Lib.hid s2) (Lib.hid x) q0 q1 q2 q3 t1 t2 t3 t4
      | true =>
        cases x' : und a1 b1 a0 b0 with
        | true =>
          obtain ⟨rfl, rfl⟩ := und_anti x x'
          cases y : und a0 b0 a2 b2 with
          | false => exact way4_C a0 b0 a2 b2 a3 a4 w (Lib.hid hk) (Lib.hid s1) (Lib.hid s2) (Lib.hid y) q0 q1 q2 q3 t1 t2 t3 t4
          | true => exact way5_C a0 b0 a2 b2 a3 a4 w (Lib.hid hk) (Lib.hid s1) (Lib.hid s2) (Lib.hid y) q0 q1 q2 q3 t1 t2 t3 t4
        | false =>
          cases y : und a1 b1 a2 b2 with
          | false => exact way2_C a0 b0 a1 b1 a2 b2 a3 a4 w (Lib.hid hk) (Lib.hid s1) (Lib.hid s2) (Lib.hid x) (Lib.hid y) (Lib.hid x') q0 q1 q2 q3 t1 t2 t3 t4
          | true => exact way3_C a0 b0 a1 b1 a2 b2 a3 a4 w (Lib.hid hk) (Lib.hid s1) (Lib.hid s2) (Lib.hid x) (Lib.hid y) (Lib.hid (und_trans x y)) (Lib.hid x') q0 q1 q2 q3 t1 t2 t3 t4
end Go.Proofs.YtdcjhjmbfpkigaaDoor.nameUnder
