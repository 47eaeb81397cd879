
/- LatchNames returns true. No condition. -/
import Derived.Test.YtloendfkfginjaaRows
import Derived.WalkKit
import Derived.ProofKit
import Derived.OpenShut
import Derived.ShutString
import Derived.Test.YtloendfkfginjaaLtS
namespace Go.Proofs.Ytloendfkfginjaa.latchNames
open Go.ChangeShapes Go.WideShapes Go.ChangeAt Go.RowKit
open Go.ChangeMaps (open_string shut_string)
set_option linter.unusedVariables false      -- a walk need not use every w

theorem own : ownKnob Try.prog.godebug = none := by kernel_rfl

set_option maxRecDepth 100000 in
set_option maxHeartbeats 4000000 in
theorem walk (w : World) : Calls Try.prog 3 #[] w fun e w' => e = .returned (.bool true) ∧ Nw w w' := by
  go_enter Try.func3, Try.ntmps3
  go_wp2_with fail
  refine (lives_ok _).mono ?_
  rintro e w0 ⟨rfl, g0⟩
  have G0 := Lib.hid g0
  clear g0
  go_wp2_with fail
  refine (acc_bad 0 _ (by omega)).mono ?_
  rintro e w1 ⟨rfl, rfl⟩
  go_wp2_with fail
  refine (acc_bad 17 _ (by omega)).mono ?_
  rintro e w1 ⟨rfl, rfl⟩
  go_wp2_with fail
  refine (acc_new w _ G0.out 3 3 rfl (by omega) (by omega)).mono ?_
  rintro e w1 ⟨c, F1, rfl, h, _, _⟩
  have H1 := Lib.hid h
  clear h
  go_wp2_with fail
  refine (acc_try H1.out 3 0 false 2 [-1, -1, -1] (by decide) (by decide)).mono ?_
  rintro e w2 ⟨rfl, F2, h, _, _⟩
  have H2 := Lib.hid h
  clear h H1
  go_wp2_with fail
  refine (acc_try H2.out 0 8 false 2 [-1, -1, -1] (by decide) (by decide)).mono ?_
  rintro e w3 ⟨rfl, F3, h, _, _⟩
  have H3 := Lib.hid h
  clear h H2
  go_wp2_with fail
  refine (acc_try H3.out 2 5 true 0 [-1, -1, 5] (by decide) (by decide)).mono ?_
  rintro e w4 ⟨rfl, F4, h, _, _⟩
  have H4 := Lib.hid h
  clear h H3
  go_wp2_with fail
  refine (acc_try H4.out 0 5 true 0 [5, -1, 5] (by decide) (by decide)).mono ?_
  rintro e w5 ⟨rfl, F5, h, _, _⟩
  have H5 := Lib.hid h
  clear h H4
  go_wp2_with fail
  refine (acc_try H5.out 2 5 false 4 [5, -1, 5] (by decide) (by decide)).mono ?_
  rintro e w6 ⟨rfl, F6, h, _, _⟩
  have H6 := Lib.hid h
  clear h H5
  go_wp2_with fail
  refine (acc_free H6.out 2 4 6 [5, -1, 5] (by decide) (by decide)).mono ?_
  rintro e w7 ⟨rfl, F7, h, _, _⟩
  have H7 := Lib.hid h
  clear h H6
  go_wp2_with fail
  refine (acc_free H7.out 1 4 6 [5, -1, 5] (by decide) (by decide)).mono ?_
  rintro e w8 ⟨rfl, F8, h, _, _⟩
  have H8 := Lib.hid h
  clear h H7
  go_wp2_with fail
  refine (acc_holder H8.out 2 5 true (by decide)).mono ?_
  rintro e wq ⟨rfl, rfl⟩
  go_wp2_with fail
  refine (acc_holder H8.out 1 0 false (by decide)).mono ?_
  rintro e wq ⟨rfl, rfl⟩
  go_wp2_with fail
  refine (acc_holder H8.out 9 0 false (by decide)).mono ?_
  rintro e wq ⟨rfl, rfl⟩
  go_wp2_with fail
  refine (try_nil _ _ _).mono ?_
  rintro e wq ⟨rfl, rfl⟩
  go_wp2_with fail
  refine (holder_nil _ _).mono ?_
  rintro e wq ⟨rfl, rfl⟩
  go_wp2_with fail
  refine (acc_held H8.out 5 [0, 2] (by decide)).mono ?_
  rintro e w9 ⟨v, rfl, hI, _, hG⟩
  have H9 := Lib.hid (H8.out.step hG)
  have HI := Lib.hid hI
  clear hI hG H8
  obtain ⟨ao, cap, rfl, _⟩ := HI.out.box
  go_wp2_with fail
  have HJ := Lib.hid (World.ownsRow_lit (base := 0) (size := 1) (e := 3) w9 #[.int .i64 0, .int .i64 2] 2 (Nat.zero_le _) (by unfold maxLen; omega) rfl)
  refine (same_any _ _ _ [0, 2] (HI.out.nw ((Nw.refl _).alloc _)) HJ.out).mono ?_
  rintro e wa ⟨rfl, hG⟩
  have HA := Lib.hid ((H9.out.step ((Nw.refl _).alloc _)).step hG)
  clear hG H9
  go_wp2_with fail
  refine (acc_held HA.out 4 [] (by decide)).mono ?_
  rintro e wb ⟨v, rfl, hI, _, hG⟩
  obtain ⟨ao, cap, rfl, _⟩ := hI.box
  have HB := Lib.hid (HA.out.step hG)
  clear hI hG HA
  go_wp2_with fail
  refine (acc_len HB.out 3 rfl).mono ?_
  rintro e wq ⟨rfl, rfl⟩
  go_wp2_with fail
  refine (acc_taken HB.out 2 (by decide)).mono ?_
  rintro e wq ⟨rfl, rfl⟩
  go_wp2_with fail
  refine (free_nil _ _ _).mono ?_
  rintro e wq ⟨rfl, rfl⟩
  go_wp2_with fail
  refine (len_nil _).mono ?_
  rintro e wq ⟨rfl, rfl⟩
  go_wp2_with fail
  refine (taken_nil _).mono ?_
  rintro e wq ⟨rfl, rfl⟩
  go_wp2_with fail
  refine (held_nil _ _).mono ?_
  rintro e wq ⟨rfl, rfl⟩
  go_wp2
  go_ret
  exact ⟨rfl, HB.out.nw⟩

/-! ### THE ROW's STEP: WRITTEN OUT: LEAVE IT -/
set_option maxRecDepth 100000 in
theorem lifted (os : Os) (started : os.Started) (H : Type) (enc : TypeId × Value → H) :
    ReturnsInHanded {} Try.checked os 3 .any (Rows.latchNamesSpec.pre6 enc Try.prog Try.f3 Rows.latchNamesRow.domain false) (Rows.latchNamesSpec.post enc Try.prog Try.f3 false true false false) := by
  refine returnsInHanded_of_change (C := Try.checked) own started (by kernel_rfl) Try.func3
    (ChangeSpec.witness6 (enc := enc) (C := Try.checked) false ⟨#[], #[], []⟩ 8 (by kernel_rfl) (by kernel_rfl) (by kernel_rfl) (by kernel_rfl)) ?_
  intro W base args ds gs before hval0 hW hcnd _
  have hval : ∀ (j : Nat) t v, Try.f3.params[j]? = some t → args[j]? = some v → Value.okWide Try.prog W .any base t v := hval0
  have hW' := hW
  obtain ⟨p, q, hA0, hV, rfl, hfz, hnd⟩ := hW
  have hA : DataW.TrodAll enc Try.prog W 0 (fun _ => true) true Try.f3.params.toList args.toList ds p := hA0
  rw [Try.params3] at hA hval
  obtain ⟨rfl, rfl, rfl⟩ := trodAll_none hA
  obtain ⟨rfl, rfl⟩ := trodVars_none hV
  clear hA0 hval0
  refine (walk  W).mono fun e W' ⟨he, hg⟩ => ?_
  subst he
  exact ⟨_, rfl, _, _, _, [], _, [], hW', trodAll_mk1 (shut_bool Try.underlying4 _), rfl, rfl, Below.frame hg _, fun h => by cases h⟩

theorem over : Rows.latchNamesRow.holds Try.pinned (OpenSpec.ofChange Rows.latchNamesSpec) :=
  OpenClaim.holds_of_wide 3 Try.f3 rfl rfl rfl rfl rfl rfl rfl ⟨rfl, rfl, rfl, rfl, rfl⟩ rfl rfl rfl rfl rfl (by kernel_rfl) Try.func3 (by kernel_rfl)
    (of_decide_eq_true (by kernel_rfl)) (by unfold Func.isWrapper; first | (rw [if_pos (by decide +kernel)]; kernel_rfl) | (rw [if_neg (by decide +kernel)]; exact ⟨rfl, rfl⟩))
    (fun os started H enc _ => lifted os started H enc)

/-- ████ THE STATEMENT ████ -/
theorem proved : Rows.LatchNamesSaid :=
  over
end Go.Proofs.Ytloendfkfginjaa.latchNames
