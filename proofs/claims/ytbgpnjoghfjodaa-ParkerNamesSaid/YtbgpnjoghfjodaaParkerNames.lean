
/- ParkerNames returns true. No condition. -/
import Derived.Test.YtbgpnjoghfjodaaRows
import Derived.WalkKit
import Derived.ProofKit
import Derived.OpenShut
import Derived.ShutString
import Derived.Test.YtbgpnjoghfjodaaPkS
namespace Go.Proofs.Ytbgpnjoghfjodaa.parkerNames
open Go.ChangeShapes Go.WideShapes Go.ChangeAt Go.RowKit
open Go.ChangeMaps (open_string shut_string)
set_option linter.unusedVariables false      -- a walk need not use every w

theorem own : ownKnob Try.prog.godebug = none := by kernel_rfl

set_option maxRecDepth 100000 in
set_option maxHeartbeats 4000000 in
theorem walk (w : World) : Calls Try.prog 3 #[] w fun e w' => e = .returned (.bool true) ∧ Nw w w' := by
  go_enter Try.func3, Try.ntmps3
  go_wp2_with fail
  refine (lives_ok _).mono ?_
  rintro e wl ⟨rfl, g0⟩
  have G0 := Lib.hid g0
  clear g0
  go_wp2_with fail
  refine (acc_bad 0 _ (by omega)).mono ?_
  rintro e wx ⟨rfl, rfl⟩
  go_wp2_with fail
  refine (acc_bad 9 _ (by omega)).mono ?_
  rintro e wx ⟨rfl, rfl⟩
  go_wp2_with fail
  refine (acc_new w _ G0.out 3 3 rfl (by omega) (by omega)).mono ?_
  rintro e w0 ⟨p, rfl, h, _, _⟩
  have H0 := Lib.hid h
  clear h G0
  go_wp2_with fail
  refine (acc_park H0.out 3 false 2 [0, 0, 0] (by decide) (by decide)).mono ?_
  rintro e w1 ⟨rfl, h, _⟩
  have H1 := Lib.hid h
  clear h H0
  go_wp2_with fail
  refine (acc_unpark H1.out (-1) false 2 [0, 0, 0] (by decide) (by decide)).mono ?_
  rintro e w2 ⟨rfl, h, _⟩
  have H2 := Lib.hid h
  clear h H1
  go_wp2_with fail
  refine (acc_park H2.out 2 false 0 [0, 0, 1] (by decide) (by decide)).mono ?_
  rintro e w3 ⟨rfl, h, _⟩
  have H3 := Lib.hid h
  clear h H2
  go_wp2_with fail
  refine (acc_park H3.out 0 false 0 [1, 0, 1] (by decide) (by decide)).mono ?_
  rintro e w4 ⟨rfl, h, _⟩
  have H4 := Lib.hid h
  clear h H3
  go_wp2_with fail
  refine (acc_park H4.out 2 false 4 [1, 0, 1] (by decide) (by decide)).mono ?_
  rintro e w5 ⟨rfl, h, _⟩
  have H5 := Lib.hid h
  clear h H4
  go_wp2_with fail
  refine (acc_unpark H5.out 1 false 0 [1, 2, 1] (by decide) (by decide)).mono ?_
  rintro e w6 ⟨rfl, h, _⟩
  have H6 := Lib.hid h
  clear h H5
  go_wp2_with fail
  refine (acc_unpark H6.out 1 false 0 [1, 2, 1] (by decide) (by decide)).mono ?_
  rintro e w7 ⟨rfl, h, _⟩
  have H7 := Lib.hid h
  clear h H6
  go_wp2_with fail
  refine (acc_token H7.out 1 true (by decide)).mono ?_
  rintro e w8 ⟨rfl, h⟩
  have H8 := Lib.hid h
  clear h H7
  go_wp2_with fail
  refine (acc_drop H8.out 1 true [1, 0, 1] (by decide) (by decide)).mono ?_
  rintro e w9 ⟨rfl, h, _⟩
  have H9 := Lib.hid h
  clear h H8
  go_wp2_with fail
  refine (acc_drop H9.out 1 false [1, 0, 1] (by decide) (by decide)).mono ?_
  rintro e w10 ⟨rfl, h, _⟩
  have H10 := Lib.hid h
  clear h H9
  go_wp2_with fail
  refine (park_nil _ _).mono ?_
  rintro e wx ⟨rfl, rfl⟩
  go_wp2_with fail
  refine (unpark_nil _ _).mono ?_
  rintro e wx ⟨rfl, rfl⟩
  go_wp2_with fail
  refine (acc_parked H10.out 2 true (by decide)).mono ?_
  rintro e w11 ⟨rfl, h⟩
  have H11 := Lib.hid h
  clear h H10
  go_wp2_with fail
  refine (acc_parked H11.out 1 false (by decide)).mono ?_
  rintro e w12 ⟨rfl, h⟩
  have H12 := Lib.hid h
  clear h H11
  go_wp2_with fail
  refine (acc_parked H12.out 7 false (by decide)).mono ?_
  rintro e w13 ⟨rfl, h⟩
  have H13 := Lib.hid h
  clear h H12
  go_wp2_with fail
  refine (acc_token H13.out (-1) false (by decide)).mono ?_
  rintro e w14 ⟨rfl, h⟩
  have H14 := Lib.hid h
  clear h H13
  go_wp2_with fail
  refine (acc_waiting H14.out [0, 2] (by decide)).mono ?_
  rintro e wa ⟨v, rfl, hI, _, hG⟩
  have HA := Lib.hid (H14.out.step hG)
  have HI := Lib.hid hI
  clear hI hG H14
  obtain ⟨ao, cap, rfl, _⟩ := HI.out.box
  go_wp2_with fail
  have HJ := Lib.hid (World.ownsRow_lit (base := 0) (size := 1) (e := 3) wa #[.int .i64 0, .int .i64 2] 2 (Nat.zero_le _) (by unfold maxLen; omega) rfl)
  refine (same_any _ _ _ [0, 2] (HI.out.nw ((Nw.refl _).alloc _)) HJ.out).mono ?_
  rintro e wb ⟨rfl, hG⟩
  have HB := Lib.hid ((HA.out.step ((Nw.refl _).alloc _)).step hG)
  clear hG HA
  go_wp2_with fail
  refine (acc_len HB.out 3 rfl).mono ?_
  rintro e wx ⟨rfl, rfl⟩
  go_wp2_with fail
  refine (parked_nil _ _).mono ?_
  rintro e wz1 ⟨rfl, h⟩
  have HZ1 := Lib.hid (HB.out.step h)
  clear h HB
  go_wp2_with fail
  refine (token_nil _ _).mono ?_
  rintro e wz2 ⟨rfl, h⟩
  have HZ2 := Lib.hid (HZ1.out.step h)
  clear h HZ1
  go_wp2_with fail
  refine (drop_nil _ _).mono ?_
  rintro e wz3 ⟨rfl, h⟩
  have HZ3 := Lib.hid (HZ2.out.step h)
  clear h HZ2
  go_wp2_with fail
  refine (waiting_nil _).mono ?_
  rintro e wx ⟨rfl, rfl⟩
  go_wp2_with fail
  refine (len_nil _).mono ?_
  rintro e wx ⟨rfl, rfl⟩
  go_wp2
  go_ret
  exact ⟨rfl, HZ3.out.nw⟩

/-! ### THE ROW's STEP: WRITTEN OUT: LEAVE IT -/
set_option maxRecDepth 100000 in
theorem lifted (os : Os) (started : os.Started) (H : Type) (enc : TypeId × Value → H) :
    ReturnsInHanded {} Try.checked os 3 .any (Rows.parkerNamesSpec.pre6 enc Try.prog Try.f3 Rows.parkerNamesRow.domain false) (Rows.parkerNamesSpec.post enc Try.prog Try.f3 false true false false) := by
  refine returnsInHanded_of_change (C := Try.checked) own started (by kernel_rfl) Try.func3
    (ChangeSpec.witness6 (enc := enc) (C := Try.checked) false ⟨#[], #[], []⟩ 8 (by kernel_rfl) (by kernel_rfl) (by kernel_rfl) (by kernel_rfl)) ?_
  intro W base args ds gs before hval0 hW hcnd _
  have hval : ∀ (j : Nat) t v, Try.f3.params[j]? = some t → args[j]? = some v → Value.okWide Try.prog W .any base t v := hval0
  have hW' := hW
  obtain ⟨p, q, hA0, hV, rfl, hfz, hnd⟩ := hW
  have hA : DataW.TrodAll enc Try.prog W 0 (fun _ => true) true Try.f3.params.toList args.toList ds p := hA0
  rw [Try.params3] at hA hval
  obtain ⟨rfl, rfl, rfl⟩ := trodAll_none hA
  obtain ⟨rfl, rfl⟩ := trodVars_none hV
  clear hA0 hval0
  refine (walk  W).mono fun e W' ⟨he, hg⟩ => ?_
  subst he
  exact ⟨_, rfl, _, _, _, [], _, [], hW', trodAll_mk1 (shut_bool Try.underlying4 _), rfl, rfl, Below.frame hg _, fun h => by cases h⟩

theorem over : Rows.parkerNamesRow.holds Try.pinned (OpenSpec.ofChange Rows.parkerNamesSpec) :=
  OpenClaim.holds_of_wide 3 Try.f3 rfl rfl rfl rfl rfl rfl rfl ⟨rfl, rfl, rfl, rfl, rfl⟩ rfl rfl rfl rfl rfl (by kernel_rfl) Try.func3 (by kernel_rfl)
    (of_decide_eq_true (by kernel_rfl)) (by unfold Func.isWrapper; first | (rw [if_pos (by decide +kernel)]; kernel_rfl) | (rw [if_neg (by decide +kernel)]; exact ⟨rfl, rfl⟩))
    (fun os started H enc _ => lifted os started H enc)

/-- ████ THE STATEMENT ████ -/
theorem proved : Rows.ParkerNamesSaid :=
  over
end Go.Proofs.Ytbgpnjoghfjodaa.parkerNames
