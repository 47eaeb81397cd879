
/- PoolNames returns true. No condition. -/
import Derived.Test.YtckbjgcelpmffaaRows
import Derived.WalkKit
import Derived.ProofKit
import Derived.OpenShut
import Derived.ShutString
import Derived.Test.YtckbjgcelpmffaaPoS
namespace Go.Proofs.Ytckbjgcelpmffaa.poolNames
open Go.ChangeShapes Go.WideShapes Go.ChangeAt Go.RowKit
open Go.ChangeMaps (open_string shut_string)
set_option linter.unusedVariables false      -- a walk need not use every w

theorem own : ownKnob Try.prog.godebug = none := by kernel_rfl

set_option maxRecDepth 100000 in
set_option maxHeartbeats 4000000 in
theorem walk (w : World) : Calls Try.prog 3 #[] w fun e w' => e = .returned (.bool true) ∧ Nw w w' := by
  go_enter Try.func3, Try.ntmps3
  go_wp2_with fail
  refine (lives_ok _).mono ?_
  rintro e wl ⟨rfl, g0⟩
  have G0 := Lib.hid g0
  clear g0
  go_wp2_with fail
  refine (pnew_bad (-1) _ (by omega)).mono ?_
  rintro e wx ⟨rfl, rfl⟩
  go_wp2_with fail
  refine (pnew_bad 129 _ (by omega)).mono ?_
  rintro e wx ⟨rfl, rfl⟩
  go_wp2_with fail
  refine (pacc_new w _ G0.out 0 0 rfl (by omega)).mono ?_
  rintro e wz ⟨q, FZ, rfl, h, _, _⟩
  have HZ := Lib.hid h
  clear h G0
  go_wp2_with fail
  refine (pacc_full HZ.out (by decide)).mono ?_
  rintro e wx ⟨rfl, rfl⟩
  have HZ2 := Lib.hid HZ.out.nw
  clear HZ
  go_wp2_with fail
  refine (pacc_new w _ HZ2.out 2 2 rfl (by omega)).mono ?_
  rintro e w0 ⟨p, F0, rfl, h, _, _⟩
  have H0 := Lib.hid h
  clear h HZ2
  go_wp2_with fail
  refine (pacc_take H0.out 0 0 [true, false] (by decide) (by decide)).mono ?_
  rintro e w1 ⟨rfl, F1, h, _, _⟩
  have H1 := Lib.hid h
  clear h H0
  go_wp2_with fail
  refine (pacc_take H1.out 1 0 [true, true] (by decide) (by decide)).mono ?_
  rintro e w2 ⟨rfl, F2, h, _, _⟩
  have H2 := Lib.hid h
  clear h H1
  go_wp2_with fail
  refine (pacc_full H2.out (by decide)).mono ?_
  rintro e wx ⟨rfl, rfl⟩
  go_wp2_with fail
  refine (pacc_give H2.out 1 0 [true, false] (by decide) (by decide)).mono ?_
  rintro e w3 ⟨rfl, F3, h, _, _⟩
  have H3 := Lib.hid h
  clear h H2
  go_wp2_with fail
  refine (pacc_give_bad H3.out 1 (by decide)).mono ?_
  rintro e wx ⟨rfl, rfl⟩
  go_wp2_with fail
  refine (pacc_lent H3.out [0] (by decide)).mono ?_
  rintro e wa ⟨v, rfl, hI, _, hG⟩
  have HA := Lib.hid (H3.out.step hG)
  have HI := Lib.hid hI
  clear hI hG H3
  obtain ⟨ao, cap, rfl, _⟩ := HI.out.box
  go_wp2_with fail
  refine (take_nil _).mono ?_
  rintro e wx ⟨rfl, rfl⟩
  go_wp2_with fail
  refine (pacc_give_bad HA.out (-1) (by decide)).mono ?_
  rintro e wx ⟨rfl, rfl⟩
  go_wp2_with fail
  refine (pacc_has HA.out 0 true (by decide)).mono ?_
  rintro e wx ⟨rfl, rfl⟩
  go_wp2_with fail
  refine (pacc_has HA.out 1 false (by decide)).mono ?_
  rintro e wx ⟨rfl, rfl⟩
  go_wp2_with fail
  refine (pacc_has HA.out 2 false (by decide)).mono ?_
  rintro e wx ⟨rfl, rfl⟩
  go_wp2_with fail
  refine (pacc_live HA.out 1 (by decide)).mono ?_
  rintro e wb ⟨rfl, hG⟩
  have HB := Lib.hid (HA.out.step hG)
  have HJ := Lib.hid (HI.out.nw hG)
  clear hG HA HI
  go_wp2_with fail
  refine (pacc_most HB.out 2 rfl).mono ?_
  rintro e wx ⟨rfl, rfl⟩
  go_wp2_with fail
  have HK := Lib.hid (World.ownsRow_lit (base := 0) (size := 1) (e := 3) wb #[.int .i64 0] 1 (Nat.zero_le _) (by unfold maxLen; omega) rfl)
  refine (same_any _ _ _ [0] (HJ.out.nw ((Nw.refl _).alloc _)) HK.out).mono ?_
  rintro e wc ⟨rfl, hG⟩
  have HC := Lib.hid ((HB.out.step ((Nw.refl _).alloc _)).step hG)
  clear hG HB HJ HK
  go_wp2_with fail
  refine (give_nil _ _).mono ?_
  rintro e wx ⟨rfl, rfl⟩
  go_wp2_with fail
  refine (has_nil _ _).mono ?_
  rintro e wx ⟨rfl, rfl⟩
  go_wp2_with fail
  refine (live_nil _).mono ?_
  rintro e wx ⟨rfl, rfl⟩
  go_wp2_with fail
  refine (most_nil _).mono ?_
  rintro e wx ⟨rfl, rfl⟩
  go_wp2
  go_ret
  exact ⟨rfl, HC.out.nw⟩

/-! ### THE ROW's STEP: WRITTEN OUT: LEAVE IT -/
set_option maxRecDepth 100000 in
theorem lifted (os : Os) (started : os.Started) (H : Type) (enc : TypeId × Value → H) :
    ReturnsInHanded {} Try.checked os 3 .any (Rows.poolNamesSpec.pre6 enc Try.prog Try.f3 Rows.poolNamesRow.domain false) (Rows.poolNamesSpec.post enc Try.prog Try.f3 false true false false) := by
  refine returnsInHanded_of_change (C := Try.checked) own started (by kernel_rfl) Try.func3
    (ChangeSpec.witness6 (enc := enc) (C := Try.checked) false ⟨#[], #[], []⟩ 8 (by kernel_rfl) (by kernel_rfl) (by kernel_rfl) (by kernel_rfl)) ?_
  intro W base args ds gs before hval0 hW hcnd _
  have hval : ∀ (j : Nat) t v, Try.f3.params[j]? = some t → args[j]? = some v → Value.okWide Try.prog W .any base t v := hval0
  have hW' := hW
  obtain ⟨p, q, hA0, hV, rfl, hfz, hnd⟩ := hW
  have hA : DataW.TrodAll enc Try.prog W 0 (fun _ => true) true Try.f3.params.toList args.toList ds p := hA0
  rw [Try.params3] at hA hval
  obtain ⟨rfl, rfl, rfl⟩ := trodAll_none hA
  obtain ⟨rfl, rfl⟩ := trodVars_none hV
  clear hA0 hval0
  refine (walk  W).mono fun e W' ⟨he, hg⟩ => ?_
  subst he
  exact ⟨_, rfl, _, _, _, [], _, [], hW', trodAll_mk1 (shut_bool Try.underlying4 _), rfl, rfl, Below.frame hg _, fun h => by cases h⟩

theorem over : Rows.poolNamesRow.holds Try.pinned (OpenSpec.ofChange Rows.poolNamesSpec) :=
  OpenClaim.holds_of_wide 3 Try.f3 rfl rfl rfl rfl rfl rfl rfl ⟨rfl, rfl, rfl, rfl, rfl⟩ rfl rfl rfl rfl rfl (by kernel_rfl) Try.func3 (by kernel_rfl)
    (of_decide_eq_true (by kernel_rfl)) (by unfold Func.isWrapper; first | (rw [if_pos (by decide +kernel)]; kernel_rfl) | (rw [if_neg (by decide +kernel)]; exact ⟨rfl, rfl⟩))
    (fun os started H enc _ => lifted os started H enc)

/-- ████ THE STATEMENT ████ -/
theorem proved : Rows.PoolNamesSaid :=
  over
end Go.Proofs.Ytckbjgcelpmffaa.poolNames
