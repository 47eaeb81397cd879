/- ModeNames returns true. No condition. -/
import Derived.Test.YtcmdcbpbfjpnpaaRows
import Derived.WalkKit
import Derived.ProofKit
import Derived.OpenShut
import Derived.ShutString
import Derived.Test.YtcmdcbpbfjpnpaaModeD
namespace Go.Proofs.Ytcmdcbpbfjpnpaa.modeNames
open Go.ChangeShapes Go.WideShapes Go.ChangeAt Go.RowKit
open Go.ChangeMaps (open_string shut_string)
set_option linter.unusedVariables false      -- a walk need not use every w

theorem own : ownKnob Try.prog.godebug = none := by kernel_rfl

theorem hit_data (s : ByteArray) (j : Int) : hit s j = ((txtT j).data.toList == s.data.toList) := by unfold hit; rw [ByteArray.toList_eq, ByteArray.toList_eq]
theorem read_six (w : World) : Calls Try.prog 9 #[.string ⟨#[83, 73, 88]⟩] w fun e w' => e = .returned (.tuple #[.int .i64 4, .int .i64 0]) ∧ Nw w w' :=
  read_any _ 4 w (by decide) (fun j hj => by rw [hit_data]; revert j; decide +kernel) (fun _ => by rw [hit_data]; decide +kernel)
theorem read_low (w : World) : Calls Try.prog 9 #[.string ⟨#[115, 105, 120]⟩] w fun e w' => e = .returned (.tuple #[.int .i64 0, .int .i64 3]) ∧ Nw w w' :=
  read_any _ 7 w (by decide) (fun j hj => by rw [hit_data]; revert j; decide +kernel) (fun h => absurd h (by decide))
theorem read_mark (w : World) : Calls Try.prog 9 #[.string ⟨#[63]⟩] w fun e w' => e = .returned (.tuple #[.int .i64 0, .int .i64 3]) ∧ Nw w w' :=
  read_any _ 7 w (by decide) (fun j hj => by rw [hit_data]; revert j; decide +kernel) (fun h => absurd h (by decide))

theorem cells_new (w : World) (l : List Int) (t : TypeId) : Cells (w.alloc (.cells (l.map (Value.int .i64)).toArray t)) w.heap.size 0 l := by
  refine ⟨by show _ < (w.heap.push _).size; simp, fun k h => ?_⟩
  rw [cell_of_row _ _ (0 + k) _ t (0, 0) (heap_alloc_last w _)]
  simp [h]

theorem same_new (w : World) :
    Calls Try.prog 10 #[.slice (some ⟨w.heap.size, 0, none⟩) 7 7, .slice (some ⟨w.heap.size + 1, 0, none⟩) 7 7] ((w.alloc (.cells allRow 23)).alloc (.cells #[.int .i64 0, .int .i64 1, .int .i64 2, .int .i64 3, .int .i64 4, .int .i64 5, .int .i64 6] 23)) fun e w' => e = .returned (.bool true) ∧ Nw w w' := by
  have c1 : Cells ((w.alloc (.cells allRow 23)).alloc (.cells allRow 23)) w.heap.size 0 [0, 1, 2, 3, 4, 5, 6] := (cells_new w [0, 1, 2, 3, 4, 5, 6] 23).grown ((Nw.refl _).alloc _)
  have c2 : Cells ((w.alloc (.cells allRow 23)).alloc (.cells allRow 23)) (w.alloc (.cells allRow 23)).heap.size 0 [0, 1, 2, 3, 4, 5, 6] := cells_new _ [0, 1, 2, 3, 4, 5, 6] 23
  have hz : (w.alloc (.cells allRow 23)).heap.size = w.heap.size + 1 := by show (w.heap.push _).size = _; simp
  rw [hz] at c2
  exact (same_mode _ _ 7 _ _ 7 [0, 1, 2, 3, 4, 5, 6] _ c1 c2 (by decide)).mono fun e w' ⟨he, hg⟩ => ⟨he, Nw.trans (((Nw.refl w).alloc _).alloc _) hg⟩
theorem group_new (w : World) :
    Calls Try.prog 16 #[.slice (some ⟨w.heap.size, 0, none⟩) 3 3] (w.alloc (.cells #[.int .i64 1, .int .i64 2, .int .i64 3] 23)) fun e w' => e = .returned (.int .i64 4) ∧ Nw w w' :=
  (group_some _ _ 3 [1, 2, 3] _ (cells_new w [1, 2, 3] 23) (by intro z hz; simp at hz; unfold Md; omega) (by decide)).mono fun e w' ⟨he, hg⟩ => ⟨he, Nw.trans ((Nw.refl w).alloc _) hg⟩

set_option maxHeartbeats 4000000 in
theorem walk (w : World) : Calls Try.prog 3 #[] w fun e w' => e = .returned (.bool true) ∧ Nw w w' := by
  have hG : Nw w w := Nw.refl w
  go_enter Try.func3, Try.ntmps3
  go_wp2_with fail
  refine (lives_ok _).mono ?_
  rintro e w1 ⟨rfl, hg⟩
  replace hG := Nw.trans hG hg
  clear hg
  go_wp2_with fail
  refine (read_six _).mono ?_
  rintro e w1 ⟨rfl, hg⟩
  replace hG := Nw.trans hG hg
  clear hg
  go_wp2_with fail
  refine (read_low _).mono ?_
  rintro e w1 ⟨rfl, hg⟩
  replace hG := Nw.trans hG hg
  clear hg
  go_wp2_with fail
  refine (read_mark _).mono ?_
  rintro e w1 ⟨rfl, hg⟩
  replace hG := Nw.trans hG hg
  clear hg
  go_wp2_with fail
  refine (all_any _).mono ?_
  rintro e w2 ⟨rfl, rfl⟩
  go_wp2_with fail
  refine (same_new _).mono ?_
  rintro e w1 ⟨rfl, hg⟩
  replace hG := Nw.trans hG hg
  clear hg
  go_wp2_with fail
  refine (known_no 7 _ (by decide)).mono ?_
  rintro e w1 ⟨rfl, rfl⟩
  go_wp2_with fail
  refine (known_no (-1) _ (by decide)).mono ?_
  rintro e w1 ⟨rfl, rfl⟩
  go_wp2_with fail
  refine (cmp_val 0 6 true _ rfl (by decide) (by decide) (by decide) (by decide)).mono ?_
  rintro e w1 ⟨rfl, hg⟩
  replace hG := Nw.trans hG hg
  clear hg
  go_wp2_with fail
  refine (cmp_val 6 1 false _ rfl (by decide) (by decide) (by decide) (by decide)).mono ?_
  rintro e w1 ⟨rfl, hg⟩
  replace hG := Nw.trans hG hg
  clear hg
  go_wp2_with fail
  refine (cmp_out1 7 0 _ (by decide)).mono ?_
  rintro e w1 ⟨rfl, rfl⟩
  go_wp2_with fail
  refine (cmp_val 4 1 true _ rfl (by decide) (by decide) (by decide) (by decide)).mono ?_
  rintro e w1 ⟨rfl, hg⟩
  replace hG := Nw.trans hG hg
  clear hg
  go_wp2_with fail
  refine (cmp_val 4 2 false _ rfl (by decide) (by decide) (by decide) (by decide)).mono ?_
  rintro e w1 ⟨rfl, hg⟩
  replace hG := Nw.trans hG hg
  clear hg
  go_wp2_with fail
  refine (sup_val 4 5 6 _ rfl (by decide) (by decide) (by decide) (by decide)).mono ?_
  rintro e w1 ⟨rfl, hg⟩
  replace hG := Nw.trans hG hg
  clear hg
  go_wp2_with fail
  refine (sup_val 2 5 6 _ rfl (by decide) (by decide) (by decide) (by decide)).mono ?_
  rintro e w1 ⟨rfl, hg⟩
  replace hG := Nw.trans hG hg
  clear hg
  go_wp2_with fail
  refine (sup_val 1 5 5 _ rfl (by decide) (by decide) (by decide) (by decide)).mono ?_
  rintro e w1 ⟨rfl, hg⟩
  replace hG := Nw.trans hG hg
  clear hg
  go_wp2_with fail
  refine (sup_out2 6 9 _ (by decide) (by decide) (by decide)).mono ?_
  rintro e w1 ⟨rfl, rfl⟩
  go_wp2_with fail
  refine (cov_val 5 3 true _ rfl (by decide) (by decide) (by decide) (by decide)).mono ?_
  rintro e w1 ⟨rfl, hg⟩
  replace hG := Nw.trans hG hg
  clear hg
  go_wp2_with fail
  refine (cov_val 3 2 false _ rfl (by decide) (by decide) (by decide) (by decide)).mono ?_
  rintro e w1 ⟨rfl, hg⟩
  replace hG := Nw.trans hG hg
  clear hg
  go_wp2_with fail
  refine (cov_out1 9 9 _ (by decide)).mono ?_
  rintro e w1 ⟨rfl, rfl⟩
  go_wp2_with fail
  refine (group_new _).mono ?_
  rintro e w1 ⟨rfl, hg⟩
  replace hG := Nw.trans hG hg
  clear hg
  go_wp2_with fail
  refine (group_nil _ _ _).mono ?_
  rintro e w1 ⟨rfl, hg⟩
  replace hG := Nw.trans hG hg
  clear hg
  go_wp2_with fail
  refine (par_lit 3 1 _ (by decide)).mono ?_
  rintro e w1 ⟨rfl, rfl⟩
  go_wp2_with fail
  refine (par_lit 0 0 _ (by decide)).mono ?_
  rintro e w1 ⟨rfl, rfl⟩
  go_wp2_with fail
  refine (par_lit 9 0 _ (by decide)).mono ?_
  rintro e w1 ⟨rfl, rfl⟩
  go_wp2_with fail
  refine (text_in 0 _ (by decide) (by decide)).mono ?_
  rintro e w1 ⟨rfl, hg⟩
  replace hG := Nw.trans hG hg
  clear hg
  have hx : ((txtT 0).toList == [110, 111, 110, 101]) = true := by rw [ByteArray.toList_eq]; decide +kernel
  go_wp2_with fail
  refine (text_out 9 _ (by decide)).mono ?_
  rintro e w2 ⟨rfl, rfl⟩
  go_wp2_with fail
  go_ret
  exact ⟨rfl, hG⟩

/-! ### THE ROW's STEP: WRITTEN OUT: LEAVE IT -/
set_option maxRecDepth 100000 in
theorem lifted (os : Os) (started : os.Started) (H : Type) (enc : TypeId × Value → H) :
    ReturnsInHanded {} Try.checked os 3 .any (Rows.modeNamesSpec.pre6 enc Try.prog Try.f3 Rows.modeNamesRow.domain false) (Rows.modeNamesSpec.post enc Try.prog Try.f3 false true false false) := by
  refine returnsInHanded_of_change (C := Try.checked) own started (by kernel_rfl) Try.func3
    (ChangeSpec.witness6 (enc := enc) (C := Try.checked) false ⟨#[], #[], []⟩ 8 (by kernel_rfl) (by kernel_rfl) (by kernel_rfl) (by kernel_rfl)) ?_
  intro W base args ds gs before hval0 hW hcnd _
  have hval : ∀ (j : Nat) t v, Try.f3.params[j]? = some t → args[j]? = some v → Value.okWide Try.prog W .any base t v := hval0
  have hW' := hW
  obtain ⟨p, q, hA0, hV, rfl, hfz, hnd⟩ := hW
  have hA : DataW.TrodAll enc Try.prog W 0 (fun _ => true) true Try.f3.params.toList args.toList ds p := hA0
  rw [Try.params3] at hA hval
  obtain ⟨rfl, rfl, rfl⟩ := trodAll_none hA
  obtain ⟨rfl, rfl⟩ := trodVars_none hV
  clear hA0 hval0
  refine (walk  W).mono fun e W' ⟨he, hg⟩ => ?_
  subst he
  exact ⟨_, rfl, _, _, _, [], _, [], hW', trodAll_mk1 (shut_bool Try.underlying4 _), rfl, rfl, Below.frame hg _, fun h => by cases h⟩

theorem over : Rows.modeNamesRow.holds Try.pinned (OpenSpec.ofChange Rows.modeNamesSpec) :=
  OpenClaim.holds_of_wide 3 Try.f3 rfl rfl rfl rfl rfl rfl rfl ⟨rfl, rfl, rfl, rfl, rfl⟩ rfl rfl rfl rfl rfl (by kernel_rfl) Try.func3 (by kernel_rfl)
    (of_decide_eq_true (by kernel_rfl)) (by unfold Func.isWrapper; first | (rw [if_pos (by decide +kernel)]; kernel_rfl) | (rw [if_neg (by decide +kernel)]; exact ⟨rfl, rfl⟩))
    (fun os started H enc _ => lifted os started H enc)

/-- ████ THE STATEMENT ████ -/
theorem proved : Rows.ModeNamesSaid :=
  over
end Go.Proofs.Ytcmdcbpbfjpnpaa.modeNames
