
/- The walk of StripeNames. -/
import Derived.Test.YtcffpbikjeimgaaDoorStripeC
namespace Go.Proofs.YtcffpbikjeimgaaDoor.stripeNames
open Go.ChangeShapes Go.WideShapes Go.ChangeAt Go.RowKit
set_option linter.unusedVariables false      -- a walk need not use every fact
theorem txt37 : txtL 3 7 = [116, 51, 46, 114, 55] := by
  unfold txtL
  rw [lvl_rec 3 7 (by decide) (by decide) (by decide) (by decide)]
  show (116 :: (Lib.decDigits 3 ++ 46 :: 114 :: Lib.decDigits 7)) = _
  rw [Lib.decDigits_one (by decide), Lib.decDigits_one (by decide)]; rfl
theorem lvl37 : lvl 3 7 = 2 := by decide
theorem of1 : ofS 3 7 1 = 0 := by rw [ofS_yes 3 7 1 (by decide) (by decide) (by decide)]; omega
theorem of0 : ofS 3 7 0 = -1 := ofS_out _ _ _ (by decide)
theorem of17 : ofS 3 7 17 = -1 := ofS_out _ _ _ (by decide)
theorem ofbad : ofS (-1) 0 4 = -1 := ofS_bad _ _ _ (by decide)
theorem sm1 : smS 3 7 (-1) 0 4 = false := decide_eq_false (fun ⟨a, b⟩ => a (b.trans ofbad))
theorem sm2 : smS 3 7 3 7 16 = true := decide_eq_true ⟨by rw [ofS_yes 3 7 16 (by decide) (by decide) (by decide)]; omega, rfl⟩
theorem one_cell (w : World) (x : Int) (t : TypeId) : ICells (w.alloc (.cells #[.int .i64 x] t)) w.heap.size 0 [x] :=
  ⟨by simp, fun k hk => by
    have h0 : k = 0 := by simp at hk; omega
    subst h0
    simp [go_sem]⟩
theorem cn : cnts [(3, 7), (100, 0)] 1 = [1] := by
  rw [show ([(3, 7), (100, 0)] : List (Int × Int)) = ([] ++ [(3, 7)]) ++ [(100, 0)] from rfl, cnts_snoc, cnts_snoc, of1, ofS_bad 100 0 1 (by decide)]; rfl
set_option maxHeartbeats 2000000 in
theorem walk (w : World) : Calls Tryd.prog 3 #[] w fun e w' => e = .returned (.bool true) ∧ Nw w w' := by
  have hx := fun w => hash_any 3 7 w
  have hy := fun w => sum_any ⟨#[116, 51, 46, 114, 55]⟩ w (by decide)
  rw [show hsh 3 7 = fnv [116, 51, 46, 114, 55] from congrArg fnv txt37] at hx
  rw [show (⟨#[116, 51, 46, 114, 55]⟩ : ByteArray).data.toList = [116, 51, 46, 114, 55] from rfl] at hy
  generalize fnv [116, 51, 46, 114, 55] = X at hx hy
  have HX := Lib.hid hx
  have HY := Lib.hid hy
  clear hx hy
  go_enter Tryd.func3, Tryd.ntmps3
  go_wp2_with fail
  refine (lives_ok _).mono ?_
  rintro e w1 ⟨rfl, g1⟩
  go_wp2_with fail
  refine (kitR_any 3 7 _).mono ?_
  rintro e w2 ⟨rfl, g2⟩
  have hG := (g1.trans g2).alloc (.cells #[.int .i64 3, .int .i64 7] 24)
  have b0 : (w2.alloc (.cells #[.int .i64 3, .int .i64 7] 24)).cell? ⟨w2.heap.size, 0, none⟩ = some (.int .i64 3) := by simp [go_sem]
  have b1 : (w2.alloc (.cells #[.int .i64 3, .int .i64 7] 24)).cell? ⟨w2.heap.size, 1, none⟩ = some (.int .i64 7) := by simp [go_sem]
  go_wp2_with fail
  refine (HX.out _).mono ?_
  rintro e w3 ⟨rfl, g3⟩
  replace hG := hG.trans g3
  replace b0 := g3.keep b0
  replace b1 := g3.keep b1
  go_wp2_with fail
  refine (HY.out _).mono ?_
  rintro e w4 ⟨rfl, g4⟩
  replace hG := hG.trans g4
  replace b0 := g4.keep b0
  replace b1 := g4.keep b1
  go_wp2_with fail
  refine ((of1 ▸ of_any 3 7 1 _ : Calls Tryd.prog 11 _ _ fun e w' => e = .returned (.int .i64 (0)) ∧ Nw _ w')).mono ?_
  rintro e w5 ⟨rfl, g5⟩
  replace hG := hG.trans g5
  replace b0 := g5.keep b0
  replace b1 := g5.keep b1
  go_wp2_with fail
  refine ((of0 ▸ of_any 3 7 0 _ : Calls Tryd.prog 11 _ _ fun e w' => e = .returned (.int .i64 (-1)) ∧ Nw _ w')).mono ?_
  rintro e w6 ⟨rfl, g6⟩
  replace hG := hG.trans g6
  replace b0 := g6.keep b0
  replace b1 := g6.keep b1
  go_wp2_with fail
  refine ((of17 ▸ of_any 3 7 17 _ : Calls Tryd.prog 11 _ _ fun e w' => e = .returned (.int .i64 (-1)) ∧ Nw _ w')).mono ?_
  rintro e w7 ⟨rfl, g7⟩
  replace hG := hG.trans g7
  replace b0 := g7.keep b0
  replace b1 := g7.keep b1
  go_wp2_with fail
  refine ((ofbad ▸ of_any (-1) 0 4 _ : Calls Tryd.prog 11 _ _ fun e w' => e = .returned (.int .i64 (-1)) ∧ Nw _ w')).mono ?_
  rintro e w8 ⟨rfl, g8⟩
  replace hG := hG.trans g8
  replace b0 := g8.keep b0
  replace b1 := g8.keep b1
  go_wp2_with fail
  refine ((sm1 ▸ same_any 3 7 (-1) 0 4 _ : Calls Tryd.prog 12 _ _ fun e w' => e = .returned (.bool false) ∧ Nw _ w')).mono ?_
  rintro e w9 ⟨rfl, g9⟩
  replace hG := hG.trans g9
  replace b0 := g9.keep b0
  replace b1 := g9.keep b1
  go_wp2_with fail
  refine ((sm2 ▸ same_any 3 7 3 7 16 _ : Calls Tryd.prog 12 _ _ fun e w' => e = .returned (.bool true) ∧ Nw _ w')).mono ?_
  rintro e w10 ⟨rfl, g10⟩
  replace hG := hG.trans g10
  replace b0 := g10.keep b0
  replace b1 := g10.keep b1
  go_wp2_with fail
  refine (spread_out _ 17 _ (by decide)).mono ?_
  rintro e w11 ⟨rfl, g11⟩
  replace hG := hG.trans g11
  replace b0 := g11.keep b0
  replace b1 := g11.keep b1
  go_wp2_with fail
  refine (spread_some w11.heap.size 0 2 [(3, 7), (100, 0)] 1 _ (ncells_new w11 [(3, 7), (100, 0)] _) (by simp) (by decide) (by decide)).mono ?_
  rw [show cnts [(3, 7), (100, 0)] ((1 : Nat) : Int) = [1] from cn]
  rintro e w12 ⟨g, rfl, hi, hlt, hg⟩
  replace hG := (hG.alloc _).trans hg
  go_wp2_with fail
  have hi2 := hi.grown ((Nw.refl w12).alloc (.cells #[.int .i64 1] 3))
  refine (same_ints g 0 1 w12.heap.size 0 1 [1] _ hi2 (one_cell w12 1 _) (by simp)).mono ?_
  rintro e w13 ⟨rfl, hg2⟩
  go_wp2
  go_ret
  exact ⟨rfl, (hG.alloc _).trans hg2⟩
end Go.Proofs.YtcffpbikjeimgaaDoor.stripeNames
