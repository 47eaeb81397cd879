/- The walk of NameCalls. -/
import Derived.Test.YtdcjhjmbfpkigaaDoorNameT
import Derived.Test.YtdcjhjmbfpkigaaDoorNameAboveB
import Derived.Test.YtdcjhjmbfpkigaaDoorRefC
import Derived.Test.YtdcjhjmbfpkigaaDoorRefE
import Derived.Test.YtdcjhjmbfpkigaaDoorOrd
namespace Go.Proofs.YtdcjhjmbfpkigaaDoor.nameCalls
open Go.ChangeShapes Go.WideShapes Go.ChangeAt Go.RowKit
open Go.Proofs.YtdcjhjmbfpkigaaDoor.nameAbove (CL CL.step CL.step' CL.cons CL.at CL.two)
set_option linter.unusedVariables false      -- a walk need not use every fact

/-- A condition, under a name of its own. -/
def Held (S : World → Prop) (x : World) : Prop := S x

/-! ### The two sides answer alike -/
theorem pair_Table (a2 : Int) : ∃ (x y : Int) (e : Int), (∀ w, Calls Tryd.prog 10 #[.int .i64 a2] w fun E w' => E = .returned (.tuple #[.agg #[.int .i64 x, .int .i64 y], .int .i64 e]) ∧ Nw w w') ∧ (∀ w, Calls Tryd.prog 24 #[.int .i64 a2] w fun E w' => E = .returned (.tuple #[.agg #[.int .i64 x, .int .i64 y], .int .i64 e]) ∧ Nw w w') := by
  by_cases h : lvl a2 (-1) = 1
  · exact ⟨_, _, _, fun w => table_ok a2 w h, fun w => refTable_ok a2 w h⟩
  · exact ⟨_, _, _, fun w => table_no a2 w h, fun w => refTable_no a2 w h⟩
theorem pair_Record (a2 a3 : Int) : ∃ (x y : Int) (e : Int), (∀ w, Calls Tryd.prog 11 #[.int .i64 a2, .int .i64 a3] w fun E w' => E = .returned (.tuple #[.agg #[.int .i64 x, .int .i64 y], .int .i64 e]) ∧ Nw w w') ∧ (∀ w, Calls Tryd.prog 25 #[.int .i64 a2, .int .i64 a3] w fun E w' => E = .returned (.tuple #[.agg #[.int .i64 x, .int .i64 y], .int .i64 e]) ∧ Nw w w') := by
  by_cases h : lvl a2 a3 = 2
  · exact ⟨_, _, _, fun w => record_ok a2 a3 w h, fun w => refRecord_ok a2 a3 w h⟩
  · exact ⟨_, _, _, fun w => record_no a2 a3 w h, fun w => refRecord_no a2 a3 w h⟩
theorem pair_Parent (a0 b0 : Int) : ∃ (x y : Int) (e : Bool), (∀ w, Calls Tryd.prog 13 #[.agg #[.int .i64 a0, .int .i64 b0]] w fun E w' => E = .returned (.tuple #[.agg #[.int .i64 x, .int .i64 y], .bool e]) ∧ Nw w w') ∧ (∀ w, Calls Tryd.prog 26 #[.agg #[.int .i64 a0, .int .i64 b0]] w fun E w' => E = .returned (.tuple #[.agg #[.int .i64 x, .int .i64 y], .bool e]) ∧ Nw w w') := by
  rcases kinds a0 b0 with ⟨rfl, rfl⟩ | ⟨h0, h1, rfl⟩ | ⟨h0, h1, h2, h3⟩ | h
  · exact ⟨_, _, _, fun w => parent_none _ _ w (.inl lvl_db), fun w => refParent_none _ _ w (.inl lvl_db)⟩
  · exact ⟨_, _, _, fun w => parent_tab _ w (lvl_tab a0 h0 h1), fun w => refParent_tab _ w (lvl_tab a0 h0 h1)⟩
  · exact ⟨_, _, _, fun w => parent_rec _ _ w (lvl_rec a0 b0 h0 h1 h2 h3), fun w => refParent_rec _ _ w (lvl_rec a0 b0 h0 h1 h2 h3)⟩
  · exact ⟨_, _, _, fun w => parent_none _ _ w (.inr h), fun w => refParent_none _ _ w (.inr h)⟩
theorem pair_Read (s : ByteArray) (hs : s.size ≤ 60) : ∃ (x y : Int) (e : Int), (∀ w, Libs w → Calls Tryd.prog 12 #[.string s] w fun E w' => E = .returned (.tuple #[.agg #[.int .i64 x, .int .i64 y], .int .i64 e]) ∧ Nw w w') ∧ (∀ w, Calls Tryd.prog 27 #[.string s] w fun E w' => E = .returned (.tuple #[.agg #[.int .i64 x, .int .i64 y], .int .i64 e]) ∧ Nw w w') := by
  rcases text_or s.data.toList with ⟨p, q, hp, hh⟩ | hh
  · exact ⟨_, _, _, fun w hl => read_hit p q s w hl hs hp hh, fun w => refRead_yes p q s w hs hp hh⟩
  · exact ⟨_, _, _, fun w hl => read_miss s w hl hs hh, fun w => refRead_none s w hs hh⟩
theorem pair_Check (a0 b0 : Int) : ∃ v0 : Int, (∀ w, Calls Tryd.prog 19 #[.agg #[.int .i64 a0, .int .i64 b0]] w fun E w' => E = .returned (.int .i64 v0) ∧ Nw w w') ∧ (∀ w, Calls Tryd.prog 28 #[.agg #[.int .i64 a0, .int .i64 b0]] w fun E w' => E = .returned (.int .i64 v0) ∧ Nw w w') := by
  by_cases h : lvl a0 b0 = -1
  · exact ⟨_, fun w => check_no a0 b0 w h, fun w => refCheck_no a0 b0 w h⟩
  · exact ⟨_, fun w => check_ok a0 b0 w h, fun w => refCheck_ok a0 b0 w h⟩

theorem way_far (a0 b0 a1 b1 a2 a3 : Int) (s : ByteArray) (w : World) (hs : ¬ s.size ≤ 60) :
    Calls Tryd.prog 4 #[.agg #[.int .i64 a0, .int .i64 b0], .agg #[.int .i64 a1, .int .i64 b1], .int .i64 a2, .int .i64 a3, .string s] w fun e w' => e = .returned (.bool true) ∧ Nw w w' := by
  have hz : (60 : Int) < s.size := by omega
  go_enter Tryd.func4, Tryd.ntmps4
  go_wp2_with fail
  refine (lives_ok _).mono ?_
  rintro e w1 ⟨rfl, g1⟩
  go_wp2
  go_ret
  exact ⟨rfl, (((Nw.refl _).alloc _).alloc _).trans g1⟩
end Go.Proofs.YtdcjhjmbfpkigaaDoor.nameCalls
