/- The walk of NameCalls: the ways put together. -/
import Derived.Test.YtdcjhjmbfpkigaaDoorNameCallsC
import Derived.Test.YtdcjhjmbfpkigaaDoorNameCallsD
namespace Go.Proofs.YtdcjhjmbfpkigaaDoor.nameCalls
open Go.ChangeShapes Go.WideShapes Go.ChangeAt Go.RowKit
open Go.Proofs.YtdcjhjmbfpkigaaDoor.nameAbove (CL CL.step CL.step' CL.cons CL.at CL.two)
set_option linter.unusedVariables false      -- a walk need not use every fact
theorem walk (a0 b0 a1 b1 a2 a3 : Int) (s : ByteArray) (w0 : (Lit.int .i64 a0).wf = true) (u0 : (Lit.int .i64 b0).wf = true) (w1 : (Lit.int .i64 a1).wf = true) (u1 : (Lit.int .i64 b1).wf = true) (w2 : (Lit.int .i64 a2).wf = true) (w3 : (Lit.int .i64 a3).wf = true) (w4 : s.size ≤ maxLen) (w : World) (hsh : w.ShapedOpen Tryd.prog) (hL : laidMetH Tryd.prog Rows.nameCallsRow.laid w) :
    Calls Tryd.prog 4 #[.agg #[.int .i64 a0, .int .i64 b0], .agg #[.int .i64 a1, .int .i64 b1], .int .i64 a2, .int .i64 a3, .string s] w fun e w' => e = .returned (.bool true) ∧ Nw w w' := by
  have hl : Libs w := libs_of hsh hL
  by_cases hs : s.size ≤ 60
  · obtain ⟨x0, y0, e0, p0, q0⟩ := pair_Table a2
    obtain ⟨x1, y1, e1, p1, q1⟩ := pair_Record a2 a3
    obtain ⟨x2, y2, e2, p2, q2⟩ := pair_Parent a0 b0
    obtain ⟨x3, y3, e3, p3, q3⟩ := pair_Read s hs
    obtain ⟨v0, r0, t0⟩ := pair_Check a0 b0
    rcases kinds a0 b0 with ⟨rfl, rfl⟩ | ⟨h0, h1, rfl⟩ | ⟨h0, h1, h2, h3⟩ | h
    · exact way_nil _ _ a1 b1 a2 a3 s w hl hs x0 y0 e0 (Lib.hid p0) (Lib.hid q0) x1 y1 e1 (Lib.hid p1) (Lib.hid q1) x2 y2 e2 (Lib.hid p2) (Lib.hid q2) x3 y3 e3 (Lib.hid p3) (Lib.hid q3) v0 (Lib.hid r0) (Lib.hid t0) _ (Lib.hid fun w => level_any _ _ w) (Lib.hid fun w => refLevel_any _ _ w) _ (Lib.hid fun w => under_any _ _ a1 b1 w) (Lib.hid fun w => refUnder_any _ _ a1 b1 w) _ (Lib.hid fun w => compare_any _ _ a1 b1 w) (Lib.hid fun w => refCompare_any _ _ a1 b1 w) _ (Lib.hid fun w => text_any _ _ w) (Lib.hid fun w => refText_any _ _ w) (Lib.hid fun w => database_any w) (Lib.hid fun w => refDatabase_any w) (Lib.hid (.inl lvl_db))
    · exact way_list a0 _ a1 b1 a2 a3 s w hl hs x0 y0 e0 (Lib.hid p0) (Lib.hid q0) x1 y1 e1 (Lib.hid p1) (Lib.hid q1) x2 y2 e2 (Lib.hid p2) (Lib.hid q2) x3 y3 e3 (Lib.hid p3) (Lib.hid q3) v0 (Lib.hid r0) (Lib.hid t0) _ (Lib.hid fun w => level_any _ _ w) (Lib.hid fun w => refLevel_any _ _ w) _ (Lib.hid fun w => under_any _ _ a1 b1 w) (Lib.hid fun w => refUnder_any _ _ a1 b1 w) _ (Lib.hid fun w => compare_any _ _ a1 b1 w) (Lib.hid fun w => refCompare_any _ _ a1 b1 w) _ (Lib.hid fun w => text_any _ _ w) (Lib.hid fun w => refText_any _ _ w) (Lib.hid fun w => database_any w) (Lib.hid fun w => refDatabase_any w) _ (by simp) (Lib.hid fun w => anc_tab a0 w (lvl_tab a0 h0 h1)) (Lib.hid fun w => refAnc_tab a0 w (lvl_tab a0 h0 h1))
    · exact way_list a0 b0 a1 b1 a2 a3 s w hl hs x0 y0 e0 (Lib.hid p0) (Lib.hid q0) x1 y1 e1 (Lib.hid p1) (Lib.hid q1) x2 y2 e2 (Lib.hid p2) (Lib.hid q2) x3 y3 e3 (Lib.hid p3) (Lib.hid q3) v0 (Lib.hid r0) (Lib.hid t0) _ (Lib.hid fun w => level_any _ _ w) (Lib.hid fun w => refLevel_any _ _ w) _ (Lib.hid fun w => under_any _ _ a1 b1 w) (Lib.hid fun w => refUnder_any _ _ a1 b1 w) _ (Lib.hid fun w => compare_any _ _ a1 b1 w) (Lib.hid fun w => refCompare_any _ _ a1 b1 w) _ (Lib.hid fun w => text_any _ _ w) (Lib.hid fun w => refText_any _ _ w) (Lib.hid fun w => database_any w) (Lib.hid fun w => refDatabase_any w) _ (by simp) (Lib.hid fun w => anc_rec a0 b0 w (lvl_rec a0 b0 h0 h1 h2 h3)) (Lib.hid fun w => refAnc_rec a0 b0 w (lvl_rec a0 b0 h0 h1 h2 h3))
    · exact way_nil a0 b0 a1 b1 a2 a3 s w hl hs x0 y0 e0 (Lib.hid p0) (Lib.hid q0) x1 y1 e1 (Lib.hid p1) (Lib.hid q1) x2 y2 e2 (Lib.hid p2) (Lib.hid q2) x3 y3 e3 (Lib.hid p3) (Lib.hid q3) v0 (Lib.hid r0) (Lib.hid t0) _ (Lib.hid fun w => level_any _ _ w) (Lib.hid fun w => refLevel_any _ _ w) _ (Lib.hid fun w => under_any _ _ a1 b1 w) (Lib.hid fun w => refUnder_any _ _ a1 b1 w) _ (Lib.hid fun w => compare_any _ _ a1 b1 w) (Lib.hid fun w => refCompare_any _ _ a1 b1 w) _ (Lib.hid fun w => text_any _ _ w) (Lib.hid fun w => refText_any _ _ w) (Lib.hid fun w => database_any w) (Lib.hid fun w => refDatabase_any w) (Lib.hid (.inr h))
  · exact way_far a0 b0 a1 b1 a2 a3 s w hs
end Go.Proofs.YtdcjhjmbfpkigaaDoor.nameCalls
