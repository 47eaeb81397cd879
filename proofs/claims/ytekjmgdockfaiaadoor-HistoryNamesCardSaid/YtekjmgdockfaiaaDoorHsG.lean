
/- add of an end: the walk. -/
import Derived.Test.YtekjmgdockfaiaaDoorHsF
namespace Go.Proofs.YtekjmgdockfaiaaDoor
open Go.RowKit
set_option linter.unusedVariables false      -- a contract need not use every name

theorem wpList_delete_run {P : Program} {w : World} {ops : Array Oper} {rest : List Oper} {o : Oper} {a : Act} {Q : Exit → Act → World → Prop}
    (hg : o.guard = none) (m x : Operand) (t k : TypeId) (hop : o.op = Op.call { callee := Callee.builtin Builtin.delete, args := #[m, x], argTypes := #[t, k] }) (M K : Value) (w' : World) (hm : a.eval m = M) (hx : a.eval x = K)
    (hr : (Builtin.delete_ #[t, k] o.type #[M, K]).run P w = .ok (.tuple #[]) w') (h : wpList P ops Q rest (a.put o.dst (.tuple #[])) w') : wpList P ops Q (o :: rest) a w := by
  refine wpList_plain hg fun K' hK' => ?_
  unfold Oper.wp
  simp [execOp, hop, resolve, invoke, builtin, hm, hx, hr, Result.andThen]
  exact hK' _ _ h

set_option maxRecDepth 100000 in
set_option maxHeartbeats 4000000 in
theorem addEnd_walk (p bc bb g j N cap : Nat) (c t ix : Int) (k x tb rc m co th : Int) (u3 u9 : Value) (w w1 w2 w3 w4 w5 w6 w7 : World) (hj : (j : Int) < (N : Int)) (hj0 : (0 : Int) ≤ (j : Int))
    (H1 : Hid ((w.alloc (.cells #[.int .i64 c, .int .i64 t, .bool false, .int .i64 k, .int .i64 x, .int .i64 tb, .int .i64 rc, .int .i64 m, .int .i64 co] 31)) = w1))
    (hp1 : p < w1.heap.size) (hb1 : w.heap.size < w1.heap.size) (p01 : w1.cell? ⟨p, 0, none⟩ = some (.slice (some ⟨g, 0, none⟩) N cap)) (p11 : w1.cell? ⟨p, 1, none⟩ = some (.map (some bc))) (p21 : w1.cell? ⟨p, 2, none⟩ = some (.map (some bb))) (b01 : w1.cell? ⟨w.heap.size, 0, none⟩ = some (.int .i64 c)) (b11 : w1.cell? ⟨w.heap.size, 1, none⟩ = some (.int .i64 t)) (b21 : w1.cell? ⟨w.heap.size, 2, none⟩ = some (.bool false)) (b31 : w1.cell? ⟨w.heap.size, 3, none⟩ = some (.int .i64 k)) (b41 : w1.cell? ⟨w.heap.size, 4, none⟩ = some (.int .i64 x)) (b51 : w1.cell? ⟨w.heap.size, 5, none⟩ = some (.int .i64 tb)) (b61 : w1.cell? ⟨w.heap.size, 6, none⟩ = some (.int .i64 rc)) (b71 : w1.cell? ⟨w.heap.size, 7, none⟩ = some (.int .i64 m)) (b81 : w1.cell? ⟨w.heap.size, 8, none⟩ = some (.int .i64 co))
    (L1 : (Instr.lookup 59 (.map (some bc)) (.int .i64 c) false).run Tryd.prog w1.drew = .ok (callV th j false) w1.drew)
    (L2 : ∀ o, (Instr.lookup 59 (.map (some bc)) (.int .i64 c) false).run Tryd.prog (w1.alloc o).drew = .ok (callV th j false) (w1.alloc o).drew)
    (H2 : Hid ((w1.alloc (.cells #[.int .i64 th, .int .i64 (j : Int), .bool false] 73)).drew = w2))
    (hp2 : p < w2.heap.size) (hb2 : w.heap.size < w2.heap.size) (q22 : w2.cell? ⟨w1.heap.size, 2, none⟩ = some (.bool false)) (f2 : w2.frozen? ⟨w1.heap.size, 2, none⟩ = false) (hq2 : w1.heap.size < w2.heap.size)
    (H3 : Hid (w2.setCell ⟨w1.heap.size, 2, none⟩ (.bool true) = w3))
    (hp3 : p < w3.heap.size) (hb3 : w.heap.size < w3.heap.size) (p13 : w3.cell? ⟨p, 1, none⟩ = some (.map (some bc))) (b03 : w3.cell? ⟨w.heap.size, 0, none⟩ = some (.int .i64 c)) (q03 : w3.cell? ⟨w1.heap.size, 0, none⟩ = some (.int .i64 th)) (q13 : w3.cell? ⟨w1.heap.size, 1, none⟩ = some (.int .i64 (j : Int))) (q23 : w3.cell? ⟨w1.heap.size, 2, none⟩ = some (.bool true)) (hq3 : w1.heap.size < w3.heap.size)
    (H4 : Hid ((Instr.mapUpdate 59 (.map (some bc)) (.int .i64 c) (callV th j true)).run Tryd.prog w3.drew = .ok () w4))
    (hp4 : p < w4.heap.size) (hb4 : w.heap.size < w4.heap.size) (p24 : w4.cell? ⟨p, 2, none⟩ = some (.map (some bb))) (b14 : w4.cell? ⟨w.heap.size, 1, none⟩ = some (.int .i64 t))
    (H5 : Hid (∀ ty, (Builtin.delete_ #[60, 3] ty #[.map (some bb), .int .i64 t]).run Tryd.prog w4.drew = .ok (.tuple #[]) w5))
    (hp5 : p < w5.heap.size) (hb5 : w.heap.size < w5.heap.size) (p05 : w5.cell? ⟨p, 0, none⟩ = some (.slice (some ⟨g, 0, none⟩) N cap)) (q15 : w5.cell? ⟨w1.heap.size, 1, none⟩ = some (.int .i64 (j : Int))) (r5 : w5.cell? ⟨g, j * 10 + 3, none⟩ = some u3) (f5 : w5.frozen? ⟨g, j * 10 + 3, none⟩ = false) (hg5 : g < w5.heap.size) (hq5 : w1.heap.size < w5.heap.size)
    (H6 : Hid ((w5.setCell ⟨g, j * 10 + 3, none⟩ (.int .i64 ix)).drew = w6))
    (hp6 : p < w6.heap.size) (hb6 : w.heap.size < w6.heap.size) (p06 : w6.cell? ⟨p, 0, none⟩ = some (.slice (some ⟨g, 0, none⟩) N cap)) (b86 : w6.cell? ⟨w.heap.size, 8, none⟩ = some (.int .i64 co)) (q16 : w6.cell? ⟨w1.heap.size, 1, none⟩ = some (.int .i64 (j : Int))) (r6 : w6.cell? ⟨g, j * 10 + 9, none⟩ = some u9) (f6 : w6.frozen? ⟨g, j * 10 + 9, none⟩ = false) (hg6 : g < w6.heap.size) (hq6 : w1.heap.size < w6.heap.size)
    (H7 : Hid ((w6.setCell ⟨g, j * 10 + 9, none⟩ (.int .i64 co)).drew = w7)) :
    Calls Tryd.prog 29 #[.pointer (some ⟨p, 0, none⟩), .int .i64 ix, .agg #[.int .i64 c, .int .i64 t, .bool false, .int .i64 k, .int .i64 x, .int .i64 tb, .int .i64 rc, .int .i64 m, .int .i64 co]] w fun e w' => e = .returned (.tuple #[]) ∧ w' = w7 := by
  go_enter Tryd.func29, Tryd.ntmps29
  go_wp2
  rw [H1.out]
  go_region
  rw [H2.out]
  clear L1 L2
  go_wp2
  rw [H3.out]
  refine wp_region_still_tail 7 (by kernel_rfl) (by kernel_rfl) ?_
  simp only [List.take_succ_cons, List.take_zero, List.drop_succ_cons, List.drop_zero]
  repeat still_step
  try refine wpStill_nil ?_
  change wpList _ _ _ _ _ w3.drew
  go_wp2_with (at_mapUpdate; refine wpList_mapUpdate_run rfl (.tmp 58) (.tmp 60) (.tmp 61) 59 rfl _ _ _ _ rfl rfl rfl H4.out ?_)
  refine wp_region_still_tail 6 (by kernel_rfl) (by kernel_rfl) ?_
  simp only [List.take_succ_cons, List.take_zero, List.drop_succ_cons, List.drop_zero]
  repeat still_step
  try refine wpStill_nil ?_
  change wpList _ _ _ _ _ w4.drew
  go_wp2_with (at_delete; refine wpList_delete_run rfl (.tmp 65) (.tmp 67) 60 3 rfl _ _ _ rfl rfl (H5.out _) ?_)
  refine wp_region_still_tail 9 (by kernel_rfl) (by kernel_rfl) ?_
  simp only [List.take_succ_cons, List.take_zero, List.drop_succ_cons, List.drop_zero]
  repeat still_step
  try refine wpStill_nil ?_
  change wpList _ _ _ _ _ w5.drew
  go_wp2
  rw [H6.out]
  refine wp_region_still_tail 12 (by kernel_rfl) (by kernel_rfl) ?_
  simp only [List.take_succ_cons, List.take_zero, List.drop_succ_cons, List.drop_zero]
  repeat still_step
  try refine wpStill_nil ?_
  change wpList _ _ _ _ _ w6.drew
  go_wp2
  rw [H7.out]
  first | exact bodyPost_ret (results_none rfl _ _ _) rfl ⟨rfl, rfl⟩ | exact bodyPost_end (results_none rfl _ _ _) rfl ⟨rfl, rfl⟩
end Go.Proofs.YtekjmgdockfaiaaDoor
