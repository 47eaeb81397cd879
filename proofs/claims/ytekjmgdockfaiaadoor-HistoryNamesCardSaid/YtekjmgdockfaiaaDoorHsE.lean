
/- add of a beginning. -/
import Derived.Test.YtekjmgdockfaiaaDoorHsD
import Derived.BigRegion
namespace Go.Proofs.YtekjmgdockfaiaaDoor
open Go.RowKit
set_option linter.unusedVariables false      -- a contract need not use every name

theorem wpList_mapUpdate_run {P : Program} {w : World} {ops : Array Oper} {rest : List Oper} {o : Oper} {a : Act} {Q : Exit → Act → World → Prop}
    (hg : o.guard = none) (m x u : Operand) (t : TypeId) (hop : o.op = Op.mapUpdate t m x u) (M K V : Value) (w' : World) (hm : a.eval m = M) (hx : a.eval x = K) (hu : a.eval u = V)
    (hr : (Instr.mapUpdate t M K V).run P w = .ok () w') (h : wpList P ops Q rest (a.put o.dst undef) w') : wpList P ops Q (o :: rest) a w := by
  refine wpList_plain hg fun K' hK' => ?_
  unfold Oper.wp
  simp [execOp, hop, hm, hx, hu, hr, Result.andThen]
  exact hK' _ _ h
theorem step_append {P : Program} {ops : Array Oper} {o : Oper} {a : Act} {w : World} {K : Act → World → Prop} {Q : Exit → Act → World → Prop} {E : Prop} (hgd : o.guard = none) (s x : Operand) (t : TypeId)
    (ho : o.op = .call { callee := .builtin .append, args := #[s, x], argTypes := #[t, t] }) (v u v' : Value) (w' : World) (hs : a.eval s = v) (hx : a.eval x = u) (hr : (Builtin.append_ #[t, t] o.type #[v, u]).run P w = .ok v' w')
    (h : K (a.put o.dst v') w') : if Region.wanted o (yielded ops a.tmps) = true then Oper.wp P o a w K Q else E := by
  have hw : Region.wanted o (yielded ops a.tmps) = true := by simp [Region.wanted, hgd]
  rw [if_pos hw]
  unfold Oper.wp execOp
  simp only [ho, resolve, invoke, builtin, Sem.run_bind, Sem.run_pure, Result.andThen_ok, List.map_toArray, List.map_cons, List.map_nil, hs, hx, hr]
  exact h

set_option maxRecDepth 100000 in
set_option maxHeartbeats 4000000 in
theorem addBeg_walk (p bc bb : Nat) (c t ix : Int) (k x tb rc m co : Int) (ao : Option Addr) (N cap : Nat) (v' : Value) (w w1 w2 w3 w4 : World) (H1 : Hid ((w.alloc (.cells #[.int .i64 c, .int .i64 t, .bool true, .int .i64 k, .int .i64 x, .int .i64 tb, .int .i64 rc, .int .i64 m, .int .i64 co] 31)) = w1))
    (hp1 : p < w1.heap.size) (hb1 : w.heap.size < w1.heap.size) (c01 : w1.cell? ⟨p, 0, none⟩ = some (.slice ao N cap)) (c11 : w1.cell? ⟨p, 1, none⟩ = some (.map (some bc))) (c21 : w1.cell? ⟨p, 2, none⟩ = some (.map (some bb))) (b01 : w1.cell? ⟨w.heap.size, 0, none⟩ = some (.int .i64 c)) (b11 : w1.cell? ⟨w.heap.size, 1, none⟩ = some (.int .i64 t)) (b21 : w1.cell? ⟨w.heap.size, 2, none⟩ = some (.bool true)) (b31 : w1.cell? ⟨w.heap.size, 3, none⟩ = some (.int .i64 k)) (b41 : w1.cell? ⟨w.heap.size, 4, none⟩ = some (.int .i64 x)) (b51 : w1.cell? ⟨w.heap.size, 5, none⟩ = some (.int .i64 tb)) (b61 : w1.cell? ⟨w.heap.size, 6, none⟩ = some (.int .i64 rc)) (b71 : w1.cell? ⟨w.heap.size, 7, none⟩ = some (.int .i64 m)) (b81 : w1.cell? ⟨w.heap.size, 8, none⟩ = some (.int .i64 co))
    (H2 : Hid ((Instr.mapUpdate 59 (.map (some bc)) (.int .i64 c) (callV t N false)).run Tryd.prog w1.drew = .ok () w2))
    (hp2 : p < w2.heap.size) (hb2 : w.heap.size < w2.heap.size) (c02 : w2.cell? ⟨p, 0, none⟩ = some (.slice ao N cap)) (c12 : w2.cell? ⟨p, 1, none⟩ = some (.map (some bc))) (c22 : w2.cell? ⟨p, 2, none⟩ = some (.map (some bb))) (b02 : w2.cell? ⟨w.heap.size, 0, none⟩ = some (.int .i64 c)) (b12 : w2.cell? ⟨w.heap.size, 1, none⟩ = some (.int .i64 t)) (b22 : w2.cell? ⟨w.heap.size, 2, none⟩ = some (.bool true)) (b32 : w2.cell? ⟨w.heap.size, 3, none⟩ = some (.int .i64 k)) (b42 : w2.cell? ⟨w.heap.size, 4, none⟩ = some (.int .i64 x)) (b52 : w2.cell? ⟨w.heap.size, 5, none⟩ = some (.int .i64 tb)) (b62 : w2.cell? ⟨w.heap.size, 6, none⟩ = some (.int .i64 rc)) (b72 : w2.cell? ⟨w.heap.size, 7, none⟩ = some (.int .i64 m)) (b82 : w2.cell? ⟨w.heap.size, 8, none⟩ = some (.int .i64 co))
    (H3 : Hid ((Instr.mapUpdate 60 (.map (some bb)) (.int .i64 t) (.agg #[])).run Tryd.prog w2.drew = .ok () w3))
    (hp3 : p < w3.heap.size) (hb3 : w.heap.size < w3.heap.size) (c03 : w3.cell? ⟨p, 0, none⟩ = some (.slice ao N cap)) (c13 : w3.cell? ⟨p, 1, none⟩ = some (.map (some bc))) (c23 : w3.cell? ⟨p, 2, none⟩ = some (.map (some bb))) (b03 : w3.cell? ⟨w.heap.size, 0, none⟩ = some (.int .i64 c)) (b13 : w3.cell? ⟨w.heap.size, 1, none⟩ = some (.int .i64 t)) (b23 : w3.cell? ⟨w.heap.size, 2, none⟩ = some (.bool true)) (b33 : w3.cell? ⟨w.heap.size, 3, none⟩ = some (.int .i64 k)) (b43 : w3.cell? ⟨w.heap.size, 4, none⟩ = some (.int .i64 x)) (b53 : w3.cell? ⟨w.heap.size, 5, none⟩ = some (.int .i64 tb)) (b63 : w3.cell? ⟨w.heap.size, 6, none⟩ = some (.int .i64 rc)) (b73 : w3.cell? ⟨w.heap.size, 7, none⟩ = some (.int .i64 m)) (b83 : w3.cell? ⟨w.heap.size, 8, none⟩ = some (.int .i64 co))
    (H4 : Hid ((Builtin.append_ #[36, 36] 36 #[.slice ao N cap, .slice (some ⟨w3.heap.size, 0, none⟩) 1 1]).run Tryd.prog (w3.alloc (.cells #[.int .i64 c, .int .i64 t, .int .i64 ix, .int .i64 (-1), .int .i64 k, .int .i64 x, .int .i64 tb, .int .i64 rc, .int .i64 m, .int .i64 co] 45)).drew = .ok v' w4))
    (k0 : w4.cell? ⟨p, 0, none⟩ = some (.slice ao N cap)) (f0 : w4.frozen? ⟨p, 0, none⟩ = false) (a4 : Option Addr) (n4 cap4 : Nat) (hv : v' = .slice a4 n4 cap4) :
    Calls Tryd.prog 29 #[.pointer (some ⟨p, 0, none⟩), .int .i64 ix, .agg #[.int .i64 c, .int .i64 t, .bool true, .int .i64 k, .int .i64 x, .int .i64 tb, .int .i64 rc, .int .i64 m, .int .i64 co]] w fun e w' => e = .returned (.tuple #[]) ∧ w' = w4.setCell ⟨p, 0, none⟩ v' := by
  subst hv
  go_enter Tryd.func29, Tryd.ntmps29
  go_wp2
  rw [H1.out]
  refine wp_region_still_tail 14 (by kernel_rfl) (by kernel_rfl) ?_
  simp only [List.take_succ_cons, List.take_zero, List.drop_succ_cons, List.drop_zero]
  repeat still_step
  try refine wpStill_nil ?_
  change wpList _ _ _ _ _ w1.drew
  go_wp2_with (at_mapUpdate; refine wpList_mapUpdate_run rfl (.tmp 12) (.tmp 14) (.tmp 22) 59 rfl _ _ _ _ rfl rfl rfl H2.out ?_)
  refine wp_region_still_tail 7 (by kernel_rfl) (by kernel_rfl) ?_
  simp only [List.take_succ_cons, List.take_zero, List.drop_succ_cons, List.drop_zero]
  repeat still_step
  try refine wpStill_nil ?_
  change wpList _ _ _ _ _ w2.drew
  go_wp2_with (at_mapUpdate; refine wpList_mapUpdate_run rfl (.tmp 26) (.tmp 28) (.tmp 29) 60 rfl _ _ _ _ rfl rfl rfl H3.out ?_)
  go_region_law (refine step_append rfl (.tmp 34) (.tmp 43) 36 rfl _ _ _ _ rfl rfl H4.out ?_)
  all_goals
    go_wp2
    first | exact bodyPost_ret (results_none rfl _ _ _) rfl ⟨rfl, rfl⟩ | exact bodyPost_end (results_none rfl _ _ _) rfl ⟨rfl, rfl⟩
end Go.Proofs.YtekjmgdockfaiaaDoor
