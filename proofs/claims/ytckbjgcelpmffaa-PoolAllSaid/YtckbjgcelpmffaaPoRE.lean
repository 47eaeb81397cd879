
/- The document's own pool: Each, Live. -/
import Derived.Test.YtckbjgcelpmffaaPoR
namespace Go.Proofs.Ytckbjgcelpmffaa
open Go.RowKit
set_option linter.unusedVariables false

theorem pwpList_append_run {P : Program} {w : World} {ops : Array Oper} {rest : List Oper} {o : Oper} {a : Act} {Q : Exit → Act → World → Prop}
    (hgd : Region.wanted o (yielded ops a.tmps) = true) (s x : Operand) (t : TypeId) (hop : o.op = Op.call { callee := Callee.builtin Builtin.append, args := #[s, x], argTypes := #[t, t] })
    (v u v' : Value) (w' : World) (hs : a.eval s = v) (hx : a.eval x = u) (hr : (Builtin.append_ #[t, t] o.type #[v, u]).run P w = .ok v' w') (h : wpList P ops Q rest (a.put o.dst v') w') : wpList P ops Q (o :: rest) a w := by
  refine wpList_step fun _ hK => ?_
  rw [if_pos hgd]
  unfold Oper.wp execOp
  simp only [hop, resolve, invoke, builtin, Sem.run_bind, Sem.run_pure, Result.andThen_ok, List.map_toArray, List.map_cons, List.map_nil, hs, hx, hr]
  exact hK _ _ h
/-- A call that returns a new list of numbers, or nil. -/
def PNewIS (w : World) (zs : List Int) (e : Ending) (w' : World) : Prop := ∃ v, e = .returned v ∧ IS w' v zs ∧ (∀ k, v.ownBlock = some k → w.heap.size ≤ k) ∧ Nw w w'
theorem castL_app (l m : List Nat) : castL (l ++ m) = castL l ++ castL m := List.map_append
theorem lntI_succ (L : List Bool) (k : Nat) : castL (lntT L (k + 1)) = castL (lntT L k) ++ (if L.getD k false = true then [(k : Int)] else []) := by
  rw [lntT_succ, castL_app]
  congr 1
  split <;> rfl
theorem castL_len (l : List Nat) : (castL l).length = l.length := by simp [castL]
set_option maxHeartbeats 1000000 in
theorem reach_at {o g : Nat} {L : List Bool} {W : World} (h : Rp W o g L) : Calls Try.prog 20 #[.pointer (some ⟨o, 0, none⟩)] W (PNewIS W (castL (lnt L))) := by
  have H := Lib.hid h
  have hsz := h.sz
  have hr := h.p0
  clear h
  go_enter Try.func20, Try.ntmps20
  go_wp2
  go_loopw [3, 4] (fun v i wr => ∃ k : Nat, k ≤ L.length ∧ i = .int .i64 k ∧ IS wr v (castL (lntT L k)) ∧ (∀ k, v.ownBlock = some k → W.heap.size ≤ k) ∧ Nw W wr) (fun _ i _ => L.length - (intOf i).toNat)
  case atStart => exact ⟨0, Nat.zero_le _, rfl, IS.nil _, fun k e => by simp [Value.ownBlock] at e, Nw.refl _⟩
  case round =>
    obtain ⟨k, hk, rfl, hv, ho, hG⟩ := hrel
    have hp := (H.out.nw hG).p0
    have hln : (castL (lntT L k)).length ≤ 128 := by rw [castL_len]; have := lntT_len L k; omega
    by_cases hlt : k < L.length
    · obtain ⟨c, _⟩ := (H.out.nw hG).cs k hlt
      have hlti : (k : Int) < (L.length : Int) := by omega
      have hS := lntI_succ L k
      cases hb : L.getD k false with
      | true =>
        rw [hb] at c hS
        simp only [if_true] at hS
        obtain ⟨v', w1, hrun, q1, q2, q3, g', cap', rfl⟩ := IS.push wr _ (castL (lntT L k)) k hv (by omega)
        rw [← hS] at q1
        have HQ := Lib.hid (And.intro q1 (And.intro q2 q3))
        have HR := Lib.hid hrun
        have HH := Lib.hid (And.intro hv (And.intro ho hG))
        clear q1 q2 q3 hrun hS hb hr ho
        obtain ⟨ao, cap, rfl, _⟩ := hv.box
        clear hv
        generalize hNN : (castL (lntT L k)).length = M at *
        go_wp2_with (at_builtin; refine pwpList_append_run (by rfl) (.tmp 21) (.tmp 23) 30 rfl _ _ _ _ rfl rfl HR.out ?_)
        go_roundw
        case rel => exact ⟨k + 1, by omega, by go_num, HQ.out.1, fun j e => (HQ.out.2.2 j e).elim (HH.out.2.1 j) (fun q => Nat.le_trans hG.sz q), nw_tch hG HQ.out.2.1 (fun i e => HH.out.2.1 i e)⟩
        case measure => simp [intOf]; omega
      | false =>
        rw [hb] at c hS
        simp only [Bool.false_eq_true, if_false, List.append_nil] at hS
        rw [← hS] at hv
        have HH := Lib.hid (And.intro hv (And.intro ho hG))
        obtain ⟨ao, cap, rfl, _⟩ := hv.box
        clear hv ho hS hb hr hln
        generalize hNN : (castL (lntT L (k + 1))).length = M at *
        go_wp2
        go_roundw
        case rel => exact ⟨k + 1, by omega, by go_num, HH.out.1, HH.out.2.1, hG⟩
        case measure => simp [intOf]; omega
    · obtain rfl : k = L.length := by omega
      have HH := Lib.hid (And.intro hv (And.intro ho hG))
      obtain ⟨ao, cap, rfl, _⟩ := hv.box
      clear hv ho hr
      have hd : decide ((L.length : Int) < (L.length : Int)) = false := by simp
      go_wp2
      go_ret
      exact ⟨_, rfl, HH.out⟩
theorem rlive_at {o g : Nat} {L : List Bool} {W : World} (h : Rp W o g L) : Calls Try.prog 21 #[.pointer (some ⟨o, 0, none⟩)] W fun e W' => e = .returned (.int .i64 (liv L)) ∧ Nw W W' := by
  have HE := Lib.hid (reach_at h)
  have e1 : (castL (lnt L)).length = liv L := by rw [castL_len, liv_lnt]
  have e2 := liv_le L
  have hsz := h.sz
  clear h
  generalize liv L = M at *
  go_enter Try.func21, Try.ntmps21
  go_wp2_with fail
  refine HE.out.mono ?_
  rintro e w1 ⟨v, rfl, q1, _, q3⟩
  obtain ⟨ao, cap, rfl, _⟩ := q1.box
  rw [e1]
  clear q1 e1
  go_wp2
  go_ret
  exact ⟨rfl, q3⟩
end Go.Proofs.Ytckbjgcelpmffaa
