
/- Held, Taken. -/
import Derived.Test.YtloendfkfginjaaLtB
import Derived.LoopTactic
namespace Go.Proofs.Ytloendfkfginjaa
open Go.RowKit

theorem wpList_append_run {P : Program} {w : World} {ops : Array Oper} {rest : List Oper} {o : Oper} {a : Act} {Q : Exit → Act → World → Prop}
    (hgd : Region.wanted o (yielded ops a.tmps) = true) (s x : Operand) (t : TypeId) (hop : o.op = Op.call { callee := Callee.builtin Builtin.append, args := #[s, x], argTypes := #[t, t] })
    (v u v' : Value) (w' : World) (hs : a.eval s = v) (hx : a.eval x = u) (hr : (Builtin.append_ #[t, t] o.type #[v, u]).run P w = .ok v' w') (h : wpList P ops Q rest (a.put o.dst v') w') : wpList P ops Q (o :: rest) a w := by
  refine wpList_step fun _ hK => ?_
  rw [if_pos hgd]
  unfold Oper.wp execOp
  simp only [hop, resolve, invoke, builtin, Sem.run_bind, Sem.run_pure, Result.andThen_ok, List.map_toArray, List.map_cons, List.map_nil, hs, hx, hr]
  exact hK _ _ h
theorem held_nil (t : Int) (w : World) : Calls Try.prog 14 #[.pointer none, .int .i64 t] w fun e w' => e = .returned (.slice none 0 0) ∧ w = w' := by
  go_enter Try.func14, Try.ntmps14
  go_wp2_with (go_at_call 15; refine (len_nil _).mono ?_; rintro e w' ⟨rfl, rfl⟩)
  refine wp_loop_rounds 1 ?_
  repeat (rw [rounds_succ]; go_wp2)
  go_ret
  exact ⟨rfl, rfl⟩
theorem taken_nil (w : World) : Calls Try.prog 16 #[.pointer none] w fun e w' => e = .returned (.int .i64 0) ∧ w = w' := by
  go_enter Try.func16, Try.ntmps16
  go_wp2_with (go_at_call 15; refine (len_nil _).mono ?_; rintro e w' ⟨rfl, rfl⟩)
  refine wp_loop_rounds 1 ?_
  repeat (rw [rounds_succ]; go_wp2)
  go_ret
  exact ⟨rfl, rfl⟩
theorem holdR_in (hs : List Int) (k : Nat) (hk : k < hs.length) : (takB hs k = true ∧ holdR hs k = (ho hs k, true)) ∨ (takB hs k = false ∧ holdR hs k = (0, false)) := by
  unfold takB holdR
  by_cases h : 0 ≤ ho hs k
  · left
    refine ⟨by simpa using h, ?_⟩
    rw [if_pos ⟨by omega, by omega, by simpa using h⟩]
    simp
  · right
    refine ⟨by simpa using h, ?_⟩
    rw [if_neg (fun e => h (by simpa using e.2.2))]
theorem taken_at (l g : Nat) (F : Nat → Prop) (hs : List Int) (w : World) (h : La w l g F hs) : Calls Try.prog 16 #[.pointer (some ⟨l, 0, none⟩)] w fun e w' => e = .returned (.int .i64 (takL hs)) ∧ w = w' := by
  have HL := Lib.hid (len_at l g F hs w h)
  have HH := Lib.hid (fun k => holder_at l g F hs k w h)
  have hl := h.vl.l1
  have HI := Lib.hid (holdR_in hs)
  have HT := Lib.hid (takT_succ hs)
  have HE := Lib.hid (takT_le hs)
  have HZ := Lib.hid (show takT hs 0 = 0 from rfl)
  unfold takL
  clear h
  generalize hs.length = N at *
  generalize takT hs = T at *
  go_enter Try.func16, Try.ntmps16
  go_wp2_with (go_at_call 15; refine HL.out.mono ?_; rintro e w' ⟨rfl, rfl⟩)
  go_loopw [3, 9] (fun n i wr => ∃ k : Nat, k ≤ N ∧ i = .int .i64 k ∧ n = .int .i64 (T k) ∧ w = wr) (fun _ i _ => N - (intOf i).toNat)
  case atStart => exact ⟨0, Nat.zero_le _, rfl, by rw [HZ.out]; rfl, rfl⟩
  case round =>
    obtain ⟨k, hk, rfl, rfl, rfl⟩ := hrel
    by_cases hlt : k < N
    · have hb := HE.out k
      have hs1 := HT.out k
      rcases HI.out k hlt with ⟨e1, e2⟩ | ⟨e1, e2⟩
      · have HR := Lib.hid (HH.out (k : Int))
        rw [e2] at HR
        rw [e1] at hs1
        simp only [if_true] at hs1
        clear e1 e2
        go_wp2_with (go_at_call 12; refine HR.out.mono ?_; rintro e w' ⟨rfl, rfl⟩)
        go_roundw
        case rel => exact ⟨k + 1, by omega, by go_num, by rw [hs1]; go_num, trivial⟩
        case measure => simp [intOf]; omega
      · have HR := Lib.hid (HH.out (k : Int))
        rw [e2] at HR
        rw [e1] at hs1
        simp only [Bool.false_eq_true, if_false] at hs1
        clear e1 e2
        go_wp2_with (go_at_call 12; refine HR.out.mono ?_; rintro e w' ⟨rfl, rfl⟩)
        go_roundw
        case rel => exact ⟨k + 1, by omega, by go_num, by rw [hs1], trivial⟩
        case measure => simp [intOf]; omega
    · obtain rfl : k = N := by omega
      go_wp2
      go_ret
      exact ⟨rfl, rfl⟩
/-- A call that returns a new list of numbers, or nil. -/
def NewIS (w : World) (zs : List Int) (e : Ending) (w' : World) : Prop := ∃ v, e = .returned v ∧ IS w' v zs ∧ (∀ k, v.ownBlock = some k → w.heap.size ≤ k) ∧ Nw w w'
theorem held_at (l g : Nat) (F : Nat → Prop) (hs : List Int) (t : Int) (w : World) (h : La w l g F hs) : Calls Try.prog 14 #[.pointer (some ⟨l, 0, none⟩), .int .i64 t] w (NewIS w (heldL hs t)) := by
  have HL := Lib.hid (len_at l g F hs w h)
  have HH := Lib.hid (fun w' (k : Nw w w') i => holder_at l g F hs i w' (h.nw k))
  have hl := h.vl.l1
  have HI := Lib.hid (holdR_in hs)
  have HT := Lib.hid (heldT_succ hs t)
  have HE := Lib.hid (heldT_len hs t)
  have HZ := Lib.hid (show heldT hs t 0 = [] from rfl)
  have HB := Lib.hid (show ∀ k, heldB hs t k = decide (0 ≤ ho hs k ∧ ho hs k = t) from fun _ => rfl)
  have HB2 := Lib.hid (show ∀ k, takB hs k = decide (0 ≤ ho hs k) from fun _ => rfl)
  unfold NewIS heldL
  clear h
  generalize hs.length = N at *
  generalize heldT hs t = T at *
  go_enter Try.func14, Try.ntmps14
  go_wp2_with (go_at_call 15; refine HL.out.mono ?_; rintro e w' ⟨rfl, rfl⟩)
  go_loopw [5, 11] (fun v i wr => ∃ k : Nat, k ≤ N ∧ i = .int .i64 k ∧ Hid (IS wr v (T k)) ∧ (∀ k, v.ownBlock = some k → w.heap.size ≤ k) ∧ Nw w wr) (fun _ i _ => N - (intOf i).toNat)
  case atStart => exact ⟨0, Nat.zero_le _, rfl, Lib.hid (by rw [HZ.out]; exact IS.nil _), fun k e => by simp [Value.ownBlock] at e, Nw.refl _⟩
  case round =>
    obtain ⟨k, hk, rfl, hI, hv, hG⟩ := hrel
    by_cases hlt : k < N
    · have hb := HE.out k
      have hs1 := HT.out k
      have HR := Lib.hid (HH.out _ hG (k : Int))
      have hB := HB.out k
      have hB2 := HB2.out k
      rcases HI.out k hlt with ⟨e1, e2⟩ | ⟨e1, e2⟩
      · rw [e2] at HR
        rw [e1] at hB2
        have p0 : 0 ≤ ho hs k := by simpa using hB2.symm
        generalize ho hs k = x at *
        by_cases e : x = t
        · rw [decide_eq_true ⟨p0, e⟩] at hB
          rw [hB] at hs1
          simp only [if_true] at hs1
          subst e
          clear e1 e2 hB hB2 p0
          obtain ⟨ao, cap, rfl, _⟩ := hI.out.box
          obtain ⟨v', w1, hrun, q1, q2, q3, g', cap', rfl⟩ := IS.push wr _ (T k) k hI.out (by omega)
          have HP := Lib.hid (And.intro q1 (And.intro q2 q3))
          have HR2 := Lib.hid hrun
          clear q1 q2 q3 hrun
          go_wp2_with (first | (go_at_call 12; refine HR.out.mono ?_; rintro e w' ⟨rfl, rfl⟩) | (at_builtin; refine wpList_append_run (by rfl) (.tmp 26) (.tmp 28) 33 rfl _ _ _ _ rfl rfl HR2.out ?_))
          go_roundw
          case rel =>
            refine ⟨k + 1, by omega, by go_num, Lib.hid (by rw [hs1]; exact HP.out.1), fun k e => (HP.out.2.2 k e).elim (hv k) (fun q => Nat.le_trans hG.sz q), nw_tch hG HP.out.2.1 (fun i e => hv i e)⟩
          case measure => simp [intOf]; omega
        · rw [decide_eq_false (fun q => e q.2)] at hB
          rw [hB] at hs1
          simp only [Bool.false_eq_true, if_false] at hs1
          have e3 : (x == t) = false := by simpa using e
          clear e1 e2 hB hB2 p0
          obtain ⟨ao, cap, rfl, _⟩ := hI.out.box
          go_wp2_with (go_at_call 12; refine HR.out.mono ?_; rintro e w' ⟨rfl, rfl⟩)
          go_roundw
          case rel => exact ⟨k + 1, by omega, by go_num, by rw [hs1]; exact hI, hv, hG⟩
          case measure => simp [intOf]; omega
      · rw [e2] at HR
        rw [e1] at hB2
        have p0 : ¬ 0 ≤ ho hs k := by simpa using hB2.symm
        rw [decide_eq_false (fun q => p0 q.1)] at hB
        rw [hB] at hs1
        simp only [Bool.false_eq_true, if_false] at hs1
        clear e1 e2 hB hB2 p0
        obtain ⟨ao, cap, rfl, _⟩ := hI.out.box
        go_wp2_with (go_at_call 12; refine HR.out.mono ?_; rintro e w' ⟨rfl, rfl⟩)
        go_roundw
        case rel => exact ⟨k + 1, by omega, by go_num, by rw [hs1]; exact hI, hv, hG⟩
        case measure => simp [intOf]; omega
    · obtain rfl : k = N := by omega
      obtain ⟨ao, cap, rfl, _⟩ := hI.out.box
      go_wp2
      go_ret
      exact ⟨_, rfl, hI.out, hv, hG⟩
end Go.Proofs.Ytloendfkfginjaa
