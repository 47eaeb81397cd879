
/- Same of spans, Pending, Of. -/
import Derived.Test.YtekjmgdockfaiaaDoorHsK
import Derived.Test.YtekjmgdockfaiaaDoorInts
namespace Go.Proofs.YtekjmgdockfaiaaDoor
open Go.RowKit
set_option linter.unusedVariables false      -- a contract need not use every name

theorem wpList_append_run {P : Program} {w : World} {ops : Array Oper} {rest : List Oper} {o : Oper} {a : Act} {Q : Exit → Act → World → Prop}
    (hg : o.guard = none) (s x : Operand) (t : TypeId) (hop : o.op = Op.call { callee := Callee.builtin Builtin.append, args := #[s, x], argTypes := #[t, t] })
    (v u v' : Value) (w' : World) (hs : a.eval s = v) (hx : a.eval x = u) (hr : (Builtin.append_ #[t, t] o.type #[v, u]).run P w = .ok v' w') (h : wpList P ops Q rest (a.put o.dst v') w') : wpList P ops Q (o :: rest) a w := by
  refine wpList_plain hg fun K hK' => ?_
  unfold Oper.wp execOp
  simp only [hop, resolve, invoke, builtin, Sem.run_bind, Sem.run_pure, Result.andThen_ok, List.map_toArray, List.map_cons, List.map_nil, hs, hx, hr]
  exact hK' _ _ h
/-! ### Pending -/
set_option maxRecDepth 100000 in
set_option maxHeartbeats 1000000 in
theorem pending_rows (v : Value) (S : List Sp) (w : World) (hm : S.length ≤ 900)
    (HP : Hid (Calls Tryd.prog 19 #[v] w fun e w' => ∃ v', e = .returned v' ∧ Nw w w' ∧ SpAt w' v' S)) :
    Calls Tryd.prog 9 #[v] w fun e w' => ∃ v', e = .returned v' ∧ Nw w w' ∧ IS w' v' (S.map Sp.call) := by
  go_enter Tryd.func9, Tryd.ntmps9
  go_wp2_with (go_at_call 19; refine HP.out.mono ?_; rintro e w1 ⟨v1, rfl, g1, ⟨a, c, rfl, hr⟩⟩)
  have H1 := Lib.hid hr
  clear hr
  go_loopw [3, 9] (fun u i wr => ∃ k : Nat, k ≤ S.length ∧ i = .int .i64 k ∧ IS wr u ((S.take k).map Sp.call) ∧ (∀ g, u.ownBlock = some g → w1.heap.size ≤ g) ∧ Nw w1 wr) (fun _ i _ => S.length - (intOf i).toNat)
  case atStart => exact ⟨0, Nat.zero_le _, rfl, IS.nil _, fun g hg => by simp [Value.ownBlock] at hg, Nw.refl _⟩
  case round =>
    obtain ⟨k, hk, rfl, hI, hO, hN⟩ := hrel
    by_cases hlt : k < S.length
    · obtain ⟨b, o, ha, hc⟩ : ∃ b o, a = some ⟨b, o, none⟩ ∧ SCells w1 b o S := by
        rcases H1.out with q | q
        · rw [q] at hlt; simp at hlt
        · exact q
      subst ha
      have hce := (hc.nw hN).2 k hlt
      obtain ⟨s, hs⟩ : ∃ s, S[k] = s := ⟨_, rfl⟩
      rw [hs] at hce
      have c0 := hce 0 _ rfl
      have c1 := hce 1 _ rfl
      have c2 := hce 2 _ rfl
      have c3 := hce 3 _ rfl
      have c4 := hce 4 _ rfl
      have c5 := hce 5 _ rfl
      have c6 := hce 6 _ rfl
      have c7 := hce 7 _ rfl
      have c8 := hce 8 _ rfl
      have c9 := hce 9 _ rfl
      simp only [Nat.add_zero] at c0
      have hbl := (hc.nw hN).1
      have hlen : (S.take k).map Sp.call = (S.take k).map Sp.call := rfl
      obtain ⟨v', w2, hrun, hI2, hT2, hb2, g, cap, hv'⟩ := IS.push (wr.alloc (.cells #[.int .i64 s.call, .int .i64 s.thread, .int .i64 s.fr, .int .i64 s.to, .int .i64 s.act.kind, .int .i64 s.act.txn, .int .i64 s.act.tab, .int .i64 s.act.rcd, .int .i64 s.act.mode, .int .i64 s.act.code] 45)) u3 _ s.call (hI.nw ((Nw.refl wr).alloc _)) (by simp; omega)
      rw [show (wr.alloc (.cells #[.int .i64 s.call, .int .i64 s.thread, .int .i64 s.fr, .int .i64 s.to, .int .i64 s.act.kind, .int .i64 s.act.txn, .int .i64 s.act.tab, .int .i64 s.act.rcd, .int .i64 s.act.mode, .int .i64 s.act.code] 45)).heap.size = wr.heap.size + 1 by simp] at hrun
      have HR := Lib.hid hrun
      have hN2 : Nw w1 w2 := nw_tch (hN.alloc _) hT2 (fun i hi => hO i hi)
      have HX : Hid (IS w2 v' ((S.take (k + 1)).map Sp.call) ∧ (∀ g, v'.ownBlock = some g → w1.heap.size ≤ g) ∧ Nw w1 w2) := by
        refine Lib.hid ⟨?_, fun g hg => ?_, hN2⟩
        · rw [List.take_add_one, List.getElem?_eq_getElem hlt, hs, List.map_append]; exact hI2
        · rcases hb2 g hg with q | q
          · exact hO g q
          · have := hN.sz; simp at q; omega
      rw [show ((S.take k).map Sp.call).length = k by simp; omega] at hv'
      subst hv'
      obtain ⟨ua, uc, hu3, _⟩ := hI.box
      subst hu3
      clear hce hc hI hO hN hrun hI2 hT2 hb2 hN2 hs hlen
      go_wp2_with (at_builtin; refine wpList_append_run rfl (.tmp 13) (.tmp 16) 39 rfl _ _ _ _ rfl rfl HR.out ?_)
      go_roundw
      case rel => exact ⟨k + 1, by omega, by go_num, HX.out.1, HX.out.2.1, HX.out.2.2⟩
      case measure => simp [intOf]; omega
    · have hke : k = S.length := by omega
      subst hke
      rw [List.take_length] at hI
      have HX := Lib.hid (And.intro hI hN)
      clear hI hN hO
      go_wp2
      go_ret
      exact ⟨_, rfl, g1.trans HX.out.2, HX.out.1⟩
theorem pending_any (v : Value) (l : List Ev) (w : World) (hl : l.length ≤ 800) (hfit : ∀ e ∈ l, fitE e) (h : EvAt w v l) (hs : (trk l 0 []).1.length ≤ 900) :
    Calls Tryd.prog 9 #[v] w fun e w' => ∃ v', e = .returned v' ∧ Nw w w' ∧ IS w' v' ((pendL (trk l 0 []).1).map Sp.call) :=
  pending_rows v _ w (Nat.le_trans (List.length_filter_le _ _) hs) (Lib.hid (pendingSpans_any v l w hl hfit h (by omega)))
end Go.Proofs.YtekjmgdockfaiaaDoor
