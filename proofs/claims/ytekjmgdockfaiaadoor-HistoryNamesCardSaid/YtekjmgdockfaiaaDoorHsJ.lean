
/- Check, Spans; IndexFunc, DeleteFunc: pendingSpans. -/
import Derived.Test.YtekjmgdockfaiaaDoorHsI
import Derived.Lib.SliceRun
import Derived.Deep.Upon
namespace Go.Proofs.YtekjmgdockfaiaaDoor
open Go.RowKit
set_option linter.unusedVariables false      -- a contract need not use every name

theorem track_none (a : Option Addr) (c : Nat) (w : World) :
    Calls Tryd.prog 18 #[.slice a 0 c] w fun e w' => ∃ v, e = .returned (.tuple #[v, .int .i64 0, .int .i64 0]) ∧ Nw w w' ∧ SRow w' w.heap.size v [] := by
  have hmm := @run_makeMap Tryd.prog
  go_enter Tryd.func18, Tryd.ntmps18
  go_wp2
  refine wp_loop_rounds 1 ?_
  repeat (rw [rounds_succ]; go_wp2)
  exact bodyPost_ret (v := .tuple #[nilV, .int .i64 0, .int .i64 0]) (by simp [results, Tryd.results18, go_sem, *]) rfl ⟨_, rfl, (((Nw.refl w).alloc _).alloc _).alloc _, World.ownsRow_nil _ _ _ _⟩
/-- track(l): spans, the first wrong event, its error. -/
theorem track_any (v : Value) (l : List Ev) (w : World) (hl : l.length ≤ 800) (hfit : ∀ e ∈ l, fitE e) (h : EvAt w v l) :
    Calls Tryd.prog 18 #[v] w fun e w' => ∃ v', e = .returned (.tuple #[v', .int .i64 (trk l 0 []).2.1, .int .i64 (trk l 0 []).2.2]) ∧ Nw w w' ∧ SRow w' w.heap.size v' (trk l 0 []).1 := by
  obtain ⟨a, c, rfl, rfl | ⟨b, o, rfl, hc⟩⟩ := h
  · exact track_none a c w
  · exact track_rows b o c l w hl hfit hc
theorem check_any (v : Value) (l : List Ev) (w : World) (hl : l.length ≤ 800) (hfit : ∀ e ∈ l, fitE e) (h : EvAt w v l) :
    Calls Tryd.prog 6 #[v] w fun e w' => e = .returned (.tuple #[.int .i64 (trk l 0 []).2.1, .int .i64 (trk l 0 []).2.2]) ∧ Nw w w' := by
  have HT := Lib.hid (track_any v l w hl hfit h)
  clear h hfit
  go_enter Tryd.func6, Tryd.ntmps6
  go_wp2_with (go_at_call 18; refine HT.out.mono ?_; rintro e w1 ⟨v', rfl, hg, hr⟩)
  exact bodyPost_ret (v := .tuple #[.int .i64 (trk l 0 []).2.1, .int .i64 (trk l 0 []).2.2]) (by simp [results, Tryd.results6, go_sem, *]) rfl ⟨rfl, hg⟩
theorem spans_any (v : Value) (l : List Ev) (w : World) (hl : l.length ≤ 800) (hfit : ∀ e ∈ l, fitE e) (h : EvAt w v l) :
    Calls Tryd.prog 7 #[v] w fun e w' => ∃ v', e = .returned v' ∧ Nw w w' ∧ SRow w' w.heap.size v' (trk l 0 []).1 := by
  have HT := Lib.hid (track_any v l w hl hfit h)
  clear h hfit
  go_enter Tryd.func7, Tryd.ntmps7
  go_wp2_with (go_at_call 18; refine HT.out.mono ?_; rintro e w1 ⟨v', rfl, hg, hr⟩)
  go_ret
  exact ⟨_, rfl, hg, hr⟩

def endB (s : Sp) : Bool := decide (0 ≤ s.to)
abbrev pendL (l : List Sp) : List Sp := l.filter fun s => !endB s
/-- The place of the first span that has ended. -/
def firstEnd (l : List Sp) (r : Int) : Prop := (r = -1 ∧ ∀ s ∈ l, endB s = false) ∨ ∃ j : Nat, r = j ∧ ∃ h : j < l.length, endB l[j] = true ∧ ∀ i (hi : i < l.length), i < j → endB l[i] = false
set_option maxRecDepth 100000 in
set_option maxHeartbeats 2000000 in
theorem index_any (v : Value) (l : List Sp) (w : World) (hl : l.length ≤ 1000) (h : SpAt w v l) :
    Calls Tryd.prog 37 #[v, .func (.func 20) #[] #[]] w fun e w' => ∃ r, e = .returned (.int .i64 r) ∧ firstEnd l r ∧ Nw w w' := by
  obtain ⟨a, c, rfl, rfl | ⟨b, o, rfl, hc⟩⟩ := h
  · go_enter Tryd.func37, Tryd.ntmps37
    go_wp2
    refine wp_loop_rounds 1 ?_
    repeat (rw [rounds_succ]; go_wp2)
    go_ret
    exact ⟨_, rfl, .inl ⟨rfl, by simp⟩, Nw.refl _⟩
  · have H := Lib.hid hc
    clear hc
    go_enter Tryd.func37, Tryd.ntmps37
    go_wp2
    go_loopw [8] (fun i wr => ∃ k : Nat, k ≤ l.length ∧ i = .int .i64 k ∧ (∀ i (hi : i < l.length), i < k → endB l[i] = false) ∧ Nw w wr) (fun i _ => l.length - (intOf i).toNat)
    case atStart => exact ⟨0, Nat.zero_le _, rfl, fun _ _ h => by omega, Nw.refl _⟩
    case round =>
      obtain ⟨k, hk, rfl, hF, hN⟩ := hrel
      by_cases hlt : k < l.length
      · have hce := (H.out.nw hN).2 k hlt
        obtain ⟨s, hs⟩ : ∃ s, l[k] = s := ⟨_, rfl⟩
        rw [hs] at hce
        have c0 := hce 0 _ rfl
        have c1 := hce 1 _ rfl
        have c2 := hce 2 _ rfl
        have c3 := hce 3 _ rfl
        have c4 := hce 4 _ rfl
        have c5 := hce 5 _ rfl
        have c6 := hce 6 _ rfl
        have c7 := hce 7 _ rfl
        have c8 := hce 8 _ rfl
        have c9 := hce 9 _ rfl
        simp only [Nat.add_zero] at c0
        clear hce
        have HE := Lib.hid (ended_any s)
        have HS := Lib.hid hs
        have HF := Lib.hid hF
        have HN := Lib.hid hN
        clear hs hF hN
        obtain ⟨B, hB⟩ : ∃ B, decide (0 ≤ s.to) = B := ⟨_, rfl⟩
        rw [hB] at HE
        have HB := Lib.hid hB
        clear hB
        cases B
        case true =>
          go_wp2_with (go_at_call 20; refine (HE.out _).mono ?_; rintro e w1 ⟨rfl, g1⟩)
          go_ret
          exact ⟨_, rfl, .inr ⟨k, rfl, hlt, by rw [HS.out]; exact HB.out, HF.out⟩, HN.out.trans g1⟩
        case false =>
          go_wp2_with (go_at_call 20; refine (HE.out _).mono ?_; rintro e w1 ⟨rfl, g1⟩)
          go_roundw
          case rel =>
            refine ⟨k + 1, by omega, by go_num, fun i hi hik => ?_, HN.out.trans g1⟩
            by_cases q : i < k
            · exact HF.out i hi q
            · have : i = k := by omega
              subst this
              rw [HS.out]; exact HB.out
          case measure => simp [intOf]; omega
      · have HF := Lib.hid hF
        have HN := Lib.hid hN
        clear hF hN
        go_wp2
        go_ret
        refine ⟨_, rfl, .inl ⟨rfl, fun s hs => ?_⟩, HN.out⟩
        obtain ⟨i, hi, rfl⟩ := List.getElem_of_mem hs
        exact HF.out i hi (by omega)

theorem wpList_clear_run {P : Program} {w : World} {ops : Array Oper} {rest : List Oper} {o : Oper} {a : Act} {Q : Exit → Act → World → Prop}
    (hg : o.guard = none) (s : Operand) (t : TypeId) (hop : o.op = Op.call { callee := Callee.builtin Builtin.clear, args := #[s], argTypes := #[t] }) (v : Value) (w' : World) (hs : a.eval s = v)
    (hr : (Builtin.clear_ #[t] o.type #[v]).run P w = .ok (.tuple #[]) w') (h : wpList P ops Q rest (a.put o.dst (.tuple #[])) w') : wpList P ops Q (o :: rest) a w := by
  refine wpList_plain hg fun K' hK' => ?_
  unfold Oper.wp execOp
  simp only [hop, resolve, invoke, builtin, Sem.run_bind, Sem.run_pure, Result.andThen_ok, List.map_toArray, List.map_cons, List.map_nil, hs, hr]
  exact hK' _ _ h
abbrev zS : Value := .agg #[.int .i64 0, .int .i64 0, .int .i64 0, .int .i64 0, .int .i64 0, .int .i64 0, .int .i64 0, .int .i64 0, .int .i64 0, .int .i64 0]
theorem zeroS (w : World) : (zeroValue 45).run Tryd.prog w = .ok zS w := by kernel_rfl
theorem clear_spans (w : World) (g o n c : Nat) (hn : 0 < n) (hc : ∀ j, j < n * 10 → (w.cell? ⟨g, o + j, none⟩).isSome = true) (hf : ∀ j, w.frozen? ⟨g, j, none⟩ = false) :
    ∃ vs, ∀ ty, (Builtin.clear_ #[36] ty #[.slice (some ⟨g, o, none⟩) n c]).run Tryd.prog w = .ok (.tuple #[]) (w.setCells g o vs) := by
  obtain ⟨m, rfl⟩ : ∃ m, n = m + 1 := ⟨n - 1, by omega⟩
  refine ⟨(Builtin.zeroCells zS.cells (m + 1)).toList, fun ty => ?_⟩
  have hlen : (Builtin.zeroCells zS.cells (m + 1)).toList.length = (m + 1) * 10 := by simp [Builtin.zeroCells, Value.cells]
  have hst := run_storeCells_cells (P := Tryd.prog) g o (Builtin.zeroCells zS.cells (m + 1)).toList 0 w (by rw [hlen]; simpa using hc) (by intro j _; exact hf _) (by
    intro v hv
    obtain ⟨i, hi, rfl⟩ := List.getElem_of_mem hv
    simp only [Builtin.zeroCells, Array.toList_map, List.getElem_map]
    have h10 : ∀ i : Nat, i < 10 → (zS.cells[i]!).oneCell' = true := by decide
    exact h10 _ (Nat.mod_lt _ (by decide)))
  simp only [Nat.add_zero] at hst
  simp [Builtin.clear_, run_underlying Tryd.underlying36, zeroS, hst]
end Go.Proofs.YtekjmgdockfaiaaDoor
