
/- Arguments: a request, a slice of requests, a head; the kit's LightHeads. -/
import Derived.Test.YtmciiobncfchlaaQvT
import Derived.WalkKit
import Derived.ProofKit
import Derived.OpenShut
import Derived.ShutString
import Derived.ChangeOld
import Derived.Below
import Derived.Deep.Slices
import Derived.Deep.Fields
import Derived.ChangeSame
import Derived.Lib.SmallJoins
namespace Go.Proofs.Ytmciiobncfchlaa
open Go.ChangeShapes Go.WideShapes Go.ChangeAt Go.RowKit Go.Deep
set_option linter.unusedVariables false

theorem list_of {α : Type} {n : Nat} {Q : Nat → α → Prop} (h : ∀ i, i < n → ∃ x, Q i x) : ∃ l : List α, l.length = n ∧ ∀ i (hi : i < l.length), Q i l[i] := by
  induction n with
  | zero => exact ⟨[], rfl, fun i hi => by simp at hi⟩
  | succ n ih =>
    obtain ⟨l, hl, hq⟩ := ih fun i hi => h i (by omega)
    obtain ⟨x, hx⟩ := h n (by omega)
    refine ⟨l ++ [x], by simp [hl], fun i hi => ?_⟩
    rw [List.length_append, List.length_singleton] at hi
    by_cases q : i < l.length
    · rw [List.getElem_append_left q]; exact hq i q
    · have : i = n := by omega
      subst this
      rw [List.getElem_append_right (by omega)]
      simpa using hx
theorem len4 {cs : List Value} (h : cs.length = 4) : ∃ v0 v1 v2 v3, cs = [v0, v1, v2, v3] := by
  match cs, h with
  | [v0, v1, v2, v3], _ => exact ⟨v0, v1, v2, v3, rfl⟩
theorem len5 {cs : List Value} (h : cs.length = 5) : ∃ v0 v1 v2 v3 v4, cs = [v0, v1, v2, v3, v4] := by
  match cs, h with
  | [v0, v1, v2, v3, v4], _ => exact ⟨v0, v1, v2, v3, v4, rfl⟩
theorem cellsI : Try.prog.cellsOf 3 = 1 := by kernel_rfl
theorem cellsMode : Try.prog.cellsOf 32 = 1 := by kernel_rfl
theorem cellsNm : Try.prog.cellsOf 24 = 2 := by kernel_rfl
theorem cellsRq : Try.prog.cellsOf 41 = 5 := by kernel_rfl
theorem cellsSl : Try.prog.cellsOf 25 = 1 := by kernel_rfl
theorem cellsHd : Try.prog.cellsOf 27 = 4 := by kernel_rfl
section
variable {H : Type} {enc : TypeId × Value → H} {w : World} {base : Nat} {spare : Nat → Bool} {held : Bool}
theorem some_of {α : Type} {xs : List α} {i : Nat} (h : i < xs.length) : ∃ y, xs[i]? = some y := ⟨_, List.getElem?_eq_getElem h⟩
theorem open_rq {fuel : Nat} {cs : List Value} {x : DataW H × List MemPlace} (h : DataW.trod enc Try.prog w base spare held fuel 41 cs = some x) : ∃ R : Rq, cs = rqrow R := by
  obtain ⟨xs, n, _, _, hl, hxl, hf⟩ := DataW.trod_struct Try.underlying41 h
  rw [cellsRq] at hl
  obtain ⟨v0, v1, v2, v3, v4, rfl⟩ := len5 hl
  have f0 : DataW.trod enc Try.prog w base spare held n 3 (([v0, v1, v2, v3, v4].drop 0).take (Try.prog.cellsOf 3)) = xs[0]? := hf 0 _ rfl
  have f1 : DataW.trod enc Try.prog w base spare held n 3 (([v0, v1, v2, v3, v4].drop 1).take (Try.prog.cellsOf 3)) = xs[1]? := hf 1 _ rfl
  have f2 : DataW.trod enc Try.prog w base spare held n 32 (([v0, v1, v2, v3, v4].drop 2).take (Try.prog.cellsOf 32)) = xs[2]? := hf 2 _ rfl
  have f3 : DataW.trod enc Try.prog w base spare held n 32 (([v0, v1, v2, v3, v4].drop 3).take (Try.prog.cellsOf 32)) = xs[3]? := hf 3 _ rfl
  have f4 : DataW.trod enc Try.prog w base spare held n 3 (([v0, v1, v2, v3, v4].drop 4).take (Try.prog.cellsOf 3)) = xs[4]? := hf 4 _ rfl
  simp at hxl
  obtain ⟨y0, e0⟩ := some_of (xs := xs) (i := 0) (by omega)
  obtain ⟨y1, e1⟩ := some_of (xs := xs) (i := 1) (by omega)
  obtain ⟨y2, e2⟩ := some_of (xs := xs) (i := 2) (by omega)
  obtain ⟨y3, e3⟩ := some_of (xs := xs) (i := 3) (by omega)
  obtain ⟨y4, e4⟩ := some_of (xs := xs) (i := 4) (by omega)
  rw [e0] at f0
  rw [e1] at f1
  rw [e2] at f2
  rw [e3] at f3
  rw [e4] at f4
  simp only [cellsI, cellsMode, List.drop_succ_cons, List.drop_zero, List.take_succ_cons, List.take_zero] at f0 f1 f2 f3 f4
  obtain ⟨a0, q0, _, _⟩ := DataW.trod_int Try.underlying3 f0
  obtain ⟨a1, q1, _, _⟩ := DataW.trod_int Try.underlying3 f1
  obtain ⟨a2, q2, _, _⟩ := DataW.trod_int Try.underlying32 f2
  obtain ⟨a3, q3, _, _⟩ := DataW.trod_int Try.underlying32 f3
  obtain ⟨a4, q4, _, _⟩ := DataW.trod_int Try.underlying3 f4
  obtain rfl := (List.cons.inj q0).1
  obtain rfl := (List.cons.inj q1).1
  obtain rfl := (List.cons.inj q2).1
  obtain rfl := (List.cons.inj q3).1
  obtain rfl := (List.cons.inj q4).1
  exact ⟨⟨a0, a1, a2, a3, a4⟩, rfl⟩
theorem open_rqs {fuel : Nat} {v : Value} {x : DataW H × List MemPlace} (h : DataW.trod enc Try.prog w base spare held fuel 25 [v] = some x) : ∃ l, RqAt w v l ∧ capOk v := by
  rcases open_slice Try.underlying25 h with ⟨hcs, _⟩ | ⟨a, len, cap, m, n, D, Pl, hcs, _, hl, hm, hmm, _, hi⟩
  · simp only [List.cons.injEq, and_true] at hcs
    subst hcs
    exact ⟨[], Rd.nil w, Nat.le_refl _⟩
  · simp only [List.cons.injEq, and_true] at hcs
    subst hcs
    have hlm : len ≤ m := by rw [hmm]; split <;> omega
    have each : ∀ i, i < len → ∃ R : Rq, ∀ j u, (rqrow R)[j]? = some u → w.cell? (a.add (i * 5 + j)) = some u := by
      intro i hil
      obtain ⟨cs', hc, ht⟩ := hi i (by omega)
      rw [cellsRq] at hc
      obtain ⟨R, rfl⟩ := open_rq ht
      obtain ⟨_, hcl, hat⟩ := World.cells?_some hc
      have key : ∀ j, j < 5 → w.cell? (a.add (i * 5 + j)) = (rqrow R)[j]? := fun j hj => by rw [← Go.Deep.add_add]; exact hat j hj
      refine ⟨R, fun j u hj => ?_⟩
      have hj6 : j < 5 := by have := (List.getElem?_eq_some_iff.1 hj).1; simpa [rqrow] using this
      rw [key j hj6]; exact hj
    obtain ⟨l, hll, hq⟩ := list_of each
    refine ⟨l, ?_, hl⟩
    subst hll
    rcases Nat.eq_zero_or_pos l.length with h0 | h0
    · obtain rfl := List.length_eq_zero_iff.1 h0
      exact ⟨some a, cap, rfl, .inl ⟨rfl, fun e => by cases e⟩⟩
    · have hu := hq 0 h0 0 _ rfl
      obtain ⟨b, o, spot⟩ := a
      have hs : spot = none := by simpa [Addr.add] using World.cell?_spot hu
      subst hs
      refine ⟨some ⟨b, o, none⟩, cap, rfl, .inr ⟨b, o, rfl, ⟨?_, fun i hi c u hu => ?_⟩⟩⟩
      · rw [Addr.add_lit] at hu
        exact World.block_lt_of_cell? _ _ hu
      · have := hq i hi c u hu
        rw [Addr.add_lit, ← Nat.add_assoc] at this
        exact this
set_option maxRecDepth 100000 in
/-- A head that is handed in. -/
theorem open_head {v : Value} {d : DataW H} {p : List MemPlace} {r : Reach} {b0 : Nat} (hv : Value.okWide Try.prog w r b0 27 v) (h : DataW.Trod enc Try.prog w base spare held 27 v d p) :
    ∃ (t r W : Int) (vq : Value) (q : List Rq), v = hdV t r vq W ∧ RqAt w vq q ∧ capOk vq := by
  obtain ⟨cs, rfl, hsz⟩ := okWide_struct Try.underlying27 hv
  rw [cellsHd] at hsz
  obtain ⟨fuel, hf⟩ := h
  obtain ⟨xs, n, _, _, hl, hxl, hf⟩ := DataW.trod_struct Try.underlying27 hf
  obtain ⟨l⟩ := cs
  simp only [Value.cells] at hl hf
  obtain ⟨v0, v1, v2, v3, rfl⟩ := len4 hsz
  have f0 : DataW.trod enc Try.prog w base spare held n 24 (([v0, v1, v2, v3].drop 0).take (Try.prog.cellsOf 24)) = xs[0]? := hf 0 _ rfl
  have f1 : DataW.trod enc Try.prog w base spare held n 25 (([v0, v1, v2, v3].drop 2).take (Try.prog.cellsOf 25)) = xs[1]? := hf 1 _ rfl
  have f2 : DataW.trod enc Try.prog w base spare held n 3 (([v0, v1, v2, v3].drop 3).take (Try.prog.cellsOf 3)) = xs[2]? := hf 2 _ rfl
  simp at hxl
  obtain ⟨y0, e0⟩ := some_of (xs := xs) (i := 0) (by omega)
  obtain ⟨y1, e1⟩ := some_of (xs := xs) (i := 1) (by omega)
  obtain ⟨y2, e2⟩ := some_of (xs := xs) (i := 2) (by omega)
  rw [e0] at f0
  rw [e1] at f1
  rw [e2] at f2
  simp only [cellsI, cellsNm, cellsSl, List.drop_succ_cons, List.drop_zero, List.take_succ_cons, List.take_zero] at f0 f1 f2
  obtain ⟨q, hq, hc⟩ := open_rqs f1
  obtain ⟨a3, q3, _, _⟩ := DataW.trod_int Try.underlying3 f2
  obtain ⟨xs', n', _, _, hl', hxl', hf'⟩ := DataW.trod_struct Try.underlying24 f0
  have g0 : DataW.trod enc Try.prog w base spare held n' 3 (([v0, v1].drop 0).take (Try.prog.cellsOf 3)) = xs'[0]? := hf' 0 _ rfl
  have g1 : DataW.trod enc Try.prog w base spare held n' 3 (([v0, v1].drop 1).take (Try.prog.cellsOf 3)) = xs'[1]? := hf' 1 _ rfl
  simp at hxl'
  obtain ⟨z0, r0⟩ := some_of (xs := xs') (i := 0) (by omega)
  obtain ⟨z1, r1⟩ := some_of (xs := xs') (i := 1) (by omega)
  rw [r0] at g0
  rw [r1] at g1
  simp only [cellsI, List.drop_succ_cons, List.drop_zero, List.take_succ_cons, List.take_zero] at g0 g1
  obtain ⟨a0, q0, _, _⟩ := DataW.trod_int Try.underlying3 g0
  obtain ⟨a1, q1, _, _⟩ := DataW.trod_int Try.underlying3 g1
  obtain rfl := (List.cons.inj q0).1
  obtain rfl := (List.cons.inj q1).1
  obtain rfl := (List.cons.inj q3).1
  exact ⟨a0, a1, a3, v2, q, rfl, hq, hc⟩
end
set_option maxRecDepth 100000 in
set_option maxHeartbeats 1000000 in
/-- LightHeads of one head. -/
theorem kLight1 (b : Nat) (t r W : Int) (a : Option Addr) (n c : Nat) (w : World) (h : w.heap[b]? = some (.cells #[.int .i64 t, .int .i64 r, .slice a n c, .int .i64 W] 27)) :
    Calls Try.prog 24 #[.slice (some ⟨b, 0, none⟩) 1 1, .int .i64 1] w fun e w' => e = .returned (.bool (decide (n ≤ 12))) ∧ Nw w w' := by
  have c2 := hcell (j := 2) h
  have hl := hlt h
  clear h
  by_cases hn : n ≤ 12
  · have d1 : decide (12 < (n : Int)) = false := by rw [decide_eq_false_iff_not]; omega
    rw [show decide (n ≤ 12) = true by simpa using hn]
    clear hn
    go_enter Try.func24, Try.ntmps24
    go_wp2
    refine wp_loop_rounds 2 ?_
    repeat (rw [rounds_succ]; go_wp2)
    go_ret
    exact ⟨rfl, Nw.refl _⟩
  · have d1 : decide (12 < (n : Int)) = true := by rw [decide_eq_true_iff]; omega
    rw [show decide (n ≤ 12) = false by simpa using hn]
    clear hn
    go_enter Try.func24, Try.ntmps24
    go_wp2
    refine wp_loop_rounds 2 ?_
    repeat (rw [rounds_succ]; go_wp2)
    go_ret
    exact ⟨rfl, Nw.refl _⟩
end Go.Proofs.Ytmciiobncfchlaa
