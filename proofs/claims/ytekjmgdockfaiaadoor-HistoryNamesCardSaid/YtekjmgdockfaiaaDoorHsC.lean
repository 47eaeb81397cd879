
/- Spans in a row of the call's own; a tracker in memory; what is wrong with an event, in memory. -/
import Derived.Test.YtekjmgdockfaiaaDoorHsB
import Derived.LoopTactic
import Derived.StillTailTactics
import Derived.Deep.RegionLaw
import Derived.BigQuiet
import Derived.Deep.QuietTactic
namespace Go.Proofs.YtekjmgdockfaiaaDoor
open Go.RowKit
set_option linter.unusedVariables false      -- a contract need not use every name

abbrev nilV : Value := .slice none 0 0
def srows (l : List Sp) : List Value := l.flatMap srow
abbrev SRow (w : World) (g0 : Nat) (v : Value) (l : List Sp) : Prop := w.ownsRow g0 45 10 v l.length (srows l)

section
variable {w w' : World} {g0 e e' size size' n n' : Nat} {v v' : Value} {xs xs' : List Value}
theorem own_keep {row : Option Nat} (ho : w.ownsRow g0 e size v n xs) (hg : w.grownBy w' row) (hne : ∀ g, v.ownBlock = some g → row ≠ some g) : w'.ownsRow g0 e size v n xs := by
  cases hv : v.ownBlock with
  | none => exact ho.kept hg (.inl hv)
  | some g => exact ho.kept hg (.inr fun q => hne g hv (q ▸ hv))
theorem own_heap (ho : w.ownsRow g0 e size v n xs) {g : Nat} (hv : v.ownBlock = some g) : ∃ c, w.heap[g]? = some (.cells c e (0, 0)) := by
  rcases ho.2 with ⟨rfl, _⟩ | ⟨g', cap, cur, rfl, _, hh, _⟩
  · simp [Value.ownBlock] at hv
  · simp only [Value.ownBlock, Option.some.injEq] at hv
    subst hv
    exact ⟨cur, hh⟩
theorem own_lt (ho : w.ownsRow g0 e size v n xs) {g : Nat} (hv : v.ownBlock = some g) : g < w.heap.size := (World.ownsRow.lt ho g hv).2
theorem own_ge (ho : w.ownsRow g0 e size v n xs) {g : Nat} (hv : v.ownBlock = some g) : g0 ≤ g := (World.ownsRow.lt ho g hv).1
theorem own_obj (ho : w.ownsRow g0 e size v n xs) {g : Nat} (hv : v.ownBlock = some g) {B : Nat} {o : Obj} (hb : w.heap[B]? = some o) (hT : ∀ c, o ≠ .cells c e (0, 0)) : g ≠ B := by
  rintro rfl
  obtain ⟨c', hc⟩ := own_heap ho hv
  rw [hb] at hc
  exact hT c' (Option.some.inj hc)
theorem own_form (h : w.ownsRow g0 e size v n xs) : (v = .slice none 0 0 ∧ n = 0) ∨ ∃ g cap, v = .slice (some ⟨g, 0, none⟩) n cap := by
  rcases h.2 with q | ⟨g, cap, cur, rfl, _⟩
  · exact .inl q
  · exact .inr ⟨g, cap, rfl⟩
theorem set_grown (w : World) (p : Addr) (u : Value) : w.grownBy (w.setCell p u) (some p.block) :=
  ⟨rfl, rfl, rfl, by simp [World.setCell], fun k _ hk => Below.heap_setCell _ _ _ _ (fun q => hk (by rw [q]))⟩
theorem set_heap {w : World} {B j : Nat} {c : Array Value} {T : TypeId} {fr : Nat × Nat} (u : Value) (hb : w.heap[B]? = some (.cells c T fr)) : (w.setCell ⟨B, j, none⟩ u).heap[B]? = some (.cells (c.setIfInBounds j u) T fr) := by
  simp [World.setCell, Array.getElem?_modify, hb]
theorem heap_cell {w : World} {B j : Nat} {c : Array Value} {T : TypeId} {fr : Nat × Nat} (hb : w.heap[B]? = some (.cells c T fr)) : w.cell? ⟨B, j, none⟩ = c[j]? := by simp [World.cell?, hb]
theorem heap_fz {w : World} {B j : Nat} {c : Array Value} {T : TypeId} (hb : w.heap[B]? = some (.cells c T (0, 0))) : w.frozen? ⟨B, j, none⟩ = false := by simp [World.frozen?, hb]
theorem heap_lt {w : World} {B : Nat} {o : Obj} (hb : w.heap[B]? = some o) : B < w.heap.size := (Array.getElem?_eq_some_iff.1 hb).1
end

theorem srow_len (s : Sp) : (srow s).length = 10 := rfl
theorem srows_len : ∀ l : List Sp, (srows l).length = l.length * 10
  | [] => rfl
  | s :: r => by
    show (srow s ++ srows r).length = _
    rw [List.length_append, srows_len r, srow_len, List.length_cons]; omega
theorem srows_at : ∀ (l : List Sp) (j c : Nat) (hj : j < l.length), c < 10 → (srows l)[j * 10 + c]? = (srow l[j])[c]?
  | s :: r, 0, c, _, hc => by
    show (srow s ++ srows r)[0 * 10 + c]? = _
    rw [List.getElem?_append_left (by rw [srow_len]; omega)]
    simp
  | s :: r, j + 1, c, hj, hc => by
    show (srow s ++ srows r)[(j + 1) * 10 + c]? = _
    have hj' : j < r.length := by simpa using hj
    rw [List.getElem?_append_right (by rw [srow_len]; omega), srow_len, show (j + 1) * 10 + c - 10 = j * 10 + c by omega, srows_at r j c hj' hc]
    rfl
theorem srows_app (a b : List Sp) : srows (a ++ b) = srows a ++ srows b := by simp [srows]
theorem srows_fin (i : Nat) (e : Ev) : ∀ (l : List Sp) (j : Nat) (hj : j < l.length), srows (l.set j (fin i e l[j])) = ((srows l).set (j * 10 + 3) (.int .i64 i)).set (j * 10 + 9) (.int .i64 e.act.code)
  | s :: r, 0, _ => by
    show srow (fin i e s) ++ srows r = ((srow s ++ srows r).set 3 _).set 9 _
    rfl
  | s :: r, j + 1, hj => by
    have hj' : j < r.length := by simpa using hj
    show srow s ++ srows (r.set j (fin i e r[j])) = ((srow s ++ srows r).set ((j + 1) * 10 + 3) _).set ((j + 1) * 10 + 9) _
    rw [srows_fin i e r j hj', List.set_append_right _ _ (by rw [srow_len]; omega), List.set_append_right _ _ (by rw [srow_len]; omega), srow_len,
      show (j + 1) * 10 + 3 - 10 = j * 10 + 3 by omega, show (j + 1) * 10 + 9 - 10 = j * 10 + 9 by omega]

theorem Nw.keep' {a b : World} (g : Nw a b) {k o : Nat} {v : Value} (h : a.cell? ⟨k, o, none⟩ = some v) : b.cell? ⟨k, o, none⟩ = some v :=
  (g.cell (World.block_lt_of_cell? _ _ h)).trans h
theorem Nw.drew1 {a b : World} (h : Nw a b) : Nw a b.drew := h.drewN 1
theorem infoS : (Tryd.prog.info? 45).map (fun i => (i.zero, i.size, i.bytes)) = some (some (.agg #[.int .i64 0, .int .i64 0, .int .i64 0, .int .i64 0, .int .i64 0, .int .i64 0, .int .i64 0, .int .i64 0, .int .i64 0, .int .i64 0]), 10, 80) := by kernel_rfl
theorem infoE : (Tryd.prog.info? 31).map (fun i => (i.zero, i.size, i.bytes)) = some (some (.agg #[.int .i64 0, .int .i64 0, .bool false, .int .i64 0, .int .i64 0, .int .i64 0, .int .i64 0, .int .i64 0, .int .i64 0]), 9, 72) := by kernel_rfl

/-- A tracker in block p: spans, calls, busy threads. -/
structure Trk (w : World) (g0 p : Nat) (v : Value) (bc bb : Nat) (l : List Sp) (n : Nat) : Prop where
  base : g0 ≤ p ∧ g0 ≤ bc ∧ g0 ≤ bb
  ne : bc ≠ bb
  box : w.heap[p]? = some (.cells #[v, .map (some bc), .map (some bb)] 62 (0, 0))
  row : SRow w g0 v l
  calls : CallsM w bc l n
  busy : BusyM w bb l n
section
variable {w w' : World} {g0 p bc bb n : Nat} {v : Value} {l : List Sp}
theorem Trk.nw (h : Trk w g0 p v bc bb l n) (g : Nw w w') : Trk w' g0 p v bc bb l n :=
  ⟨h.base, h.ne, (g.block p (heap_lt h.box)).trans h.box, own_keep h.row (g.grownBy none) (fun _ _ => by simp), h.calls.nw g, h.busy.nw g⟩
theorem Trk.lt (h : Trk w g0 p v bc bb l n) : p < w.heap.size := heap_lt h.box
theorem Trk.c0 (h : Trk w g0 p v bc bb l n) : w.cell? ⟨p, 0, none⟩ = some v := heap_cell h.box
theorem Trk.c1 (h : Trk w g0 p v bc bb l n) : w.cell? ⟨p, 1, none⟩ = some (.map (some bc)) := heap_cell h.box
theorem Trk.c2 (h : Trk w g0 p v bc bb l n) : w.cell? ⟨p, 2, none⟩ = some (.map (some bb)) := heap_cell h.box
theorem Trk.fz (h : Trk w g0 p v bc bb l n) (j : Nat) : w.frozen? ⟨p, j, none⟩ = false := heap_fz h.box
end

/-- What an event's numbers must be to be keys. -/
def fitE (e : Ev) : Prop := e.call ≤ 9223372036854775807 ∧ e.thread ≤ 9223372036854775807

set_option maxRecDepth 100000 in
set_option maxHeartbeats 2000000 in
theorem wrongBeg_walk (p bc bb : Nat) (c t : Int) (i : Bool) (k x tb rc m co : Int) (a b : Int) (d y z : Bool) (w : World) (hp : p < w.heap.size) (c1 : w.cell? ⟨p, 1, none⟩ = some (.map (some bc))) (c2 : w.cell? ⟨p, 2, none⟩ = some (.map (some bb)))
    (hL : ∀ W, Nw w W → (Instr.lookup 59 (.map (some bc)) (.int .i64 c) true).run Tryd.prog W = .ok (.tuple #[callV a b d, .bool y]) W)
    (hB : ∀ W, Nw w W → (Instr.lookup 60 (.map (some bb)) (.int .i64 t) true).run Tryd.prog W = .ok (.tuple #[.agg #[], .bool z]) W) :
    Calls Tryd.prog 35 #[.pointer (some ⟨p, 0, none⟩), .agg #[.int .i64 c, .int .i64 t, .bool i, .int .i64 k, .int .i64 x, .int .i64 tb, .int .i64 rc, .int .i64 m, .int .i64 co]] w fun e w' => e = .returned (.int .i64 (if y = true then 4 else if z = true then 7 else 0)) ∧ Nw w w' := by
  have hL1 : ∀ o, (Instr.lookup 59 (.map (some bc)) (.int .i64 c) true).run Tryd.prog ((w.alloc o).drew) = .ok (.tuple #[callV a b d, .bool y]) ((w.alloc o).drew) := fun o => hL _ ((Nw.refl w).alloc o).drew1
  have hL2 : ∀ o o', (Instr.lookup 59 (.map (some bc)) (.int .i64 c) true).run Tryd.prog (((w.alloc o).alloc o').drew) = .ok (.tuple #[callV a b d, .bool y]) (((w.alloc o).alloc o').drew) := fun o o' => hL _ (((Nw.refl w).alloc o).alloc o').drew1
  have HB := Lib.hid hB
  clear hL hB
  go_enter Tryd.func35, Tryd.ntmps35
  go_wp2
  go_region
  have HN := Lib.hid (show Nw w ((w.alloc (.cells #[.int .i64 c, .int .i64 t, .bool i, .int .i64 k, .int .i64 x, .int .i64 tb, .int .i64 rc, .int .i64 m, .int .i64 co] 31)).alloc (.cells #[.int .i64 a, .int .i64 b, .bool d] 73)).drew from (((Nw.refl w).alloc _).alloc _).drew1)
  have k2 : ((w.alloc (.cells #[.int .i64 c, .int .i64 t, .bool i, .int .i64 k, .int .i64 x, .int .i64 tb, .int .i64 rc, .int .i64 m, .int .i64 co] 31)).alloc (.cells #[.int .i64 a, .int .i64 b, .bool d] 73)).drew.cell? ⟨p, 2, none⟩ = some (.map (some bb)) := HN.out.keep' c2
  have k1 : ((w.alloc (.cells #[.int .i64 c, .int .i64 t, .bool i, .int .i64 k, .int .i64 x, .int .i64 tb, .int .i64 rc, .int .i64 m, .int .i64 co] 31)).alloc (.cells #[.int .i64 a, .int .i64 b, .bool d] 73)).drew.cell? ⟨w.heap.size, 1, none⟩ = some (.int .i64 t) := by simp [go_sem]
  have hs : p < ((w.alloc (.cells #[.int .i64 c, .int .i64 t, .bool i, .int .i64 k, .int .i64 x, .int .i64 tb, .int .i64 rc, .int .i64 m, .int .i64 co] 31)).alloc (.cells #[.int .i64 a, .int .i64 b, .bool d] 73)).drew.heap.size := Nat.lt_of_lt_of_le hp HN.out.sz
  have hs' : w.heap.size < ((w.alloc (.cells #[.int .i64 c, .int .i64 t, .bool i, .int .i64 k, .int .i64 x, .int .i64 tb, .int .i64 rc, .int .i64 m, .int .i64 co] 31)).alloc (.cells #[.int .i64 a, .int .i64 b, .bool d] 73)).drew.heap.size := by simp; omega
  generalize ((w.alloc (.cells #[.int .i64 c, .int .i64 t, .bool i, .int .i64 k, .int .i64 x, .int .i64 tb, .int .i64 rc, .int .i64 m, .int .i64 co] 31)).alloc (.cells #[.int .i64 a, .int .i64 b, .bool d] 73)).drew = X at *
  cases y
  case true =>
    go_wp2
    go_ret
    exact ⟨rfl, HN.out⟩
  case false =>
    have hB1 := HB.out _ HN.out.drew1
    have hB2 : ∀ o, (Instr.lookup 60 (.map (some bb)) (.int .i64 t) true).run Tryd.prog ((X.alloc o).drew) = .ok (.tuple #[.agg #[], .bool z]) ((X.alloc o).drew) := fun o => HB.out _ (HN.out.alloc o).drew1
    clear HB hL1 hL2 c1 c2
    go_wp2
    go_region
    cases z
    all_goals
      go_wp2
      go_ret
      exact ⟨rfl, (HN.out.alloc _).drew1⟩
end Go.Proofs.YtekjmgdockfaiaaDoor
