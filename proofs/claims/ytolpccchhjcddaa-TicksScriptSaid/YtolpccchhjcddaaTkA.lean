
/- Timers in memory; the comparisons; Less, Swap. -/
import Derived.Test.YtolpccchhjcddaaTkM
import Derived.Test.YtolpccchhjcddaaNw
import Derived.LoopTactic
import Derived.WalkSpells
import Derived.Laws.OwnMore
import Derived.WalkSmall
namespace Go.Proofs.Ytolpccchhjcddaa
open Go.RowKit

def trow (a : Tm) : List Value := [.int .i64 a.1, .int .i64 a.2.1, .int .i64 a.2.2]
def trows (l : List Tm) : List Value := l.flatMap trow
theorem trows_nil : trows [] = [] := rfl
theorem trows_cons (a : Tm) (l : List Tm) : trows (a :: l) = .int .i64 a.1 :: .int .i64 a.2.1 :: .int .i64 a.2.2 :: trows l := rfl
theorem trows_app (l m : List Tm) : trows (l ++ m) = trows l ++ trows m := by simp [trows]
theorem trows_len : ∀ l : List Tm, (trows l).length = l.length * 3
  | [] => rfl
  | a :: l => by rw [trows_cons]; simp [trows_len l]; omega
theorem trows_at : ∀ (l : List Tm) (i : Nat) (_ : i < l.length),
    (trows l)[i * 3]? = some (.int .i64 (at' l i).1) ∧ (trows l)[i * 3 + 1]? = some (.int .i64 (at' l i).2.1) ∧ (trows l)[i * 3 + 2]? = some (.int .i64 (at' l i).2.2)
  | [], i, h => by simp at h
  | a :: l, 0, _ => by simp [trows_cons, at']
  | a :: l, i + 1, h => by
    have ih := trows_at l i (by simpa using h)
    have e : at' (a :: l) (i + 1) = at' l i := by simp [at']
    rw [e, trows_cons, show (i + 1) * 3 = i * 3 + 3 by omega, show i * 3 + 3 + 1 = i * 3 + 1 + 3 by omega, show i * 3 + 3 + 2 = i * 3 + 2 + 3 by omega]
    simpa using ih
theorem trows_set : ∀ (l : List Tm) (i : Nat) (a : Tm) (_ : i < l.length), (((trows l).set (i * 3) (.int .i64 a.1)).set (i * 3 + 1) (.int .i64 a.2.1)).set (i * 3 + 2) (.int .i64 a.2.2) = trows (l.set i a)
  | [], i, a, h => by simp at h
  | b :: l, 0, a, _ => by simp [trows_cons]
  | b :: l, i + 1, a, h => by
    have ih := trows_set l i a (by simpa using h)
    rw [trows_cons, show (i + 1) * 3 = i * 3 + 3 by omega, show i * 3 + 3 + 1 = i * 3 + 1 + 3 by omega, show i * 3 + 3 + 2 = i * 3 + 2 + 3 by omega]
    simp only [List.set_cons_succ, trows_cons, ih]

/-- The block g holds the timers, with room for cap. -/
def TRow (w : World) (g cap : Nat) (l : List Tm) : Prop := w.ownsRow 0 28 3 (.slice (some ⟨g, 0, none⟩) l.length cap) l.length (trows l)
theorem TRow.cells {w : World} {g cap : Nat} {l : List Tm} (h : TRow w g cap l) (i : Nat) (hi : i < l.length) :
    w.cell? ⟨g, i * 3, none⟩ = some (.int .i64 (at' l i).1) ∧ w.cell? ⟨g, i * 3 + 1, none⟩ = some (.int .i64 (at' l i).2.1) ∧ w.cell? ⟨g, i * 3 + 2, none⟩ = some (.int .i64 (at' l i).2.2) := by
  obtain ⟨a, b, c⟩ := trows_at l i hi
  exact ⟨(World.ownsRow.cellAt h _ (by omega)).trans a, (World.ownsRow.cellAt h _ (by omega)).trans b, (World.ownsRow.cellAt h _ (by omega)).trans c⟩
theorem TRow.frozen {w : World} {g cap : Nat} {l : List Tm} (h : TRow w g cap l) (j : Nat) : w.frozen? ⟨g, j, none⟩ = false := World.ownsRow.frozenAt h j
theorem TRow.lt {w : World} {g cap : Nat} {l : List Tm} (h : TRow w g cap l) : g < w.heap.size := (World.ownsRow.lt h g rfl).2
theorem TRow.cap_le {w : World} {g cap : Nat} {l : List Tm} (h : TRow w g cap l) : l.length ≤ cap ∧ cap ≤ maxLen := by
  rcases h.2 with ⟨h', _⟩ | ⟨g', cap', cur, h', _, _, h1, h2, _⟩
  · simp at h'
  · simp only [Value.slice.injEq] at h'
    obtain ⟨_, _, rfl⟩ := h'
    exact ⟨h1, h2⟩
theorem TRow.kept {w w' : World} {g cap : Nat} {l : List Tm} (h : TRow w g cap l) (e : w'.heap[g]? = w.heap[g]?) : TRow w' g cap l := by
  refine ⟨h.1, ?_⟩
  rcases h.2 with ⟨h', _⟩ | ⟨g', cap', cur, h', hb, hg, rest⟩
  · simp at h'
  · have h2 := h'
    simp only [Value.slice.injEq, Option.some.injEq, Addr.mk.injEq, and_true, true_and] at h2
    obtain ⟨rfl, rfl⟩ := h2
    exact .inr ⟨g, cap, cur, h', hb, e.trans hg, rest⟩
theorem TRow.set {w : World} {g cap : Nat} {l : List Tm} (h : TRow w g cap l) (i : Nat) (hi : i < l.length) (a : Tm) :
    TRow (((w.setCell ⟨g, i * 3, none⟩ (.int .i64 a.1)).setCell ⟨g, i * 3 + 1, none⟩ (.int .i64 a.2.1)).setCell ⟨g, i * 3 + 2, none⟩ (.int .i64 a.2.2)) g cap (l.set i a) := by
  have h1 := (World.ownsRow.stored h (i * 3) (.int .i64 a.1)).1
  have h2 := (World.ownsRow.stored h1 (i * 3 + 1) (.int .i64 a.2.1)).1
  have h3 := (World.ownsRow.stored h2 (i * 3 + 2) (.int .i64 a.2.2)).1
  rw [trows_set l i a hi] at h3
  unfold TRow
  rw [List.length_set]
  exact h3

/-! ### What changes: blocks of a set alone, and new ones -/
structure Tch (S : Nat → Prop) (w w' : World) : Prop where
  os : w'.os = w.os
  tape : w'.tape = w.tape
  output : w'.output = w.output
  size : w.heap.size ≤ w'.heap.size
  block : ∀ k, k < w.heap.size → ¬ S k → w'.heap[k]? = w.heap[k]?
theorem Tch.refl (S : Nat → Prop) (w : World) : Tch S w w := ⟨rfl, rfl, rfl, Nat.le_refl _, fun _ _ _ => rfl⟩
theorem Tch.trans' {S S' : Nat → Prop} {a b c : World} (h : Tch S a b) (k : Tch S' b c) (hS : ∀ i, i < a.heap.size → S' i → S i) : Tch S a c :=
  ⟨k.os.trans h.os, k.tape.trans h.tape, k.output.trans h.output, Nat.le_trans h.size k.size, fun i hi hn => (k.block i (Nat.lt_of_lt_of_le hi h.size) (fun e => hn (hS i hi e))).trans (h.block i hi hn)⟩
theorem Tch.trans {S : Nat → Prop} {a b c : World} (h : Tch S a b) (k : Tch S b c) : Tch S a c := h.trans' k fun _ _ e => e
theorem Tch.mono {S S' : Nat → Prop} {a b : World} (h : Tch S a b) (hS : ∀ i, i < a.heap.size → S i → S' i) : Tch S' a b :=
  ⟨h.os, h.tape, h.output, h.size, fun i hi hn => h.block i hi (fun e => hn (hS i hi e))⟩
theorem Tch.nw {S : Nat → Prop} {a b : World} (h : Nw a b) : Tch S a b := ⟨h.os, h.tape, h.output, h.size, fun k hk _ => h.block k hk⟩
theorem Tch.toNw {a b : World} (h : Tch (fun _ => False) a b) : Nw a b := ⟨h.os, h.tape, h.output, h.size, fun k hk => h.block k hk (fun e => e)⟩
theorem Tch.alloc {S : Nat → Prop} {a b : World} (h : Tch S a b) (o : Obj) : Tch S a (b.alloc o) := h.trans (.nw ((Nw.refl b).alloc o))
theorem Tch.set {S : Nat → Prop} {a b : World} (h : Tch S a b) {p : Addr} (hp : S p.block ∨ a.heap.size ≤ p.block) (v : Value) : Tch S a (b.setCell p v) :=
  h.trans' (S' := fun k => k = p.block) ⟨rfl, rfl, rfl, by simp [World.setCell], fun k _ hk => Below.heap_setCell _ _ _ _ hk⟩ (fun i hi e => by subst e; exact hp.resolve_right (by omega))
theorem Tch.drewN {S : Nat → Prop} {a b : World} (h : Tch S a b) (n : Nat) : Tch S a (b.drewN n) := ⟨h.os, h.tape, h.output, h.size, h.block⟩
theorem Tch.drew {S : Nat → Prop} {a b : World} (h : Tch S a b) : Tch S a b.drew := ⟨h.os, h.tape, h.output, h.size, h.block⟩
theorem TRow.drew {w : World} {g cap : Nat} {l : List Tm} (h : TRow w g cap l) : TRow w.drew g cap l := h.kept rfl
theorem TRow.drewN {w : World} {g cap : Nat} {l : List Tm} (h : TRow w g cap l) (n : Nat) : TRow (w.drewN n) g cap l := h.kept rfl
theorem Tch.grown {S : Nat → Prop} {a b c : World} {row : Option Nat} (h : Tch S a b) (hg : b.grownBy c row) (hr : ∀ k, row = some k → S k ∨ a.heap.size ≤ k) : Tch S a c :=
  h.trans' (S' := fun k => row = some k) ⟨hg.os, hg.tape, hg.output, hg.size, fun k hk hn => hg.block k hk (fun e => hn e.symm)⟩ (fun i hi e => (hr i e).resolve_right (by omega))
theorem Tch.cell {S : Nat → Prop} {a b : World} (h : Tch S a b) {k o : Nat} (hk : k < a.heap.size) (hn : ¬ S k) : b.cell? ⟨k, o, none⟩ = a.cell? ⟨k, o, none⟩ := World.cell?_of_block (h.block k hk hn)
theorem Tch.froz {S : Nat → Prop} {a b : World} (h : Tch S a b) {k o : Nat} (hk : k < a.heap.size) (hn : ¬ S k) : b.frozen? ⟨k, o, none⟩ = a.frozen? ⟨k, o, none⟩ := World.frozen?_of_block (h.block k hk hn)
theorem TRow.tch {S : Nat → Prop} {w w' : World} {g cap : Nat} {l : List Tm} (h : TRow w g cap l) (k : Tch S w w') (hn : ¬ S g) : TRow w' g cap l := h.kept (k.block g h.lt hn)

/-! ### Comparisons -/
theorem isNaN64 (a : Int) (w : World) : Calls Try.prog 66 #[.int .i64 a] w fun e w' => e = .returned (.bool false) ∧ w = w' := by
  go_enter Try.func66, Try.ntmps66
  go_wp2
  go_ret
  exact ⟨rfl, rfl⟩
theorem isNaNi (a : Int) (w : World) : Calls Try.prog 67 #[.int .i64 a] w fun e w' => e = .returned (.bool false) ∧ w = w' := by
  go_enter Try.func67, Try.ntmps67
  go_wp2
  go_ret
  exact ⟨rfl, rfl⟩
def cmpI (a b : Int) : Int := if a < b then -1 else if b < a then 1 else 0
theorem cmp64 (a b : Int) (w : World) : Calls Try.prog 64 #[.int .i64 a, .int .i64 b] w fun e w' => e = .returned (.int .i64 (cmpI a b)) ∧ w = w' := by
  by_cases h1 : a < b
  · have e : cmpI a b = -1 := if_pos h1
    rw [e]; clear e
    go_enter Try.func64, Try.ntmps64
    go_wp2_with (go_at_call 66; refine (isNaN64 _ _).mono ?_; rintro e w' ⟨rfl, rfl⟩)
    go_ret
    exact ⟨rfl, rfl⟩
  · by_cases h2 : b < a
    · have e : cmpI a b = 1 := (if_neg h1).trans (if_pos h2)
      rw [e]; clear e
      go_enter Try.func64, Try.ntmps64
      go_wp2_with (go_at_call 66; refine (isNaN64 _ _).mono ?_; rintro e w' ⟨rfl, rfl⟩)
      go_ret
      exact ⟨rfl, rfl⟩
    · have e : cmpI a b = 0 := (if_neg h1).trans (if_neg h2)
      rw [e]; clear e
      go_enter Try.func64, Try.ntmps64
      go_wp2_with (go_at_call 66; refine (isNaN64 _ _).mono ?_; rintro e w' ⟨rfl, rfl⟩)
      go_ret
      exact ⟨rfl, rfl⟩
theorem cmpi (a b : Int) (w : World) : Calls Try.prog 65 #[.int .i64 a, .int .i64 b] w fun e w' => e = .returned (.int .i64 (cmpI a b)) ∧ w = w' := by
  by_cases h1 : a < b
  · have e : cmpI a b = -1 := if_pos h1
    rw [e]; clear e
    go_enter Try.func65, Try.ntmps65
    go_wp2_with (go_at_call 67; refine (isNaNi _ _).mono ?_; rintro e w' ⟨rfl, rfl⟩)
    go_ret
    exact ⟨rfl, rfl⟩
  · by_cases h2 : b < a
    · have e : cmpI a b = 1 := (if_neg h1).trans (if_pos h2)
      rw [e]; clear e
      go_enter Try.func65, Try.ntmps65
      go_wp2_with (go_at_call 67; refine (isNaNi _ _).mono ?_; rintro e w' ⟨rfl, rfl⟩)
      go_ret
      exact ⟨rfl, rfl⟩
    · have e : cmpI a b = 0 := (if_neg h1).trans (if_neg h2)
      rw [e]; clear e
      go_enter Try.func65, Try.ntmps65
      go_wp2_with (go_at_call 67; refine (isNaNi _ _).mono ?_; rintro e w' ⟨rfl, rfl⟩)
      go_ret
      exact ⟨rfl, rfl⟩
def orI (x y z : Int) : Int := if x ≠ 0 then x else if y ≠ 0 then y else z
theorem or_any (b : Nat) (x y z : Int) (w : World) (h0 : w.cell? ⟨b, 0, none⟩ = some (.int .i64 x)) (h1 : w.cell? ⟨b, 1, none⟩ = some (.int .i64 y)) (h2 : w.cell? ⟨b, 2, none⟩ = some (.int .i64 z)) :
    Calls Try.prog 63 #[.slice (some ⟨b, 0, none⟩) 3 3] w fun e w' => e = .returned (.int .i64 (orI x y z)) ∧ w = w' := by
  rcases Decidable.em (x = 0) with rfl | hx
  · rcases Decidable.em (y = 0) with rfl | hy
    · rcases Decidable.em (z = 0) with rfl | hz
      all_goals
        go_enter Try.func63, Try.ntmps63
        go_wp2
        refine wp_loop_rounds 4 ?_
        repeat (rw [rounds_succ]; go_wp2)
        go_ret
        exact ⟨rfl, rfl⟩
    · have e : orI 0 y z = y := by simp [orI, hy]
      rw [e]; clear e
      go_enter Try.func63, Try.ntmps63
      go_wp2
      refine wp_loop_rounds 4 ?_
      repeat (rw [rounds_succ]; go_wp2)
      go_ret
      exact ⟨rfl, rfl⟩
  · have e : orI x y z = x := by simp [orI, hx]
    rw [e]; clear e
    go_enter Try.func63, Try.ntmps63
    go_wp2
    refine wp_loop_rounds 4 ?_
    repeat (rw [rounds_succ]; go_wp2)
    go_ret
    exact ⟨rfl, rfl⟩
theorem cmp_lt (a b : Tm) : decide (orI (cmpI a.1 b.1) (cmpI a.2.1 b.2.1) (cmpI a.2.2 b.2.2) < 0) = tlt a b := by
  unfold orI cmpI tlt
  rw [decide_eq_decide]
  repeat' split
  all_goals omega
end Go.Proofs.Ytolpccchhjcddaa
