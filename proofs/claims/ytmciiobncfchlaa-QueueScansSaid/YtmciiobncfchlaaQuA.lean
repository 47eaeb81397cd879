
/- Requests and heads in memory; of the document's own: Holds, Waits, right. -/
import Derived.Test.YtmciiobncfchlaaQuH
import Derived.Test.YtmciiobncfchlaaR1B
namespace Go.Proofs.Ytmciiobncfchlaa
open Go.RowKit
set_option linter.unusedVariables false      -- a contract need not use every name

def rqrow (r : Rq) : List Value := [.int .i64 r.id, .int .i64 r.txn, .int .i64 r.md, .int .i64 r.wt, .int .i64 r.sn]
def rqV (r : Rq) : Value := .agg #[.int .i64 r.id, .int .i64 r.txn, .int .i64 r.md, .int .i64 r.wt, .int .i64 r.sn]
def hdV (t r : Int) (v : Value) (W : Int) : Value := .agg #[.int .i64 t, .int .i64 r, v, .int .i64 W]
theorem elemRq : Elem Try.prog 25 41 5 40 rqrow where
  und := Try.underlying25
  inf := by
    have h : (Try.prog.info? 41).map (fun i => (i.zero, i.size, i.bytes)) = some (some (.agg #[.int .i64 0, .int .i64 0, .int .i64 0, .int .i64 0, .int .i64 0]), 5, 40) := by kernel_rfl
    cases e : Try.prog.info? 41 with
    | none => rw [e] at h; cases h
    | some i =>
      rw [e] at h
      simp only [Option.map_some, Option.some.injEq, Prod.mk.injEq] at h
      exact ⟨i, _, rfl, h.1, h.2.1, h.2.2, rfl⟩
  pos := by decide
  byt := by decide
  len := fun _ => rfl
  one := fun a u hu => by
    simp only [rqrow, List.mem_cons, List.not_mem_nil, or_false] at hu
    rcases hu with rfl | rfl | rfl | rfl | rfl <;> rfl
abbrev RqC := RdC 5 rqrow
abbrev RqAt := Rd 5 rqrow
abbrev RqOwn (w : World) (g0 : Nat) (v : Value) (q : List Rq) : Prop := Own 41 5 rqrow w g0 v q
theorem RqOwn.rd {w : World} {g0 : Nat} {v : Value} {q : List Rq} (h : RqOwn w g0 v q) : RqAt w v q := Own.rd (fun _ => rfl) h
/-- A head in a box. -/
structure HBox (w : World) (p : Nat) (t r : Int) (v : Value) (W : Int) : Prop where
  lt : p < w.heap.size
  c0 : w.cell? ⟨p, 0, none⟩ = some (.int .i64 t)
  c1 : w.cell? ⟨p, 1, none⟩ = some (.int .i64 r)
  c2 : w.cell? ⟨p, 2, none⟩ = some v
  c3 : w.cell? ⟨p, 3, none⟩ = some (.int .i64 W)
theorem HBox.nw {w w' : World} {p : Nat} {t r : Int} {v : Value} {W : Int} (h : HBox w p t r v W) (g : Nw w w') : HBox w' p t r v W :=
  ⟨Nat.lt_of_lt_of_le h.lt g.sz, (g.cell h.lt).trans h.c0, (g.cell h.lt).trans h.c1, (g.cell h.lt).trans h.c2, (g.cell h.lt).trans h.c3⟩
theorem HBox.made (w : World) (t r : Int) (v : Value) (W : Int) (T : TypeId) : HBox (w.alloc (.cells #[.int .i64 t, .int .i64 r, v, .int .i64 W] T)) w.heap.size t r v W := by
  have h := allocAt w (.cells #[.int .i64 t, .int .i64 r, v, .int .i64 W] T)
  exact ⟨hlt h, hcell h, hcell h, hcell h, hcell h⟩

theorem r9holds (a b m wn s : Int) (w : World) : Calls Try.prog 59 #[.agg #[.int .i64 a, .int .i64 b, .int .i64 m, .int .i64 wn, .int .i64 s]] w fun e w' => e = .returned (.bool (m != 0)) ∧ Nw w w' := by
  go_enter Try.func59, Try.ntmps59
  go_wp2
  go_ret
  exact ⟨rfl, (Nw.refl _).alloc _⟩
theorem r9waits (a b m wn s : Int) (w : World) : Calls Try.prog 58 #[.agg #[.int .i64 a, .int .i64 b, .int .i64 m, .int .i64 wn, .int .i64 s]] w fun e w' => e = .returned (.bool (decide (0 < s))) ∧ Nw w w' := by
  go_enter Try.func58, Try.ntmps58
  go_wp2
  go_ret
  exact ⟨rfl, (Nw.refl _).alloc _⟩
end Go.Proofs.Ytmciiobncfchlaa
