
/- Contracts of package name, second part: Level at every name, Check, Table, Record, Parent, Ancestors; T, DB, R of the checker's kit. -/
import Derived.Test.YtekjmgdockfaiaaDoorNameA
namespace Go.Proofs.YtekjmgdockfaiaaDoor
open Go.ChangeShapes Go.WideShapes Go.ChangeAt Go.RowKit

def lvl (t r : Int) : Int := if t = -1 ∧ r = -1 then 0 else if 0 ≤ t ∧ t < 100 then (if r = -1 then 1 else if 0 ≤ r ∧ r < 100 then 2 else -1) else -1
theorem lvl_db : lvl (-1) (-1) = 0 := by decide
theorem lvl_tab (t : Int) (h0 : 0 ≤ t) (h1 : t < 100) : lvl t (-1) = 1 := by unfold lvl; split <;> omega
theorem lvl_rec (t r : Int) (h0 : 0 ≤ t) (h1 : t < 100) (h2 : 0 ≤ r) (h3 : r < 100) : lvl t r = 2 := by unfold lvl; repeat' split
                                                                                                        all_goals omega
/-- The four kinds of a name. -/
theorem kinds (t r : Int) : (t = -1 ∧ r = -1) ∨ (0 ≤ t ∧ t < 100 ∧ r = -1) ∨ (0 ≤ t ∧ t < 100 ∧ 0 ≤ r ∧ r < 100) ∨ lvl t r = -1 := by
  by_cases h1 : t = -1 ∧ r = -1
  · exact .inl h1
  · by_cases h2 : 0 ≤ t ∧ t < 100
    · by_cases h3 : r = -1
      · exact .inr (.inl ⟨h2.1, h2.2, h3⟩)
      · by_cases h4 : 0 ≤ r ∧ r < 100
        · exact .inr (.inr (.inl ⟨h2.1, h2.2, h4⟩))
        · refine .inr (.inr (.inr ?_)); unfold lvl; rw [if_neg h1, if_pos h2, if_neg h3, if_neg h4]
    · refine .inr (.inr (.inr ?_)); unfold lvl; rw [if_neg h1, if_neg h2]
/-- What was there reads, and is frozen, as before: two rules for the walk. -/
theorem Nw.rules {a b : World} (h : Nw a b) : (∀ k o, k < a.heap.size → b.cell? ⟨k, o, none⟩ = a.cell? ⟨k, o, none⟩) ∧ (∀ k o, k < a.heap.size → b.frozen? ⟨k, o, none⟩ = a.frozen? ⟨k, o, none⟩) :=
  ⟨fun k o hk => Below.cell (p := ⟨k, o, none⟩) h hk, fun k o hk => Below.frozen (p := ⟨k, o, none⟩) h hk⟩
theorem level_any (t r : Int) (w : World) :
    Calls Tryd.prog 32 #[.agg #[.int .i64 t, .int .i64 r]] w fun e w' => e = .returned (.int .i64 (lvl t r)) ∧ Nw w w' := by
  by_cases h1 : t = -1
  · subst h1
    by_cases h2 : r = -1
    · subst h2; exact level_db w
    · have e : lvl (-1) r = -1 := by unfold lvl; repeat' split
                                     all_goals omega
      rw [e]; exact level_bad1 r w (by omega)
  · by_cases h3 : 0 ≤ t ∧ t < 100
    · obtain ⟨h3, h4⟩ := h3
      by_cases h2 : r = -1
      · subst h2; rw [lvl_tab t h3 h4]; exact level_tab t w h3 h4
      · by_cases h5 : 0 ≤ r ∧ r < 100
        · rw [lvl_rec t r h3 h4 h5.1 h5.2]; exact level_rec t r w h3 h4 h5.1 h5.2
        · have e : lvl t r = -1 := by unfold lvl; repeat' split
                                      all_goals omega
          rw [e]; exact level_bad3 t r w h3 h4 (by omega)
    · have e : lvl t r = -1 := by unfold lvl; repeat' split
                                  all_goals omega
      rw [e]; exact level_bad2 t r w (by omega)
theorem level_val (t r L : Int) (w : World) (h : lvl t r = L) :
    Calls Tryd.prog 32 #[.agg #[.int .i64 t, .int .i64 r]] w fun e w' => e = .returned (.int .i64 L) ∧ Nw w w' := by
  subst h; exact level_any t r w

/-! ### Names out of numbers -/
theorem kitDB_any (w : World) :
    Calls Tryd.prog 16 #[] w fun e w' => e = .returned (.agg #[.int .i64 (-1), .int .i64 (-1)]) ∧ Nw w w' := by
  go_enter Tryd.func16, Tryd.ntmps16
  go_wp2
  exact bodyPost_ret (v := .agg #[.int .i64 (-1), .int .i64 (-1)]) (by simp [results, Tryd.results16, go_sem]) rfl ⟨rfl, (Nw.refl _).alloc _⟩
theorem kitT_any (t : Int) (w : World) :
    Calls Tryd.prog 17 #[.int .i64 t] w fun e w' => e = .returned (.agg #[.int .i64 t, .int .i64 (-1)]) ∧ Nw w w' := by
  go_enter Tryd.func17, Tryd.ntmps17
  go_wp2
  exact bodyPost_ret (v := .agg #[.int .i64 t, .int .i64 (-1)]) (by simp [results, Tryd.results17, go_sem]) rfl ⟨rfl, (Nw.refl _).alloc _⟩
theorem Nw.set {w a : World} (h : Nw w a) {p : Addr} (hp : w.heap.size ≤ p.block) (u : Value) : Nw w (a.setCell p u) := Below.setCell h hp u

/-! ### Rows of names -/
/-- The cells of a slice of names over a row that is there. -/
def NCells (w : World) (b o : Nat) (zs : List (Int × Int)) : Prop := b < w.heap.size ∧ ∀ k (h : k < zs.length), w.cell? ⟨b, o + k * 2, none⟩ = some (.int .i64 zs[k].1) ∧ w.cell? ⟨b, o + k * 2 + 1, none⟩ = some (.int .i64 zs[k].2)
theorem NCells.grown {w w' : World} {b o : Nat} {zs : List (Int × Int)} (h : NCells w b o zs) (g : Nw w w') : NCells w' b o zs :=
  ⟨Nat.lt_of_lt_of_le h.1 g.sz, fun k hk => ⟨(g.cell h.1).trans (h.2 k hk).1, (g.cell h.1).trans (h.2 k hk).2⟩⟩
/-- A new row of names is handed back. -/
def NewNames (w : World) (zs : List (Int × Int)) (e : Ending) (w' : World) : Prop := ∃ b, e = .returned (.slice (some ⟨b, 0, none⟩) zs.length zs.length) ∧ NCells w' b 0 zs ∧ w.heap.size ≤ b ∧ Nw w w'
/-- A new row of names, by its cells. -/
def flat : List (Int × Int) → List Value
  | [] => []
  | z :: r => .int .i64 z.1 :: .int .i64 z.2 :: flat r
theorem flat_at : ∀ (zs : List (Int × Int)) (k : Nat) (h : k < zs.length), (flat zs)[k * 2]? = some (.int .i64 zs[k].1) ∧ (flat zs)[k * 2 + 1]? = some (.int .i64 zs[k].2)
  | z :: r, 0, _ => ⟨rfl, rfl⟩
  | z :: r, k + 1, h => by
    have := flat_at r k (by simpa using h)
    rw [Nat.succ_mul]
    simpa [flat] using this
theorem ncells_new (w : World) (zs : List (Int × Int)) (t : TypeId) : NCells (w.alloc (.cells (flat zs).toArray t)) w.heap.size 0 zs := by
  refine ⟨by show _ < (w.heap.push _).size; simp, fun k h => ?_⟩
  have hf := flat_at zs k h
  rw [cell_of_row _ _ (0 + k * 2) _ t (0, 0) (heap_alloc_last w _), cell_of_row _ _ (0 + k * 2 + 1) _ t (0, 0) (heap_alloc_last w _)]
  simpa using hf
theorem Nw.drew1 {w w' : World} (h : Nw w w') : Nw w w'.drew := h.drewN 1
theorem box_start' (w : World) (t r : Int) (ty : TypeId) :
    (w.alloc (.cells #[.int .i64 t, .int .i64 r] ty)).cell? ⟨w.heap.size, 0, none⟩ = some (.int .i64 t) ∧ (w.alloc (.cells #[.int .i64 t, .int .i64 r] ty)).cell? ⟨w.heap.size, 1, none⟩ = some (.int .i64 r) ∧ (w.heap.size < (w.alloc (.cells #[.int .i64 t, .int .i64 r] ty)).heap.size ∧ Nw w (w.alloc (.cells #[.int .i64 t, .int .i64 r] ty))) :=
  ⟨cell_of_row _ _ 0 _ ty (0, 0) (heap_alloc_last w _), cell_of_row _ _ 1 _ ty (0, 0) (heap_alloc_last w _), by show _ < (w.heap.push _).size; simp, (Nw.refl w).alloc _⟩
end Go.Proofs.YtekjmgdockfaiaaDoor
