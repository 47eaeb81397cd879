/- Texts merged: NameA, NameB, NameC, NameD, RefA, BkS, BkT, BkU, QuK -/
import Derived.Test.YtpffldfpabglbaaGreatDoorTableHoldsB8
import Derived.ProofKit
import Derived.OpenShut
import Derived.ShutString
import Derived.Outline
import Derived.Deep.QuietTactic
import Derived.BigQuiet
import Derived.Deep.RegionHeld3
import Derived.Deep.WholeRow
import Derived.LoopTactic
import Derived.WalkSpells

/- Contracts of package name, first part: Database, numbered, Level, Check. -/
section
namespace Go.Proofs.YtpffldfpabglbaaGreatDoor
open Go.ChangeShapes Go.WideShapes Go.ChangeAt Go.RowKit

/-- A name as a value. -/
def nm (t r : Int) : Value := .agg #[.int .i64 t, .int .i64 r]

theorem database_any (w : World) :
    Calls Tryz.prog 202 #[] w fun e w' => e = .returned (.agg #[.int .i64 (-1), .int .i64 (-1)]) ∧ Nw w w' := by
  go_enter Tryz.func202, Tryz.ntmps202
  go_wp2
  exact bodyPost_ret (v := .agg #[.int .i64 (-1), .int .i64 (-1)]) (by simp [results, Tryz.results202, go_sem]) rfl ⟨rfl, (Nw.refl _).alloc _⟩

theorem numbered_yes (i : Int) (w : World) (h0 : 0 ≤ i) (h1 : i < 100) :
    Calls Tryz.prog 203 #[.int .i64 i] w fun e w' => e = .returned (.bool true) ∧ w = w' := by
  go_enter Tryz.func203, Tryz.ntmps203
  go_wp2
  go_ret
  exact ⟨rfl, rfl⟩
theorem numbered_no (i : Int) (w : World) (h : i < 0 ∨ 100 ≤ i) :
    Calls Tryz.prog 203 #[.int .i64 i] w fun e w' => e = .returned (.bool false) ∧ w = w' := by
  rcases h with h | h
  · go_enter Tryz.func203, Tryz.ntmps203
    go_wp2
    go_ret
    exact ⟨rfl, rfl⟩
  · have h0 : 0 ≤ i := by omega
    have hd : decide (i < 100) = false := by simp; omega
    go_enter Tryz.func203, Tryz.ntmps203
    go_wp2
    go_ret
    exact ⟨rfl, rfl⟩

/-- The box of a name lies in the first new block; nothing that was there has changed. -/
theorem box_start (w : World) (t r : Int) (ty : TypeId) :
    (w.alloc (.cells #[.int .i64 t, .int .i64 r] ty)).drew.cell? ⟨w.heap.size, 0, none⟩ = some (.int .i64 t) ∧ (w.alloc (.cells #[.int .i64 t, .int .i64 r] ty)).drew.cell? ⟨w.heap.size, 1, none⟩ = some (.int .i64 r) ∧ (w.heap.size < (w.alloc (.cells #[.int .i64 t, .int .i64 r] ty)).drew.heap.size ∧ Nw w (w.alloc (.cells #[.int .i64 t, .int .i64 r] ty)).drew) :=
  ⟨cell_of_row _ _ 0 _ ty (0, 0) (heap_alloc_last w _), cell_of_row _ _ 1 _ ty (0, 0) (heap_alloc_last w _), by show _ < (w.heap.push _).size; simp, ((Nw.refl w).alloc _).drewN 1⟩
theorem box_step {w a b : World} {t r : Int} (g : Nw a b)
    (h : a.cell? ⟨w.heap.size, 0, none⟩ = some (.int .i64 t) ∧ a.cell? ⟨w.heap.size, 1, none⟩ = some (.int .i64 r) ∧ (w.heap.size < a.heap.size ∧ Nw w a)) :
    b.cell? ⟨w.heap.size, 0, none⟩ = some (.int .i64 t) ∧ b.cell? ⟨w.heap.size, 1, none⟩ = some (.int .i64 r) ∧ (w.heap.size < b.heap.size ∧ Nw w b) :=
  ⟨(g.cell h.2.2.1).trans h.1, (g.cell h.2.2.1).trans h.2.1, Nat.lt_of_lt_of_le h.2.2.1 g.sz, h.2.2.2.trans g⟩

theorem level_db (w : World) :
    Calls Tryz.prog 161 #[.agg #[.int .i64 (-1), .int .i64 (-1)]] w fun e w' => e = .returned (.int .i64 0) ∧ Nw w w' := by
  go_enter Tryz.func161, Tryz.ntmps161
  go_wp2
  go_region_held3 (fun w' => w'.cell? ⟨w.heap.size, 0, none⟩ = some (.int .i64 (-1)) ∧ w'.cell? ⟨w.heap.size, 1, none⟩ = some (.int .i64 (-1)) ∧ (w.heap.size < w'.heap.size ∧ Nw w w')) (first | exact box_start _ _ _ _ | exact box_step (by assumption) (by assumption))
    (first | (go_at_call 202; refine (database_any _).mono ?_; rintro e w' ⟨rfl, hg⟩))
  all_goals
    rename_i hS
    obtain ⟨hc0, hc1, _, hG⟩ := hS
    clear hg
    go_wp2_with (first | (go_at_call 203; refine (numbered_yes _ _ (by omega) (by omega)).mono ?_; rintro e w' ⟨rfl, rfl⟩) | (go_at_call 203; refine (numbered_no _ _ (by omega)).mono ?_; rintro e w' ⟨rfl, rfl⟩))
    go_ret
    exact ⟨rfl, hG⟩

theorem level_tab (t : Int) (w : World) (h0 : 0 ≤ t) (h1 : t < 100) :
    Calls Tryz.prog 161 #[.agg #[.int .i64 t, .int .i64 (-1)]] w fun e w' => e = .returned (.int .i64 1) ∧ Nw w w' := by
  have e0 : (t == -1) = false := by simp; omega
  go_enter Tryz.func161, Tryz.ntmps161
  go_wp2
  go_region_held3 (fun w' => w'.cell? ⟨w.heap.size, 0, none⟩ = some (.int .i64 (t)) ∧ w'.cell? ⟨w.heap.size, 1, none⟩ = some (.int .i64 (-1)) ∧ (w.heap.size < w'.heap.size ∧ Nw w w')) (first | exact box_start _ _ _ _ | exact box_step (by assumption) (by assumption))
    (first | (go_at_call 202; refine (database_any _).mono ?_; rintro e w' ⟨rfl, hg⟩))
  all_goals
    rename_i hS
    obtain ⟨hc0, hc1, _, hG⟩ := hS
    clear hg
    go_wp2_with (first | (go_at_call 203; refine (numbered_yes _ _ (by omega) (by omega)).mono ?_; rintro e w' ⟨rfl, rfl⟩) | (go_at_call 203; refine (numbered_no _ _ (by omega)).mono ?_; rintro e w' ⟨rfl, rfl⟩))
    go_ret
    exact ⟨rfl, hG⟩

theorem level_rec (t r : Int) (w : World) (h0 : 0 ≤ t) (h1 : t < 100) (h2 : 0 ≤ r) (h3 : r < 100) :
    Calls Tryz.prog 161 #[.agg #[.int .i64 t, .int .i64 r]] w fun e w' => e = .returned (.int .i64 2) ∧ Nw w w' := by
  have e0 : (t == -1) = false := by simp; omega
  have e1 : (r == -1) = false := by simp; omega
  go_enter Tryz.func161, Tryz.ntmps161
  go_wp2
  go_region_held3 (fun w' => w'.cell? ⟨w.heap.size, 0, none⟩ = some (.int .i64 (t)) ∧ w'.cell? ⟨w.heap.size, 1, none⟩ = some (.int .i64 (r)) ∧ (w.heap.size < w'.heap.size ∧ Nw w w')) (first | exact box_start _ _ _ _ | exact box_step (by assumption) (by assumption))
    (first | (go_at_call 202; refine (database_any _).mono ?_; rintro e w' ⟨rfl, hg⟩))
  all_goals
    rename_i hS
    obtain ⟨hc0, hc1, _, hG⟩ := hS
    clear hg
    go_wp2_with (first | (go_at_call 203; refine (numbered_yes _ _ (by omega) (by omega)).mono ?_; rintro e w' ⟨rfl, rfl⟩) | (go_at_call 203; refine (numbered_no _ _ (by omega)).mono ?_; rintro e w' ⟨rfl, rfl⟩))
    go_ret
    exact ⟨rfl, hG⟩

theorem level_bad1 (r : Int) (w : World) (h : r < -1 ∨ -1 < r) :
    Calls Tryz.prog 161 #[.agg #[.int .i64 (-1), .int .i64 r]] w fun e w' => e = .returned (.int .i64 (-1)) ∧ Nw w w' := by
  have e1 : (r == -1) = false := by simp; omega
  go_enter Tryz.func161, Tryz.ntmps161
  go_wp2
  go_region_held3 (fun w' => w'.cell? ⟨w.heap.size, 0, none⟩ = some (.int .i64 (-1)) ∧ w'.cell? ⟨w.heap.size, 1, none⟩ = some (.int .i64 (r)) ∧ (w.heap.size < w'.heap.size ∧ Nw w w')) (first | exact box_start _ _ _ _ | exact box_step (by assumption) (by assumption))
    (first | (go_at_call 202; refine (database_any _).mono ?_; rintro e w' ⟨rfl, hg⟩))
  all_goals
    rename_i hS
    obtain ⟨hc0, hc1, _, hG⟩ := hS
    clear hg
    go_wp2_with (first | (go_at_call 203; refine (numbered_yes _ _ (by omega) (by omega)).mono ?_; rintro e w' ⟨rfl, rfl⟩) | (go_at_call 203; refine (numbered_no _ _ (by omega)).mono ?_; rintro e w' ⟨rfl, rfl⟩))
    go_ret
    exact ⟨rfl, hG⟩

theorem level_bad2 (t r : Int) (w : World) (h : t < -1 ∨ 100 ≤ t) :
    Calls Tryz.prog 161 #[.agg #[.int .i64 t, .int .i64 r]] w fun e w' => e = .returned (.int .i64 (-1)) ∧ Nw w w' := by
  have e0 : (t == -1) = false := by simp; omega
  go_enter Tryz.func161, Tryz.ntmps161
  go_wp2
  go_region_held3 (fun w' => w'.cell? ⟨w.heap.size, 0, none⟩ = some (.int .i64 (t)) ∧ w'.cell? ⟨w.heap.size, 1, none⟩ = some (.int .i64 (r)) ∧ (w.heap.size < w'.heap.size ∧ Nw w w')) (first | exact box_start _ _ _ _ | exact box_step (by assumption) (by assumption))
    (first | (go_at_call 202; refine (database_any _).mono ?_; rintro e w' ⟨rfl, hg⟩))
  all_goals
    rename_i hS
    obtain ⟨hc0, hc1, _, hG⟩ := hS
    clear hg
    go_wp2_with (first | (go_at_call 203; refine (numbered_yes _ _ (by omega) (by omega)).mono ?_; rintro e w' ⟨rfl, rfl⟩) | (go_at_call 203; refine (numbered_no _ _ (by omega)).mono ?_; rintro e w' ⟨rfl, rfl⟩))
    go_ret
    exact ⟨rfl, hG⟩

theorem level_bad3 (t r : Int) (w : World) (h0 : 0 ≤ t) (h1 : t < 100) (h : r < -1 ∨ 100 ≤ r) :
    Calls Tryz.prog 161 #[.agg #[.int .i64 t, .int .i64 r]] w fun e w' => e = .returned (.int .i64 (-1)) ∧ Nw w w' := by
  have e0 : (t == -1) = false := by simp; omega
  have e1 : (r == -1) = false := by simp; omega
  go_enter Tryz.func161, Tryz.ntmps161
  go_wp2
  go_region_held3 (fun w' => w'.cell? ⟨w.heap.size, 0, none⟩ = some (.int .i64 (t)) ∧ w'.cell? ⟨w.heap.size, 1, none⟩ = some (.int .i64 (r)) ∧ (w.heap.size < w'.heap.size ∧ Nw w w')) (first | exact box_start _ _ _ _ | exact box_step (by assumption) (by assumption))
    (first | (go_at_call 202; refine (database_any _).mono ?_; rintro e w' ⟨rfl, hg⟩))
  all_goals
    rename_i hS
    obtain ⟨hc0, hc1, _, hG⟩ := hS
    clear hg
    go_wp2_with (first | (go_at_call 203; refine (numbered_yes _ _ (by omega) (by omega)).mono ?_; rintro e w' ⟨rfl, rfl⟩) | (go_at_call 203; refine (numbered_no _ _ (by omega)).mono ?_; rintro e w' ⟨rfl, rfl⟩))
    go_ret
    exact ⟨rfl, hG⟩

end Go.Proofs.YtpffldfpabglbaaGreatDoor
end

/- Contracts of package name, second part: Level at every name, Check, Table, Record, Parent, Ancestors; T, DB, R of the checker's kit. -/
section
namespace Go.Proofs.YtpffldfpabglbaaGreatDoor
open Go.ChangeShapes Go.WideShapes Go.ChangeAt Go.RowKit

def lvl (t r : Int) : Int := if t = -1 ∧ r = -1 then 0 else if 0 ≤ t ∧ t < 100 then (if r = -1 then 1 else if 0 ≤ r ∧ r < 100 then 2 else -1) else -1
theorem lvl_tab (t : Int) (h0 : 0 ≤ t) (h1 : t < 100) : lvl t (-1) = 1 := by unfold lvl; split <;> omega
theorem lvl_rec (t r : Int) (h0 : 0 ≤ t) (h1 : t < 100) (h2 : 0 ≤ r) (h3 : r < 100) : lvl t r = 2 := by unfold lvl; repeat' split
                                                                                                        all_goals omega
/-- The four kinds of a name. -/
theorem kinds (t r : Int) : (t = -1 ∧ r = -1) ∨ (0 ≤ t ∧ t < 100 ∧ r = -1) ∨ (0 ≤ t ∧ t < 100 ∧ 0 ≤ r ∧ r < 100) ∨ lvl t r = -1 := by
  by_cases h1 : t = -1 ∧ r = -1
  · exact .inl h1
  · by_cases h2 : 0 ≤ t ∧ t < 100
    · by_cases h3 : r = -1
      · exact .inr (.inl ⟨h2.1, h2.2, h3⟩)
      · by_cases h4 : 0 ≤ r ∧ r < 100
        · exact .inr (.inr (.inl ⟨h2.1, h2.2, h4⟩))
        · refine .inr (.inr (.inr ?_)); unfold lvl; rw [if_neg h1, if_pos h2, if_neg h3, if_neg h4]
    · refine .inr (.inr (.inr ?_)); unfold lvl; rw [if_neg h1, if_neg h2]
/-- What was there reads, and is frozen, as before: two rules for the walk. -/
theorem Nw.rules {a b : World} (h : Nw a b) : (∀ k o, k < a.heap.size → b.cell? ⟨k, o, none⟩ = a.cell? ⟨k, o, none⟩) ∧ (∀ k o, k < a.heap.size → b.frozen? ⟨k, o, none⟩ = a.frozen? ⟨k, o, none⟩) :=
  ⟨fun k o hk => Below.cell (p := ⟨k, o, none⟩) h hk, fun k o hk => Below.frozen (p := ⟨k, o, none⟩) h hk⟩
theorem level_any (t r : Int) (w : World) :
    Calls Tryz.prog 161 #[.agg #[.int .i64 t, .int .i64 r]] w fun e w' => e = .returned (.int .i64 (lvl t r)) ∧ Nw w w' := by
  by_cases h1 : t = -1
  · subst h1
    by_cases h2 : r = -1
    · subst h2; exact level_db w
    · have e : lvl (-1) r = -1 := by unfold lvl; repeat' split
                                     all_goals omega
      rw [e]; exact level_bad1 r w (by omega)
  · by_cases h3 : 0 ≤ t ∧ t < 100
    · obtain ⟨h3, h4⟩ := h3
      by_cases h2 : r = -1
      · subst h2; rw [lvl_tab t h3 h4]; exact level_tab t w h3 h4
      · by_cases h5 : 0 ≤ r ∧ r < 100
        · rw [lvl_rec t r h3 h4 h5.1 h5.2]; exact level_rec t r w h3 h4 h5.1 h5.2
        · have e : lvl t r = -1 := by unfold lvl; repeat' split
                                      all_goals omega
          rw [e]; exact level_bad3 t r w h3 h4 (by omega)
    · have e : lvl t r = -1 := by unfold lvl; repeat' split
                                  all_goals omega
      rw [e]; exact level_bad2 t r w (by omega)
theorem level_val (t r L : Int) (w : World) (h : lvl t r = L) :
    Calls Tryz.prog 161 #[.agg #[.int .i64 t, .int .i64 r]] w fun e w' => e = .returned (.int .i64 L) ∧ Nw w w' := by
  subst h; exact level_any t r w

theorem check_ok (t r : Int) (w : World) (h : lvl t r ≠ -1) :
    Calls Tryz.prog 112 #[.agg #[.int .i64 t, .int .i64 r]] w fun e w' => e = .returned (.int .i64 0) ∧ Nw w w' := by
  have hL : (lvl t r == -1) = false := by simpa using h
  have H := level_any t r
  generalize lvl t r = L at *
  have H2 := Lib.hid H
  clear H h
  go_enter Tryz.func112, Tryz.ntmps112
  go_wp2_with (go_at_call 161; refine (H2.out _).mono ?_; rintro e w' ⟨rfl, hg⟩)
  go_ret
  exact ⟨rfl, ((Nw.refl _).alloc _).trans hg⟩
theorem check_no (t r : Int) (w : World) (h : lvl t r = -1) :
    Calls Tryz.prog 112 #[.agg #[.int .i64 t, .int .i64 r]] w fun e w' => e = .returned (.int .i64 2) ∧ Nw w w' := by
  have H2 := Lib.hid h
  clear h
  go_enter Tryz.func112, Tryz.ntmps112
  go_wp2_with (go_at_call 161; refine (level_val _ _ _ _ H2.out).mono ?_; rintro e w' ⟨rfl, hg⟩)
  go_ret
  exact ⟨rfl, ((Nw.refl _).alloc _).trans hg⟩

/-! ### Names out of numbers -/
theorem Nw.set {w a : World} (h : Nw w a) {p : Addr} (hp : w.heap.size ≤ p.block) (u : Value) : Nw w (a.setCell p u) := Below.setCell h hp u

/-! ### Rows of names -/
/-- The cells of a slice of names over a row that is there. -/
def NCells (w : World) (b o : Nat) (zs : List (Int × Int)) : Prop := b < w.heap.size ∧ ∀ k (h : k < zs.length), w.cell? ⟨b, o + k * 2, none⟩ = some (.int .i64 zs[k].1) ∧ w.cell? ⟨b, o + k * 2 + 1, none⟩ = some (.int .i64 zs[k].2)
theorem NCells.grown {w w' : World} {b o : Nat} {zs : List (Int × Int)} (h : NCells w b o zs) (g : Nw w w') : NCells w' b o zs :=
  ⟨Nat.lt_of_lt_of_le h.1 g.sz, fun k hk => ⟨(g.cell h.1).trans (h.2 k hk).1, (g.cell h.1).trans (h.2 k hk).2⟩⟩
/-- A new row of names, by its cells. -/
def flat : List (Int × Int) → List Value
  | [] => []
  | z :: r => .int .i64 z.1 :: .int .i64 z.2 :: flat r
theorem Nw.drew1 {w w' : World} (h : Nw w w') : Nw w w'.drew := h.drewN 1
theorem box_start' (w : World) (t r : Int) (ty : TypeId) :
    (w.alloc (.cells #[.int .i64 t, .int .i64 r] ty)).cell? ⟨w.heap.size, 0, none⟩ = some (.int .i64 t) ∧ (w.alloc (.cells #[.int .i64 t, .int .i64 r] ty)).cell? ⟨w.heap.size, 1, none⟩ = some (.int .i64 r) ∧ (w.heap.size < (w.alloc (.cells #[.int .i64 t, .int .i64 r] ty)).heap.size ∧ Nw w (w.alloc (.cells #[.int .i64 t, .int .i64 r] ty))) :=
  ⟨cell_of_row _ _ 0 _ ty (0, 0) (heap_alloc_last w _), cell_of_row _ _ 1 _ ty (0, 0) (heap_alloc_last w _), by show _ < (w.heap.push _).size; simp, (Nw.refl w).alloc _⟩
end Go.Proofs.YtpffldfpabglbaaGreatDoor
end

/- Contracts of package name, third part: Compare (with cmp.Compare, cmp.Or), slices.Index and Contains over names, Under. -/
section
namespace Go.Proofs.YtpffldfpabglbaaGreatDoor
open Go.ChangeShapes Go.WideShapes Go.ChangeAt Go.RowKit

/-- -1, 0 or 1. -/
def c3 (a b : Int) : Int := if a < b then -1 else if b < a then 1 else 0
def or2 (x y : Int) : Int := if x = 0 then y else x
/-! ### slices.Index and Contains over names -/
end Go.Proofs.YtpffldfpabglbaaGreatDoor
end

/- Contracts of package name, fourth part: Under. -/
section
namespace Go.Proofs.YtpffldfpabglbaaGreatDoor
open Go.ChangeShapes Go.WideShapes Go.ChangeAt Go.RowKit

/-- One name is under another one. -/
def und (t r t' r' : Int) : Bool := decide (lvl t r ≠ -1 ∧ lvl t' r' ≠ -1 ∧ ((t' = -1 ∧ r' = -1) ∨ (t' = t ∧ (r' = -1 ∨ r' = r))))
end Go.Proofs.YtpffldfpabglbaaGreatDoor
end

/- Contracts of the reference's functions on names, first part: Database, Level, Check, Table, Record, Parent, Ancestors, Compare. -/
section
namespace Go.Proofs.YtpffldfpabglbaaGreatDoor
open Go.ChangeShapes Go.WideShapes Go.ChangeAt Go.RowKit

theorem refCmp_lt1 (t r t' r' : Int) (w : World) (h : t < t') :
    Calls Tryz.prog 32 #[.agg #[.int .i64 t, .int .i64 r], .agg #[.int .i64 t', .int .i64 r']] w fun e w' => e = .returned (.int .i64 (-1)) ∧ Nw w w' := by
  have d0 : decide (t < t') = true := by simp <;> omega
  go_enter Tryz.func32, Tryz.ntmps32
  go_wp2
  go_ret
  exact ⟨rfl, ((Nw.refl _).alloc _).alloc _⟩
theorem refCmp_lt2 (t r r' : Int) (w : World) (h : r < r') :
    Calls Tryz.prog 32 #[.agg #[.int .i64 t, .int .i64 r], .agg #[.int .i64 t, .int .i64 r']] w fun e w' => e = .returned (.int .i64 (-1)) ∧ Nw w w' := by
  have d1 : decide (r < r') = true := by simp <;> omega
  go_enter Tryz.func32, Tryz.ntmps32
  go_wp2
  go_ret
  exact ⟨rfl, ((Nw.refl _).alloc _).alloc _⟩
end Go.Proofs.YtpffldfpabglbaaGreatDoor
end

/- The document's own bucket: New, place, Find. -/
section
namespace Go.Proofs.YtpffldfpabglbaaGreatDoor
open Go.RowKit
set_option linter.unusedVariables false      -- a contract need not use every name

theorem cmp_nlt (t r t' r' : Int) : (or2 (c3 t t') (c3 r r') < 0 ↔ nlt (t, r) (t', r')) ∧ (or2 (c3 t t') (c3 r r') = 0 ↔ (t, r) = (t', r')) := by
  unfold nlt
  simp only [Prod.mk.injEq]
  rcases Int.lt_trichotomy t t' with h | h | h <;> rcases Int.lt_trichotomy r r' with k | k | k <;> simp [or2, c3, h, k] <;> omega
/-- Where a name's head is, or would be. -/
def PlIs (l : List Hm) (nm : Int × Int) (k : Nat) (b : Bool) : Prop := k ≤ l.length ∧ (∀ j (hj : j < l.length), j < k → nlt (nmH l[j].h) nm) ∧ ((k = l.length ∧ b = false) ∨ ∃ hk : k < l.length, ¬ nlt (nmH l[k].h) nm ∧ b = decide (nmH l[k].h = nm))
end Go.Proofs.YtpffldfpabglbaaGreatDoor
end

/- The document's own bucket: where a head is, in plain words; Find. -/
section
namespace Go.Proofs.YtpffldfpabglbaaGreatDoor
open Go.RowKit
set_option linter.unusedVariables false      -- a contract need not use every name

abbrev hsOf (l : List Hm) : List Hq := l.map Hm.h
theorem srt_at {l : List Hm} (s : SrtH (hsOf l)) {i j : Nat} (hi : i < l.length) (hj : j < l.length) (h : i < j) : nlt (nmH l[i].h) (nmH l[j].h) := by
  have := List.pairwise_iff_getElem.1 s i j (by simpa using hi) (by simpa using hj) h
  simpa using this
theorem PlIs.get {l : List Hm} {nm : Int × Int} {k : Nat} {b : Bool} (p : PlIs l nm k b) (s : SrtH (hsOf l)) :
    (b = false ∧ getH (hsOf l) nm = none ∧ (∀ j (hj : j < l.length), k ≤ j → nlt nm (nmH l[j].h))) ∨ (b = true ∧ ∃ hk : k < l.length, nmH l[k].h = nm ∧ getH (hsOf l) nm = some l[k].h) := by
  obtain ⟨hk, hb, he⟩ := p
  have key : b = false → (∀ j (hj : j < l.length), k ≤ j → nlt nm (nmH l[j].h)) → getH (hsOf l) nm = none := by
    intro _ ha
    refine List.find?_eq_none.2 fun x hx => ?_
    obtain ⟨j, hj, rfl⟩ := List.getElem_of_mem hx
    have hj' : j < l.length := by simpa using hj
    simp only [List.getElem_map, decide_eq_true_eq]
    intro e
    by_cases q : j < k
    · have := hb j hj' q; rw [e] at this; exact nlt_irr _ this
    · have := ha j hj' (by omega); rw [e] at this; exact nlt_irr _ this
  rcases he with ⟨rfl, rfl⟩ | ⟨hk2, hn, rfl⟩
  · have ha : ∀ j (hj : j < l.length), l.length ≤ j → nlt nm (nmH l[j].h) := fun j hj q => by omega
    exact .inl ⟨rfl, key rfl ha, ha⟩
  · by_cases e : nmH l[k].h = nm
    · refine .inr ⟨by simpa using e, hk2, e, ?_⟩
      cases hg : getH (hsOf l) nm with
      | none => exact absurd e (get_none hg _ (List.mem_map.2 ⟨_, List.getElem_mem hk2, rfl⟩))
      | some h =>
        obtain ⟨h1, h2⟩ := get_some hg
        rw [srt_inj s h1 (List.mem_map.2 ⟨_, List.getElem_mem hk2, rfl⟩) (h2.trans e.symm)]
    · have h0 : nlt nm (nmH l[k].h) := by
        rcases nlt_tot (nmH l[k].h) nm with q | q | q
        · exact absurd q hn
        · exact absurd q e
        · exact q
      have ha : ∀ j (hj : j < l.length), k ≤ j → nlt nm (nmH l[j].h) := fun j hj q => by
        rcases Nat.lt_or_eq_of_le q with q | rfl
        · exact nlt_tr h0 (srt_at s hk2 hj q)
        · exact h0
      exact .inl ⟨by simpa using e, key (by simpa using e) ha, ha⟩
theorem OfIs.of {l : List Hm} {id i : Int} (h : OfIs l id i) : (i = -1 ∧ ofId (hsOf l) id = none) ∨ ∃ k : Nat, i = k ∧ ∃ hk : k < l.length, ofId (hsOf l) id = some l[k].h := by
  rcases h with ⟨rfl, h⟩ | ⟨k, rfl, hk, h1, h2⟩
  · refine .inl ⟨rfl, List.find?_eq_none.2 fun x hx => ?_⟩
    obtain ⟨y, hy, rfl⟩ := List.mem_map.1 hx
    rw [h y hy]; simp
  · refine .inr ⟨k, rfl, hk, ?_⟩
    unfold ofId
    rw [List.find?_eq_some_iff_getElem]
    refine ⟨h1, k, by simpa using hk, by simp, fun j hj => ?_⟩
    simp only [List.getElem_map]
    rw [h2 j (by omega) hj]
    rfl
end Go.Proofs.YtpffldfpabglbaaGreatDoor
end

/- The document's own bucket: Get, New. -/
section
namespace Go.Proofs.YtpffldfpabglbaaGreatDoor
open Go.RowKit
set_option linter.unusedVariables false      -- a contract need not use every name

end Go.Proofs.YtpffldfpabglbaaGreatDoor
end

/- The document's own queue: Abandon, Hand. -/
section
namespace Go.Proofs.YtpffldfpabglbaaGreatDoor
open Go.RowKit
set_option linter.unusedVariables false      -- a contract need not use every name

theorem set_in {A M B : List Value} {j : Nat} (hj : j < M.length) (u : Value) : (A ++ (M ++ B)).set (A.length + j) u = A ++ (M.set j u ++ B) := by
  rw [List.set_append_right _ _ (by omega), Nat.add_sub_cancel_left, List.set_append_left _ _ hj]
theorem rows_mid (q : List Rq) (k : Nat) (hk : k < q.length) : rowsOf rqrow q = rowsOf rqrow (q.take k) ++ (rqrow q[k] ++ rowsOf rqrow (q.drop (k + 1))) := by
  have e : q = q.take k ++ q[k] :: q.drop (k + 1) := by rw [← List.drop_eq_getElem_cons hk, List.take_append_drop]
  conv => lhs; rw [e]
  rw [rows_app]
  rfl
theorem rows_upd (q : List Rq) (k : Nat) (hk : k < q.length) (j : Nat) (hj : j < 5) (u : Value) (new : Rq) (e : (rqrow q[k]).set j u = rqrow new) : (rowsOf rqrow q).set (k * 5 + j) u = rowsOf rqrow (q.set k new) := by
  have hA : (rowsOf rqrow (q.take k)).length = k * 5 := by rw [rows_len (sz := 5) (fun _ => rfl), List.length_take, Nat.min_eq_left (Nat.le_of_lt hk)]
  have h2 := rows_mid (q.set k new) k (by rw [List.length_set]; exact hk)
  rw [List.take_set_of_le (Nat.le_refl k), List.drop_set_of_lt (Nat.lt_succ_self k), List.getElem_set_self] at h2
  rw [rows_mid q k hk, h2, ← hA, set_in (by exact hj) u, e]
theorem own_upd {w : World} {g0 g cap n : Nat} {q : List Rq} (h : RqOwn w g0 (.slice (some ⟨g, 0, none⟩) n cap) q) (hn : n = q.length) (k : Nat) (hk : k < q.length) (j : Nat) (hj : j < 5) (u : Value) (new : Rq) (e : (rqrow q[k]).set j u = rqrow new) :
    RqOwn (w.setCell ⟨g, k * 5 + j, none⟩ u) g0 (.slice (some ⟨g, 0, none⟩) n cap) (q.set k new) := by
  subst hn
  have h1 := (World.ownsRow.stored h (k * 5 + j) u).1
  unfold RqOwn Own
  rw [List.length_set, ← rows_upd q k hk j hj u new e]
  exact h1
theorem own_cell {w : World} {g0 g cap n : Nat} {q : List Rq} (h : RqOwn w g0 (.slice (some ⟨g, 0, none⟩) n cap) q) (hn : n = q.length) (k : Nat) (hk : k < q.length) (j : Nat) (u : Value) (hu : (rqrow q[k])[j]? = some u) : w.cell? ⟨g, k * 5 + j, none⟩ = some u := by
  subst hn
  have hj : j < 5 := by have := (List.getElem?_eq_some_iff.1 hu).1; simpa [rqrow] using this
  refine (World.ownsRow.cellAt h (k * 5 + j) (by omega)).trans ?_
  rw [rows_at' (sz := 5) (fun _ => rfl) q k j hk hj]; exact hu
theorem own_frz {w : World} {g0 g cap n : Nat} {q : List Rq} (h : RqOwn w g0 (.slice (some ⟨g, 0, none⟩) n cap) q) (hn : n = q.length) (j : Nat) : w.frozen? ⟨g, j, none⟩ = false := by
  subst hn
  exact World.ownsRow.frozenAt h j
theorem ab_at {W : Int} {q : List Rq} {k : Nat} (h : Ok W q) (hk : k < q.length) (hm : q[k].md ≠ 0) : abQ q[k] q = q.set k (abR q[k]) := by
  unfold abQ
  rw [if_neg hm, chg_set h abR k hk]
end Go.Proofs.YtpffldfpabglbaaGreatDoor
end
