
/- lives: the chapter's example. -/
import Derived.Test.YtekjmgdockfaiaaDoorHsN
namespace Go.Proofs.YtekjmgdockfaiaaDoor
open Go.RowKit
set_option linter.unusedVariables false      -- a contract need not use every name

def threeL : List Ev := [⟨0, 0, true, ⟨1, 4, 1, -1, 3, 0⟩⟩, ⟨1, 1, true, ⟨2, 0, 1, -1, 0, 0⟩⟩, ⟨0, 0, false, ⟨0, 0, 0, 0, 0, 1⟩⟩]
def threeS : List Sp := [⟨0, 0, 0, 2, ⟨1, 4, 1, -1, 3, 1⟩⟩, ⟨1, 1, 1, -1, ⟨2, 0, 1, -1, 0, 0⟩⟩]
theorem three_trk : trk threeL 0 [] = (threeS, 0, 0) := by rfl
theorem kitT_val (t : Int) (w : World) :
    Calls Tryd.prog 17 #[.int .i64 t] w fun e w' => e = .returned (.agg #[.int .i64 t, .int .i64 (-1)]) ∧ Nw w w' := by
  go_enter Tryd.func17, Tryd.ntmps17
  go_wp2
  exact bodyPost_ret (v := .agg #[.int .i64 t, .int .i64 (-1)]) (by simp [results, Tryd.results17, go_sem]) rfl ⟨rfl, (Nw.refl _).alloc _⟩
def threeC : Array Value := ⟨threeL.flatMap erow⟩
theorem erow_len (e : Ev) : (erow e).length = 9 := rfl
theorem erows_at : ∀ (l : List Ev) (j c : Nat) (hj : j < l.length), c < 9 → (l.flatMap erow)[j * 9 + c]? = (erow l[j])[c]?
  | s :: r, 0, c, _, hc => by
    show (erow s ++ r.flatMap erow)[0 * 9 + c]? = _
    rw [List.getElem?_append_left (by rw [erow_len]; omega)]
    simp
  | s :: r, j + 1, c, hj, hc => by
    have hj' : j < r.length := by simpa using hj
    show (erow s ++ r.flatMap erow)[(j + 1) * 9 + c]? = _
    rw [List.getElem?_append_right (by rw [erow_len]; omega), erow_len, show (j + 1) * 9 + c - 9 = j * 9 + c by omega, erows_at r j c hj' hc]
    rfl
/-- A block of events can be read. -/
theorem evs_at {w : World} {B : Nat} {l : List Ev} {T : TypeId} {fr : Nat × Nat} (h : w.heap[B]? = some (.cells ⟨l.flatMap erow⟩ T fr)) (c : Nat) : EvAt w (.slice (some ⟨B, 0, none⟩) l.length c) l := by
  refine ⟨_, c, rfl, .inr ⟨B, 0, rfl, heap_lt h, fun i hi c u hu => ?_⟩⟩
  have hc : c < 9 := by have := (List.getElem?_eq_some_iff.1 hu).1; simpa [erow] using this
  rw [Nat.zero_add, heap_cell h, ← Array.getElem?_toList]
  show (l.flatMap erow)[i * 9 + c]? = _
  rw [erows_at l i c hi hc]; exact hu
set_option maxRecDepth 100000 in
set_option maxHeartbeats 1000000 in
theorem three_any (w : World) : Calls Tryd.prog 5 #[] w fun e w' => ∃ v, e = .returned v ∧ EvAt w' v threeL ∧ Nw w w' := by
  go_enter Tryd.func5, Tryd.ntmps5
  go_wp2_with fail
  refine (kitT_val 1 _).mono ?_
  rintro e w1 ⟨rfl, g1⟩
  go_wp2_with fail
  refine (kitT_val 1 _).mono ?_
  rintro e w2 ⟨rfl, g2⟩
  go_wp2
  go_ret
  exact ⟨_, rfl, evs_at (l := threeL) (T := 31) (alloc_at w2 _ _) 3, (g1.trans g2).alloc _⟩
theorem fit_three : ∀ e ∈ threeL, fitE e := by
  intro e he
  simp [threeL] at he
  rcases he with rfl | rfl | rfl <;> (unfold fitE; decide)
set_option maxRecDepth 100000 in
set_option maxHeartbeats 1000000 in
theorem lives_ok (w : World) : Calls Tryd.prog 4 #[] w fun e w' => e = .returned (.bool true) ∧ Nw w w' := by
  go_enter Tryd.func4, Tryd.ntmps4
  go_wp2_with fail
  refine (three_any _).mono ?_
  rintro e w1 ⟨v, rfl, h1, g1⟩
  have H := Lib.hid (spans_any v threeL w1 (by decide) fit_three h1)
  clear h1
  go_wp2_with fail
  refine H.out.mono ?_
  rintro e w2 ⟨v2, rfl, g2, hs⟩
  rw [three_trk] at hs
  rcases own_form hs with ⟨_, q⟩ | ⟨g, cap, rfl⟩
  · simp [threeS] at q
  have c0 : w2.cell? ⟨g, 2, none⟩ = some (.int .i64 0) := hs.cell (j := 0) (c := 2) (by decide) (by decide) rfl
  have c1 : w2.cell? ⟨g, 3, none⟩ = some (.int .i64 2) := hs.cell (j := 0) (c := 3) (by decide) (by decide) rfl
  have c2 : w2.cell? ⟨g, 12, none⟩ = some (.int .i64 1) := hs.cell (j := 1) (c := 2) (by decide) (by decide) rfl
  have c3 : w2.cell? ⟨g, 13, none⟩ = some (.int .i64 (-1)) := hs.cell (j := 1) (c := 3) (by decide) (by decide) rfl
  have hn := Lib.hid (g1.trans g2)
  clear hs H g1 g2
  rw [show threeS.length = 2 from rfl]
  go_wp2
  go_ret
  exact ⟨rfl, hn.out⟩
end Go.Proofs.YtekjmgdockfaiaaDoor
