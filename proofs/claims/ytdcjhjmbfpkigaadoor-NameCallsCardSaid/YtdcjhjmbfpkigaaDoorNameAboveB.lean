/- The walk of NameAbove. -/
import Derived.Test.YtdcjhjmbfpkigaaDoorNameE
import Derived.Test.YtdcjhjmbfpkigaaDoorWrap
import Derived.Test.YtdcjhjmbfpkigaaDoorRegion
namespace Go.Proofs.YtdcjhjmbfpkigaaDoor.nameAbove
open Go.ChangeShapes Go.WideShapes Go.ChangeAt Go.RowKit
set_option linter.unusedVariables false      -- a walk need not use every fact

/-- Cells of integers: block, place, number. -/
def CL (w : World) (l : List (Nat × Nat × Int)) (w' : World) : Prop := (∀ x ∈ l, w'.cell? ⟨x.1, x.2.1, none⟩ = some (.int .i64 x.2.2)) ∧ Nw w w'
theorem CL.step {w : World} {l : List (Nat × Nat × Int)} (x y : World) (h : CL w l x) (g : Nw x y) : CL w l y := ⟨fun z hz => g.keep (h.1 z hz), h.2.trans g⟩
theorem CL.step' {w : World} {l : List (Nat × Nat × Int)} {x y : World} (g : Nw x y) (h : CL w l x) : CL w l y := CL.step x y h g
theorem ncells_one {x : World} {b : Nat} {i j : Int} (h0 : x.cell? ⟨b, 0, none⟩ = some (.int .i64 i)) (h1 : x.cell? ⟨b, 1, none⟩ = some (.int .i64 j)) : NCells x b 0 [(i, j)] := by
  refine ⟨?_, fun k h => ?_⟩
  · rcases Nat.lt_or_ge b x.heap.size with g | g
    · exact g
    · simp [World.cell?, Array.getElem?_eq_none g] at h0
  · obtain rfl : k = 0 := by simpa using h
    exact ⟨h0, h1⟩
theorem CL.at {w x : World} {l : List (Nat × Nat × Int)} (h : CL w l x) (b o : Nat) (v : Int) (hm : (b, o, v) ∈ l) : x.cell? ⟨b, o, none⟩ = some (.int .i64 v) := h.1 _ hm
theorem CL.cons {w x : World} {l : List (Nat × Nat × Int)} {b o : Nat} {v : Int} (h : CL w l x) (h0 : x.cell? ⟨b, o, none⟩ = some (.int .i64 v)) : CL w ((b, o, v) :: l) x :=
  ⟨fun z hz => by
    rcases List.mem_cons.1 hz with rfl | hz
    · exact h0
    · exact h.1 z hz, h.2⟩
theorem CL.two (w : World) (a0 b0 a1 b1 : Int) (t : TypeId) : CL w [(w.heap.size, 0, a0), (w.heap.size, 1, b0), (w.heap.size + 1, 0, a1), (w.heap.size + 1, 1, b1)] ((w.alloc (.cells #[.int .i64 a0, .int .i64 b0] t)).alloc (.cells #[.int .i64 a1, .int .i64 b1] t)) := by
  have h := boxes_start' w a0 b0 a1 b1 t
  refine ⟨fun z hz => ?_, h.2.2⟩
  simp only [List.mem_cons, List.not_mem_nil, or_false] at hz
  rcases hz with rfl | rfl | rfl | rfl
  · exact h.1.1
  · exact h.1.2.1
  · exact h.1.2.2.1
  · exact h.1.2.2.2
theorem compare_val (t r t' r' x : Int) (w : World) (h : or2 (c3 t t') (c3 r r') = x) :
    Calls Tryd.prog 21 #[.agg #[.int .i64 t, .int .i64 r], .agg #[.int .i64 t', .int .i64 r']] w fun e w' => e = .returned (.int .i64 x) ∧ Nw w w' := by
  subst h; exact compare_any t r t' r' w

set_option maxHeartbeats 1000000 in
theorem way_none (a0 b0 a1 b1 L : Int) (w : World) (h : Hid (lvl a0 b0 = 0 ∨ lvl a0 b0 = -1)) (hL : Hid (lvl a0 b0 = L)) (hL1 : L < 1) :
    Calls Tryd.prog 6 #[.agg #[.int .i64 a0, .int .i64 b0], .agg #[.int .i64 a1, .int .i64 b1]] w fun e w' => e = .returned (.bool true) ∧ Nw w w' := by
  have hW0 : Nw w ((w.alloc (.cells #[.int .i64 a0, .int .i64 b0] 24)).alloc (.cells #[.int .i64 a1, .int .i64 b1] 24)) := ((Nw.refl _).alloc _).alloc _
  go_enter Tryd.func6, Tryd.ntmps6
  go_wp2_with fail
  refine (lives_ok _).mono ?_
  rintro e w' ⟨rfl, hg⟩
  (first | (replace hG := Nw.trans hG hg; clear hc hf) | have hG := hg)
  clear hg
  obtain ⟨hc, hf⟩ := hG.rules
  go_wp2_with fail
  refine (anc_none _ _ _ h.out).mono ?_
  rintro e w' ⟨rfl, hg⟩
  (first | (replace hG := Nw.trans hG hg; clear hc hf) | have hG := hg)
  clear hg
  obtain ⟨hc, hf⟩ := hG.rules
  go_wp2_with fail
  refine (parent_none _ _ _ h.out).mono ?_
  rintro e w' ⟨rfl, hg⟩
  (first | (replace hG := Nw.trans hG hg; clear hc hf) | have hG := hg)
  clear hg
  obtain ⟨hc, hf⟩ := hG.rules
  have q0 : ∀ o, (w'.alloc o).cell? ⟨w.heap.size, 0, none⟩ = some (.int .i64 a0) := fun _ => ((Nw.refl _).alloc _).keep (by simp [hc, go_sem])
  have q1 : ∀ o, (w'.alloc o).cell? ⟨w.heap.size, 1, none⟩ = some (.int .i64 b0) := fun _ => ((Nw.refl _).alloc _).keep (by simp [hc, go_sem])
  clear hc hf
  go_wp2_with fail
  refine (level_val _ _ L _ hL.out).mono ?_
  rintro e w4 ⟨rfl, g4⟩
  have m0 : w4.cell? ⟨w'.heap.size, 0, none⟩ = some (.int .i64 0) := g4.keep (by simp [go_sem])
  have m1 : w4.cell? ⟨w'.heap.size, 1, none⟩ = some (.int .i64 0) := g4.keep (by simp [go_sem])
  go_wp2
  go_ret
  exact ⟨rfl, ((hW0.trans hG).alloc _).trans g4⟩
end Go.Proofs.YtdcjhjmbfpkigaaDoor.nameAbove
