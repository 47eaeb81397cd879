
/- An argument that is a slice of names. -/
import Derived.Test.YtcffpbikjeimgaaDoorNameB
import Derived.Test.YtcffpbikjeimgaaDoorWrap
import Derived.Deep.SlicePairs
namespace Go.Proofs.YtcffpbikjeimgaaDoor
open Go.ChangeShapes Go.WideShapes Go.ChangeAt Go.RowKit Go.Deep

/-- A value that is the list. -/
def Names (w : World) (v : Value) (zs : List (Int × Int)) : Prop := ∃ a c, v = .slice a zs.length c ∧ ((zs = [] ∧ (a = none → c = 0)) ∨ ∃ b o, a = some ⟨b, o, none⟩ ∧ NCells w b o zs)
theorem Names.grown {w w' : World} {v : Value} {zs : List (Int × Int)} (h : Names w v zs) (g : Nw w w') : Names w' v zs := by
  obtain ⟨a, c, e, h⟩ := h
  exact ⟨a, c, e, h.imp id fun ⟨b, o, e2, hn⟩ => ⟨b, o, e2, hn.grown g⟩⟩
theorem laidOut : laidOutB Tryd.prog = true := by kernel_rfl

section
variable {H : Type} {enc : TypeId × Value → H} {w : World} {base : Nat} {spare : Nat → Bool} {held : Bool}
set_option maxRecDepth 100000 in
theorem open_names {v : Value} {d : DataW H} {p : List MemPlace} {r : Reach} {b0 : Nat} (hv : Value.okWide Tryd.prog w r b0 34 v) (h : DataW.Trod enc Tryd.prog w base spare held 34 v d p) :
    ∃ (a : Option Addr) (len c : Nat) (zs : List (Int × Int)), v = .slice a len c ∧ zs.length = len ∧ len ≤ c ∧ c ≤ maxLen ∧ Names w v zs := by
  obtain ⟨a, len, c, rfl⟩ := okWide_slice Tryd.underlying34 hv
  obtain ⟨fuel, hf⟩ := h
  rcases open_slice_pairs Tryd.underlying34 Tryd.underlying24 cellsName rfl rfl (by kernel_rfl) (by kernel_rfl) hf with ⟨hcs, _⟩ | ⟨x, l, k, m, n, V0, V1, D0, D1, P0, P1, hcs, _, hl, hm, hmm, _, hx⟩
  · simp [Value.cells] at hcs
    obtain ⟨rfl, rfl, rfl⟩ := hcs
    exact ⟨none, 0, 0, [], rfl, rfl, Nat.le_refl _, by unfold maxLen; omega, none, 0, rfl, .inl ⟨rfl, fun _ => rfl⟩⟩
  · simp [Value.cells] at hcs
    obtain ⟨rfl, rfl, rfl⟩ := hcs
    have hlm : len ≤ m := by rw [hmm]; split <;> omega
    have each : ∀ i, i < len → ∃ q : Int × Int, w.cell? (x.add (i * 2)) = some (.int .i64 q.1) ∧ w.cell? (x.add (i * 2 + 1)) = some (.int .i64 q.2) := fun i hi => by
      obtain ⟨c0, c1, t0, t1⟩ := hx i (by omega)
      obtain ⟨a0, e0, _, _⟩ := DataW.trod_int Tryd.underlying3 t0
      obtain ⟨a1, e1, _, _⟩ := DataW.trod_int Tryd.underlying3 t1
      simp at e0 e1
      exact ⟨(a0, a1), by rw [c0, e0], by rw [c1, e1]⟩
    obtain ⟨q, hq⟩ := choose_lt each
    have hlen : ((List.range len).map q).length = len := by simp
    refine ⟨some x, len, c, (List.range len).map q, rfl, hlen, hl, hm, some x, c, by rw [hlen], ?_⟩
    rcases Nat.eq_zero_or_pos len with h0 | h0
    · subst h0
      exact .inl ⟨rfl, fun e => by cases e⟩
    · obtain ⟨b, o, spot⟩ := x
      have hs : spot = none := by simpa [Addr.add] using World.cell?_spot (hq 0 h0).1
      subst hs
      refine .inr ⟨b, o, rfl, ?_, fun i hi => ?_⟩
      · have := (hq 0 h0).1
        rw [Addr.add_lit] at this
        exact World.block_lt_of_cell? _ _ this
      · rw [hlen] at hi
        obtain ⟨e0, e1⟩ := hq i hi
        rw [Addr.add_lit] at e0 e1
        simp only [List.getElem_map, List.getElem_range]
        exact ⟨e0, by rw [Nat.add_assoc]; exact e1⟩
end
end Go.Proofs.YtcffpbikjeimgaaDoor
