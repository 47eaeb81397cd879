
/- Plain facts for StripeTurns. -/
import Derived.Test.YtcffpbikjeimgaaDoorStripeAllW
namespace Go.Proofs.YtcffpbikjeimgaaDoor.stripeTurns
open Go.ChangeShapes Go.WideShapes Go.ChangeAt Go.RowKit
open Go.Proofs.YtcffpbikjeimgaaDoor.stripeAll (spread_nat Names.at)
set_option linter.unusedVariables false      -- a walk need not use every fact
/-- A Spread that lies ahead. -/
abbrev Sprd (W : World) (v : Value) (zs : List (Int × Int)) (N : Nat) : Prop := ∀ w, Nw W w → Calls Tryd.prog 13 #[v, .int .i64 N] w fun e w' => ∃ b, e = .returned (.slice (some ⟨b, 0, none⟩) N N) ∧ ICells w' b 0 (cnts zs N) ∧ w.heap.size ≤ b ∧ Nw w w'
theorem sprd_of {W : World} {v : Value} {zs : List (Int × Int)} {N : Nat} (hv : Names W v zs) (hl : zs.length ≤ 1000) (h0 : 1 ≤ N) (h1 : N ≤ 16) : Sprd W v zs N :=
  fun w g => spread_nat v zs N w (hv.grown g) hl h0 h1
theorem halves (zs : List (Int × Int)) (K : Nat) (N : Nat) (i : Nat) (hi : i < N) : (cnts (zs.take K) N).getD i 0 + (cnts (zs.drop K) N).getD i 0 = (cnts zs N).getD i 0 := by
  rw [cnts_at _ _ i (by simpa using hi), cnts_at _ _ i (by simpa using hi), cnts_at _ _ i (by simpa using hi)]
  have := many_app (zs.take K) (zs.drop K) N i
  rw [List.take_append_drop] at this
  omega
theorem half_mod (t r : Int) (N : Nat) (h0 : 1 ≤ N) (h1 : N ≤ 8) (h : lvl t r ≠ -1) : (ofS t r (2 * N)).tmod N = ofS t r N := by
  rw [ofS_yes t r _ (by omega) (by omega) h, ofS_yes t r _ (by omega) (by omega) h]
  rw [Int.tmod_eq_emod_of_nonneg (Int.emod_nonneg _ (by omega))]
  exact Int.emod_emod_of_dvd _ ⟨2, by omega⟩
/-- A condition, under a name of its own. -/
def Held (S : World → Prop) (x : World) : Prop := S x
theorem cl (l : List (Int × Int)) (N : Nat) : (cnts l N).length = N := by rw [cnts_len]; simp
theorem two_step {W a b : World} {p q : Addr} {u v : Value} (g : Nw a b) (h : (a.cell? ⟨p.block, p.off, none⟩ = some u ∧ a.cell? ⟨q.block, q.off, none⟩ = some v) ∧ Nw W a) : (b.cell? ⟨p.block, p.off, none⟩ = some u ∧ b.cell? ⟨q.block, q.off, none⟩ = some v) ∧ Nw W b :=
  ⟨⟨g.keep h.1.1, g.keep h.1.2⟩, h.2.trans g⟩
theorem pair_step {W a b : World} {k i j k' i' j' : Nat} {u v u' v' : Value} (g : Nw a b) (h : ((a.cell? ⟨k, i, none⟩ = some u ∧ a.cell? ⟨k, j, none⟩ = some v) ∧ (a.cell? ⟨k', i', none⟩ = some u' ∧ a.cell? ⟨k', j', none⟩ = some v')) ∧ Nw W a) :
    ((b.cell? ⟨k, i, none⟩ = some u ∧ b.cell? ⟨k, j, none⟩ = some v) ∧ (b.cell? ⟨k', i', none⟩ = some u' ∧ b.cell? ⟨k', j', none⟩ = some v')) ∧ Nw W b :=
  ⟨⟨⟨g.keep h.1.1.1, g.keep h.1.1.2⟩, ⟨g.keep h.1.2.1, g.keep h.1.2.2⟩⟩, h.2.trans g⟩
end Go.Proofs.YtcffpbikjeimgaaDoor.stripeTurns
