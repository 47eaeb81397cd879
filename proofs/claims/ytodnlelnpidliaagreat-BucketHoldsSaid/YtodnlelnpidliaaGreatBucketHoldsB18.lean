/- Texts merged: QsA -/
import Derived.Test.YtodnlelnpidliaaGreatBucketHoldsB17

/- symMergeCmpFunc of ints on a row that stands in order already: nothing moves. -/
section
namespace Go.Proofs.YtodnlelnpidliaaGreat
open Go.RowKit
set_option linter.unusedVariables false      -- a contract need not use every name

/-- What is known of the row, of the comparison. -/
structure SmH (w : World) (gf : Nat) (lb : Array Value) (g n a b : Nat) (l : List Int) : Prop where
  eg : ∀ args w, (callFunc gf args).run Tryz.prog w = .ok (.enter gf args) w
  cell : ∀ i z, i < n → Nw w z → z.cell? ⟨g, i, none⟩ = some (.int .i64 (l.getD i 0))
  call : ∀ i j, a ≤ i → i < j → j < b → ∃ v : Int, decide (v < 0) = false ∧ ∀ z, Nw w z → Calls Tryz.prog gf (#[.int .i64 (l.getD j 0), .int .i64 (l.getD i 0)] ++ lb) z fun e w' => e = .returned (.int .i64 v) ∧ Nw z w'
theorem SmH.sub {w w' : World} {gf : Nat} {lb : Array Value} {g n a b a' b' : Nat} {l : List Int} (h : SmH w gf lb g n a b l) (ha : a ≤ a') (hb : b' ≤ b) (hN : Nw w w') : SmH w' gf lb g n a' b' l :=
  ⟨h.eg, fun i z hi hz => h.cell i z hi (hN.trans hz), fun i j h1 h2 h3 => by
    obtain ⟨v, dz, hc⟩ := h.call i j (by omega) h2 (by omega)
    exact ⟨v, dz, fun z hz => hc z (hN.trans hz)⟩⟩
theorem sum_nat (x y : Nat) (hx : x ≤ 2000) (hy : y ≤ 2000) : IntKind.i64.wrap ((x : Int) + (y : Int)) = ((x + y : Nat) : Int) := by rw [IntKind.wrap_i64]; omega
theorem sub_nat (x y z : Nat) (hx : x ≤ 4000) (hz : x = y + z) : IntKind.i64.wrap ((x : Int) - (y : Int)) = (z : Int) := by rw [IntKind.wrap_i64]; omega
theorem one_nat (x z : Nat) (hx : x ≤ 4000) (hz : x = z + 1) : IntKind.i64.wrap ((x : Int) - 1) = (z : Int) := by rw [IntKind.wrap_i64]; omega
theorem suc_nat (x z : Nat) (hx : x ≤ 4000) (hz : z = x + 1) : IntKind.i64.wrap ((x : Int) + 1) = (z : Int) := by rw [IntKind.wrap_i64]; omega
end Go.Proofs.YtodnlelnpidliaaGreat
end
