
/- What the walks are told of a slice of acts that came in; acts opened. -/
import Derived.Test.YtloendfkfginjaaLtS
import Derived.WalkKit
import Derived.ProofKit
import Derived.OpenShut
import Derived.ShutString
import Derived.ChangeOld
import Derived.Below
import Derived.Deep.Slices
namespace Go.Proofs.Ytloendfkfginjaa
open Go.ChangeShapes Go.WideShapes Go.ChangeAt Go.RowKit

def IsActs (w : World) (a : Option Addr) (len cap : Nat) (f : Nat → Nat → Int) : Prop :=
  (a = none ∧ len = 0 ∧ cap = 0) ∨ ∃ x, a = some x ∧ len ≤ cap ∧ cap ≤ maxLen ∧ ∀ i j, i < cap → j < 3 → w.cell? (x.add (i * 3 + j)) = some (.int .i64 (f i j)) ∧ (Lit.int .i64 (f i j)).wf = true
theorem IsActs.at {w : World} {a : Option Addr} {len cap : Nat} {f : Nat → Nat → Int} (h : IsActs w a len cap f) (hl : 0 < len) : ∃ b o, a = some ⟨b, o, none⟩ ∧ len ≤ maxLen ∧ b < w.heap.size ∧
    (∀ i, i < len → w.cell? ⟨b, o + i * 3, none⟩ = some (.int .i64 (f i 0)) ∧ w.cell? ⟨b, o + i * 3 + 1, none⟩ = some (.int .i64 (f i 1)) ∧ w.cell? ⟨b, o + i * 3 + 2, none⟩ = some (.int .i64 (f i 2))) := by
  rcases h with ⟨_, h0, _⟩ | ⟨x, rfl, h1, h2, h4⟩
  · omega
  · obtain ⟨b, o, spot⟩ := x
    have hs : spot = none := by simpa [Addr.add] using World.cell?_spot (h4 0 0 (by omega) (by omega)).1
    subst hs
    have hc : ∀ i j, i < len → j < 3 → w.cell? ⟨b, o + (i * 3 + j), none⟩ = some (.int .i64 (f i j)) := fun i j hi hj => by
      have := (h4 i j (by omega) hj).1
      rwa [Addr.add_lit] at this
    exact ⟨b, o, rfl, by omega, World.block_lt_of_cell? _ _ (hc 0 0 hl (by omega)), fun i hi => ⟨by simpa using hc i 0 hi (by omega), by simpa [Nat.add_assoc] using hc i 1 hi (by omega), by simpa [Nat.add_assoc] using hc i 2 hi (by omega)⟩⟩
/-- A slice of acts, opened: three numbers at each place. -/
theorem open_acts {H : Type} {enc : TypeId × Value → H} {W : World} {base fuel : Nat} {held : Bool} {cs : List Value} {x : DataW H × List MemPlace} (h : DataW.trod enc Try.prog W base (fun _ => true) held fuel 36 cs = some x) :
    cs = [.slice none 0 0] ∨ ∃ a len cap, ∃ f : Nat → Nat → Int, cs = [.slice (some a) len cap] ∧ len ≤ cap ∧ cap ≤ maxLen ∧ ∀ i j, i < cap → j < 3 → W.cell? (a.add (i * 3 + j)) = some (.int .i64 (f i j)) ∧ (Lit.int .i64 (f i j)).wf = true := by
  rcases Deep.open_slice Try.underlying36 h with h0 | ⟨a, len, cap, m, n, D, Pl, rfl, hb, hl, hm, hmm, _, hx⟩
  · exact .inl h0.1
  right
  simp only [if_true] at hmm
  subst hmm
  have ce : Try.prog.cellsOf 41 = 3 := by kernel_rfl
  have ci : Try.prog.cellsOf 3 = 1 := by kernel_rfl
  have each : ∀ i, i < m → ∃ q : Nat → Int, ∀ j, j < 3 → W.cell? (a.add (i * 3 + j)) = some (.int .i64 (q j)) ∧ (Lit.int .i64 (q j)).wf = true := by
    intro i hi
    obtain ⟨cs', h1, h2⟩ := hx i hi
    rw [ce] at h1
    obtain ⟨_, hlen, hcell⟩ := World.cells?_some h1
    obtain ⟨xs, k, hk, hxy, _, hxl, hf⟩ := DataW.trod_struct Try.underlying41 h2
    match xs, hxl, cs', hlen with
    | [y0, y1, y2], _, [v0, v1, v2], _ =>
      have g0 := hf 0 _ rfl
      have g1 := hf 1 _ rfl
      have g2 := hf 2 _ rfl
      simp [ci] at g0 g1 g2
      obtain ⟨n0, e0, _, u0⟩ := DataW.trod_int Try.underlying3 g0
      obtain ⟨n1, e1, _, u1⟩ := DataW.trod_int Try.underlying3 g1
      obtain ⟨n2, e2, _, u2⟩ := DataW.trod_int Try.underlying3 g2
      simp only [List.cons.injEq, and_true] at e0 e1 e2
      subst e0 e1 e2
      refine ⟨fun j => match j with | 0 => n0 | 1 => n1 | _ => n2, fun j hj => ?_⟩
      have c := hcell j (by omega)
      rw [Deep.add_add] at c
      match j, hj with
      | 0, _ => exact ⟨by simpa using c, u0⟩
      | 1, _ => exact ⟨by simpa using c, u1⟩
      | 2, _ => exact ⟨by simpa using c, u2⟩
  obtain ⟨q, hq⟩ := Deep.choose_lt each
  exact ⟨a, len, m, q, rfl, hl, hm, fun i j hi hj => hq i hi j hj⟩
/-- The number of latches that the laws pick. -/
theorem pick16 (n : Int) : ∃ N : Nat, 1 + n % 16 = N ∧ 1 ≤ N ∧ N ≤ 16 := ⟨(1 + n % 16).toNat, by omega, by omega, by omega⟩
theorem pickN (n : Int) (N : Nat) (h : 1 ≤ N) : ∃ k : Nat, n % (N : Int) = k ∧ k < N := by
  have h0 : 0 ≤ n % (N : Int) := Int.emod_nonneg _ (by omega)
  have h1 : n % (N : Int) < N := Int.emod_lt_of_pos _ (by omega)
  exact ⟨(n % (N : Int)).toNat, by omega, by omega⟩
theorem pick8 (n : Int) : ∃ k : Nat, n % 8 = k ∧ k < 8 := pickN n 8 (by omega)
end Go.Proofs.Ytloendfkfginjaa
