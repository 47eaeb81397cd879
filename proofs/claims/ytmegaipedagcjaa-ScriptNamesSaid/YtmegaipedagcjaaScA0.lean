
/- Op: shapes, conditions, argUnless. -/
import Derived.Test.YtmegaipedagcjaaScM
import Derived.Test.YtmegaipedagcjaaTch
import Derived.Test.YtmegaipedagcjaaRegion
import Derived.Deep.RegionHeld3
namespace Go.Proofs.Ytmegaipedagcjaa
open Go.RowKit

/-- What cells hold: a condition on worlds that lasts through new blocks. -/
def CV (w : World) (l : List (Nat × Nat × Value)) (w' : World) : Prop := (∀ x ∈ l, w'.cell? ⟨x.1, x.2.1, none⟩ = some x.2.2) ∧ Nw w w'
theorem Nw.keep' {a b : World} (g : Nw a b) {k o : Nat} {v : Value} (h : a.cell? ⟨k, o, none⟩ = some v) : b.cell? ⟨k, o, none⟩ = some v :=
  (g.cell (World.block_lt_of_cell? _ _ h)).trans h
theorem CV.step {w : World} {l : List (Nat × Nat × Value)} (x y : World) (h : CV w l x) (g : Nw x y) : CV w l y := ⟨fun z hz => g.keep' (h.1 z hz), h.2.trans g⟩
theorem CV.step' {w : World} {l : List (Nat × Nat × Value)} {x y : World} (g : Nw x y) (h : CV w l x) : CV w l y := CV.step x y h g
theorem CV.at {w x : World} {l : List (Nat × Nat × Value)} (h : CV w l x) (b o : Nat) (v : Value) (hm : (b, o, v) ∈ l) : x.cell? ⟨b, o, none⟩ = some v := h.1 _ hm
theorem CV.nil {w x : World} (g : Nw w x) : CV w [] x := ⟨fun z hz => by simp at hz, g⟩
theorem CV.cons {w x : World} {l : List (Nat × Nat × Value)} {b o : Nat} {v : Value} (h : CV w l x) (h0 : x.cell? ⟨b, o, none⟩ = some v) : CV w ((b, o, v) :: l) x :=
  ⟨fun z hz => by
    rcases List.mem_cons.1 hz with rfl | hz
    · exact h0
    · exact h.1 z hz, h.2⟩

def bwV (b : Bw) : Value := .agg #[.int .i64 b.1, .int .i64 b.2]
def shV (s : Sh) : Value := .agg #[.int .i64 s.1.1, .int .i64 s.1.2, .int .i64 s.2.1.1, .int .i64 s.2.1.2, .int .i64 s.2.2.1.1, .int .i64 s.2.2.1.2, .int .i64 s.2.2.2.1, .int .i64 s.2.2.2.2]
abbrev odV (o : Od) : Value := .agg #[.int .i64 o.1, .int .i64 o.2.1, .int .i64 o.2.2.1, .int .i64 o.2.2.2.1, .int .i64 o.2.2.2.2.1, .int .i64 o.2.2.2.2.2]
theorem Nw.set' {w a : World} (h : Nw w a) {p : Addr} (hp : w.heap.size ≤ p.block) (u : Value) : Nw w (a.setCell p u) := Below.setCell h hp u
set_option maxHeartbeats 1000000 in
theorem shapeOf_is (k : Int) (w : World) (hk : 1 ≤ k ∧ k ≤ 11) : Calls Try.prog 31 #[.int .i64 k] w fun e w' => e = .returned (.tuple #[shV (shp k).1, .bool (shp k).2]) ∧ Nw w w' := by
  have : k = 1 ∨ k = 2 ∨ k = 3 ∨ k = 4 ∨ k = 5 ∨ k = 6 ∨ k = 7 ∨ k = 8 ∨ k = 9 ∨ k = 10 ∨ k = 11 := by omega
  rcases this with rfl | rfl | rfl | rfl | rfl | rfl | rfl | rfl | rfl | rfl | rfl
  all_goals
    clear hk
    go_enter Try.func31, Try.ntmps31
    go_wp2
    exact bodyPost_ret (v := .tuple #[shV (shp _).1, .bool (shp _).2]) (by simp [results, Try.results31, go_sem, *, shV, shp, sh0, shR, shW, shS, shL, shU]) rfl ⟨rfl, (by repeat' (first | exact Nw.refl _ | refine Nw.alloc ?_ _ | refine Nw.set' ?_ (by simp <;> omega) _ | refine Nw.drewN ?_ _))⟩
theorem shapeOf_no (k : Int) (w : World) (hk : k < 1 ∨ 11 < k) : Calls Try.prog 31 #[.int .i64 k] w fun e w' => e = .returned (.tuple #[shV sh0, .bool false]) ∧ Nw w w' := by
  have e1 : (k == 1) = false := by simp; omega
  have e2 : (k == 2) = false := by simp; omega
  have e3 : (k == 3) = false := by simp; omega
  have e4 : (k == 4) = false := by simp; omega
  have e5 : (k == 5) = false := by simp; omega
  have e6 : (k == 6) = false := by simp; omega
  have e7 : (k == 7) = false := by simp; omega
  have e8 : (k == 8) = false := by simp; omega
  have e9 : (k == 9) = false := by simp; omega
  have e10 : (k == 10) = false := by simp; omega
  have e11 : (k == 11) = false := by simp; omega
  clear hk
  go_enter Try.func31, Try.ntmps31
  go_wp2
  exact bodyPost_ret (v := .tuple #[shV sh0, .bool false]) (by simp [results, Try.results31, go_sem, *, shV, sh0]) rfl ⟨rfl, (by repeat' (first | exact Nw.refl _ | refine Nw.alloc ?_ _ | refine Nw.set' ?_ (by simp <;> omega) _ | refine Nw.drewN ?_ _))⟩
theorem shapeOf_any (k : Int) (w : World) : Calls Try.prog 31 #[.int .i64 k] w fun e w' => e = .returned (.tuple #[shV (shp k).1, .bool (shp k).2]) ∧ Nw w w' := by
  by_cases hk : 1 ≤ k ∧ k ≤ 11
  · exact shapeOf_is k w hk
  · rcases shp_cases k with ⟨h, e⟩ | ⟨h, e⟩ | ⟨h, e⟩ | ⟨h, e⟩ | ⟨h, e⟩ | ⟨h, e⟩ | ⟨h, e⟩
    · omega
    · omega
    · omega
    · omega
    · omega
    · omega
    · rw [e]; exact shapeOf_no k w h

end Go.Proofs.Ytmegaipedagcjaa
