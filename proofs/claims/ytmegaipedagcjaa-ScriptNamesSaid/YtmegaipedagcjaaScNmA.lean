
/- The law's own script. -/
import Derived.Test.YtmegaipedagcjaaScX
import Derived.Test.YtmegaipedagcjaaScS
import Derived.Test.YtmegaipedagcjaaScV
import Derived.Test.YtmegaipedagcjaaNameB
namespace Go.Proofs.Ytmegaipedagcjaa
open Go.RowKit

theorem ocells_heap {w : World} {b : Nat} {T : TypeId} {c : Array Value} (l : List Od) (h : w.heap[b]? = some (.cells c T (0, 0))) (hc : c = (orows l).toArray) : OCells w b 0 l := by
  subst hc
  refine ⟨heap_lt h, fun k hk => ?_⟩
  have key : ∀ j, j < 6 → w.cell? ⟨b, 0 + k * 6 + j, none⟩ = (orow l[k])[j]? := fun j hj => by
    rw [heap_cell h, Nat.zero_add, List.getElem?_toArray]
    exact flat_get orow 6 (fun _ => rfl) l k hk j hj
  exact ⟨key 0 (by omega), key 1 (by omega), key 2 (by omega), key 3 (by omega), key 4 (by omega), key 5 (by omega)⟩
theorem pcells_heap {w : World} {b : Nat} {T : TypeId} {c : Array Value} (l : List (Int × Int)) (h : w.heap[b]? = some (.cells c T (0, 0))) (hc : c = (prows l).toArray) : PCells w b 0 l := by
  subst hc
  refine ⟨heap_lt h, fun k hk => ?_⟩
  have key : ∀ j, j < 2 → w.cell? ⟨b, 0 + k * 2 + j, none⟩ = (prow l[k])[j]? := fun j hj => by
    rw [heap_cell h, Nat.zero_add, List.getElem?_toArray]
    exact flat_get prow 2 (fun _ => rfl) l k hk j hj
  exact ⟨key 0 (by omega), key 1 (by omega)⟩
theorem small_cells (w w' : World) (c : Array Value) (T : TypeId) (hn : Nw (w.alloc (.cells c T)) w') (o1 o2 o3 : Obj) (j : Nat) :
    (((w'.alloc o1).alloc o2).alloc o3).cell? ⟨w.heap.size, j, none⟩ = c[j]? ∧ (((w'.alloc o1).alloc o2).alloc o3).frozen? ⟨w.heap.size, j, none⟩ = false := by
  have h := ((hn.alloc o1).alloc o2).alloc o3
  have hb : (((w'.alloc o1).alloc o2).alloc o3).heap[w.heap.size]? = some (.cells c T (0, 0)) := (h.block _ (by simp)).trans (heap_alloc_last w _)
  exact ⟨heap_cell hb, heap_fz hb⟩
/-- The law's own script. -/
abbrev smT0 : List Od := [(1, -1, -1, 0, 0, 0), (3, 1, 2, 0, 9, 5)]
abbrev smT1 : List Od := [(9, 3, -1, 4, 0, 0)]
def smS : PS := ⟨[smT0, smT1], [(1, 1), (2, 200)], (2, 3, 4, 0)⟩
/-- It lies in memory. -/
structure SmAt (z : World) (b5 b8 b9 b12 : Nat) : Prop where
  h9 : z.heap[b9]? = some (.cells #[.slice (some ⟨b5, 0, none⟩) 2 2, .slice (some ⟨b8, 0, none⟩) 1 1] 41 (0, 0))
  h12 : z.heap[b12]? = some (.cells #[.int .i64 1, .int .i64 1, .int .i64 2, .int .i64 200] 59 (0, 0))
  h5 : z.heap[b5]? = some (.cells #[.int .i64 1, .int .i64 (-1), .int .i64 (-1), .int .i64 0, .int .i64 0, .int .i64 0, .int .i64 3, .int .i64 1, .int .i64 2, .int .i64 0, .int .i64 9, .int .i64 5] 37 (0, 0))
  h8 : z.heap[b8]? = some (.cells #[.int .i64 9, .int .i64 3, .int .i64 (-1), .int .i64 4, .int .i64 0, .int .i64 0] 37 (0, 0))
theorem SmAt.nw {a z : World} {b5 b8 b9 b12 : Nat} (h : SmAt a b5 b8 b9 b12) (g : Nw a z) : SmAt z b5 b8 b9 b12 :=
  ⟨(g.block _ (heap_lt h.h9)).trans h.h9, (g.block _ (heap_lt h.h12)).trans h.h12, (g.block _ (heap_lt h.h5)).trans h.h5, (g.block _ (heap_lt h.h8)).trans h.h8⟩
theorem SmAt.at' {z : World} {b5 b8 b9 b12 : Nat} (h : SmAt z b5 b8 b9 b12) : ScAt z (.slice (some ⟨b9, 0, none⟩) 2 2) (.slice (some ⟨b12, 0, none⟩) 2 2) smS := by
  refine ⟨⟨_, _, rfl, .inr ⟨b9, 0, rfl, heap_lt h.h9, fun k hk => ?_⟩⟩, ⟨_, _, rfl, .inr ⟨b12, 0, rfl, pcells_heap [(1, 1), (2, 200)] h.h12 rfl⟩⟩⟩
  have hk2 : k < 2 := hk
  rw [heap_cell h.h9]
  rcases (by omega : k = 0 ∨ k = 1) with rfl | rfl
  · exact ⟨_, rfl, _, _, rfl, .inr ⟨b5, 0, rfl, ocells_heap smT0 h.h5 rfl⟩⟩
  · exact ⟨_, rfl, _, _, rfl, .inr ⟨b8, 0, rfl, ocells_heap smT1 h.h8 rfl⟩⟩
theorem alloc_old (w : World) (o : Obj) {b : Nat} {x : Obj} (h : w.heap[b]? = some x) : (w.alloc o).heap[b]? = some x := (Below.heap_alloc _ _ _ (heap_lt h)).trans h
theorem small_end (w w2 w3 : World) (c0 : Array Value) (T0 : TypeId) (v0 v1 v2 v3 v4 v5 : Value) (h2 : Nw (w.alloc (.cells c0 T0)) w2)
    (h3 : Nw (w2.alloc (.cells #[.int .i64 1, .int .i64 (-1), .int .i64 (-1), .int .i64 0, .int .i64 0, .int .i64 0, .int .i64 3, .int .i64 1, .int .i64 2, .int .i64 0, .int .i64 9, .int .i64 5] 37)) w3) :
    SmAt (fin6 (((w3.alloc (.cells #[.int .i64 9, .int .i64 3, .int .i64 (-1), .int .i64 4, .int .i64 0, .int .i64 0] 37)).alloc (.cells #[.slice (some ⟨w2.heap.size, 0, none⟩) 2 2, .slice (some ⟨w3.heap.size, 0, none⟩) 1 1] 41)).alloc
      (.cells #[.int .i64 1, .int .i64 1, .int .i64 2, .int .i64 200] 59)) w.heap.size v0 v1 v2 v3 v4 v5) w2.heap.size w3.heap.size (w3.heap.size + 1) (w3.heap.size + 1 + 1) ∧
    Nw w (fin6 (((w3.alloc (.cells #[.int .i64 9, .int .i64 3, .int .i64 (-1), .int .i64 4, .int .i64 0, .int .i64 0] 37)).alloc (.cells #[.slice (some ⟨w2.heap.size, 0, none⟩) 2 2, .slice (some ⟨w3.heap.size, 0, none⟩) 1 1] 41)).alloc
      (.cells #[.int .i64 1, .int .i64 1, .int .i64 2, .int .i64 200] 59)) w.heap.size v0 v1 v2 v3 v4 v5) := by
  obtain ⟨a1, ha1⟩ : ∃ a1, w3.alloc (.cells #[.int .i64 9, .int .i64 3, .int .i64 (-1), .int .i64 4, .int .i64 0, .int .i64 0] 37) = a1 := ⟨_, rfl⟩
  have s1 : a1.heap.size = w3.heap.size + 1 := by rw [← ha1]; simp
  have h8 : a1.heap[w3.heap.size]? = some (.cells #[.int .i64 9, .int .i64 3, .int .i64 (-1), .int .i64 4, .int .i64 0, .int .i64 0] 37 (0, 0)) := by rw [← ha1]; exact heap_alloc_last _ _
  have h5 := alloc_old w3 (.cells #[.int .i64 9, .int .i64 3, .int .i64 (-1), .int .i64 4, .int .i64 0, .int .i64 0] 37) ((h3.block _ (by simp)).trans (heap_alloc_last w2 _))
  have hn1 : Nw w a1 := by rw [← ha1]; exact ((((Nw.refl w).alloc _).trans h2).trans (((Nw.refl w2).alloc _).trans h3)).alloc _
  have hlt2 : w.heap.size < w2.heap.size := by have := h2.sz; simp at this; omega
  have hlt3 : w2.heap.size < w3.heap.size := by have := h3.sz; simp at this; omega
  rw [ha1] at h5 ⊢
  clear ha1
  obtain ⟨a2, ha2⟩ : ∃ a2, a1.alloc (.cells #[.slice (some ⟨w2.heap.size, 0, none⟩) 2 2, .slice (some ⟨w3.heap.size, 0, none⟩) 1 1] 41) = a2 := ⟨_, rfl⟩
  have s2 : a2.heap.size = w3.heap.size + 1 + 1 := by rw [← ha2]; simp [s1]
  have h9 : a2.heap[w3.heap.size + 1]? = some (.cells #[.slice (some ⟨w2.heap.size, 0, none⟩) 2 2, .slice (some ⟨w3.heap.size, 0, none⟩) 1 1] 41 (0, 0)) := by rw [← ha2, ← s1]; exact heap_alloc_last _ _
  have k8 := alloc_old a1 (.cells #[.slice (some ⟨w2.heap.size, 0, none⟩) 2 2, .slice (some ⟨w3.heap.size, 0, none⟩) 1 1] 41) h8
  have k5 := alloc_old a1 (.cells #[.slice (some ⟨w2.heap.size, 0, none⟩) 2 2, .slice (some ⟨w3.heap.size, 0, none⟩) 1 1] 41) h5
  have hn2 : Nw w a2 := by rw [← ha2]; exact hn1.alloc _
  rw [ha2] at k8 k5 ⊢
  clear ha2 h8 h5
  obtain ⟨a3, ha3⟩ : ∃ a3, a2.alloc (.cells #[.int .i64 1, .int .i64 1, .int .i64 2, .int .i64 200] 59) = a3 := ⟨_, rfl⟩
  have h12 : a3.heap[w3.heap.size + 1 + 1]? = some (.cells #[.int .i64 1, .int .i64 1, .int .i64 2, .int .i64 200] 59 (0, 0)) := by rw [← ha3, ← s2]; exact heap_alloc_last _ _
  have m9 := alloc_old a2 (.cells #[.int .i64 1, .int .i64 1, .int .i64 2, .int .i64 200] 59) h9
  have m8 := alloc_old a2 (.cells #[.int .i64 1, .int .i64 1, .int .i64 2, .int .i64 200] 59) k8
  have m5 := alloc_old a2 (.cells #[.int .i64 1, .int .i64 1, .int .i64 2, .int .i64 200] 59) k5
  have hn3 : Nw w a3 := by rw [← ha3]; exact hn2.alloc _
  rw [ha3] at m9 m8 m5 ⊢
  clear ha3 h9 k8 k5
  have hg := fin6_grown a3 w.heap.size v0 v1 v2 v3 v4 v5
  have old : ∀ {b : Nat} {x : Obj}, b ≠ w.heap.size → a3.heap[b]? = some x → (fin6 a3 w.heap.size v0 v1 v2 v3 v4 v5).heap[b]? = some x := fun hb h => (hg.block _ (heap_lt h) (fun e => hb (Option.some.inj e))).trans h
  refine ⟨⟨old (by omega) m9, old (by omega) h12, old (by omega) m5, old (by omega) m8⟩, ?_⟩
  exact Below.grown hn3 hg hn3.sz (fun k hk => Nat.le_of_eq (Option.some.inj hk))
theorem small_res (w w3 : World) (c0 : Array Value) (T0 : TypeId) (v0 v1 v2 v3 v4 v5 : Value) (hn : Nw (w.alloc (.cells c0 T0)) w3) (o1 o2 o3 : Obj) (hc : c0.size = 6) (j : Nat) :
    (fin6 (((w3.alloc o1).alloc o2).alloc o3) w.heap.size v0 v1 v2 v3 v4 v5).cell? ⟨w.heap.size, j, none⟩ = #[v0, v1, v2, v3, v4, v5][j]? := by
  have h := ((hn.alloc o1).alloc o2).alloc o3
  have hb : (((w3.alloc o1).alloc o2).alloc o3).heap[w.heap.size]? = some (.cells c0 T0 (0, 0)) := (h.block _ (by simp)).trans (heap_alloc_last w _)
  obtain ⟨z0, z1, z2, z3, z4, z5, hz⟩ := len6 (cs := c0.toList) (by simpa using hc)
  have e : c0 = #[z0, z1, z2, z3, z4, z5] := by rw [← hz]
  rw [e] at hb
  exact heap_cell (fin6_heap v0 v1 v2 v3 v4 v5 hb)
set_option linter.unusedVariables false
set_option maxRecDepth 100000 in
set_option maxHeartbeats 2000000 in
theorem small_any (w : World) : Calls Try.prog 9 #[] w fun e z => ∃ b5 b8 b9 b12, e = .returned (.agg #[.slice (some ⟨b9, 0, none⟩) 2 2, .slice (some ⟨b12, 0, none⟩) 2 2, .int .i64 2, .int .i64 3, .int .i64 4, .int .i64 0]) ∧
    SmAt z b5 b8 b9 b12 ∧ Nw w z := by
  go_enter Try.func9, Try.ntmps9
  go_wp2_with (first | (go_at_call 11; refine (kitDB_any _).mono ?_; rintro e w1 ⟨rfl, hg1⟩) | (go_at_call 13; refine (kitR_any _ _ _).mono ?_; rintro e w2 ⟨rfl, hg2⟩) | (go_at_call 12; refine (kitT_any _ _).mono ?_; rintro e w3 ⟨rfl, hg3⟩; have p := fun o1 o2 o3 j => (small_cells w w3 _ _ ((hg1.trans hg2).trans ((((Nw.refl _).alloc _)).trans hg3)) o1 o2 o3 j).1; have q := fun o1 o2 o3 j => (small_cells w w3 _ _ ((hg1.trans hg2).trans ((((Nw.refl _).alloc _)).trans hg3)) o1 o2 o3 j).2))
  clear p q
  have hA := small_end w w2 w3 _ _ (.slice (some ⟨w3.heap.size + 1, 0, none⟩) 2 2) (.slice (some ⟨w3.heap.size + 1 + 1, 0, none⟩) 2 2) (.int .i64 2) (.int .i64 3) (.int .i64 4) (.int .i64 0) (hg1.trans hg2) hg3
  have hR := fun o1 o2 o3 j => small_res w w3 _ _ (.slice (some ⟨w3.heap.size + 1, 0, none⟩) 2 2) (.slice (some ⟨w3.heap.size + 1 + 1, 0, none⟩) 2 2) (.int .i64 2) (.int .i64 3) (.int .i64 4) (.int .i64 0) ((hg1.trans hg2).trans (((Nw.refl _).alloc _).trans hg3)) o1 o2 o3 rfl j
  unfold fin6 at hA hR
  have p0 := fun o1 o2 o3 => hR o1 o2 o3 0
  have p1 := fun o1 o2 o3 => hR o1 o2 o3 1
  have p2 := fun o1 o2 o3 => hR o1 o2 o3 2
  have p3 := fun o1 o2 o3 => hR o1 o2 o3 3
  have p4 := fun o1 o2 o3 => hR o1 o2 o3 4
  have p5 := fun o1 o2 o3 => hR o1 o2 o3 5
  clear hR hg1 hg2 hg3
  have hz := Lib.hid hA
  clear hA
  simp at p0 p1 p2 p3 p4 p5
  exact bodyPost_ret (v := .agg #[.slice (some ⟨w3.heap.size + 1, 0, none⟩) 2 2, .slice (some ⟨w3.heap.size + 1 + 1, 0, none⟩) 2 2, .int .i64 2, .int .i64 3, .int .i64 4, .int .i64 0])
    (by simp [results, Try.results9, go_sem, p0, p1, p2, p3, p4, p5]) rfl ⟨_, _, _, _, rfl, hz.out.1, hz.out.2⟩
end Go.Proofs.Ytmegaipedagcjaa
