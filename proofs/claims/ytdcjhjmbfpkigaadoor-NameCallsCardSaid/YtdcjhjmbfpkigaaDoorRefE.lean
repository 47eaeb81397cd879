/- Contracts of the reference's functions on names, fifth part: Read. -/
import Derived.Test.YtdcjhjmbfpkigaaDoorRefD
namespace Go.Proofs.YtdcjhjmbfpkigaaDoor
open Go.ChangeShapes Go.WideShapes Go.ChangeAt Go.RowKit
set_option linter.unusedVariables false      -- a walk need not use every fact

theorem refNumber_val (s : ByteArray) (i : Nat) (n : Int) (j : Nat) (w : World) (hs : s.size ≤ 60) (h : numV (s.data.toList.drop i) = (n, j)) :
    Calls Tryd.prog 44 #[.string s, .int .i64 i] w fun e w' => e = .returned (.tuple #[.int .i64 n, .int .i64 ((i : Int) + (j : Nat))]) ∧ Nw w w' := by
  have := number_val s i w hs
  rw [h] at this
  exact this

set_option maxHeartbeats 1000000 in
theorem refRead_db_hit (s : ByteArray) (w : World) (hs : s.size ≤ 60) (hd : (s.toList == [100, 98]) = true) (hq : ((txt (-1) (-1)).toList == s.toList) = true) :
    Calls Tryd.prog 27 #[.string s] w fun e w' => e = .returned (.tuple #[.agg #[.int .i64 (-1), .int .i64 (-1)], .int .i64 0]) ∧ Nw w w' := by
  have h0 : Nw w (w.alloc (.cells #[.int .i64 0, .int .i64 0] 24)) := (Nw.refl _).alloc _
  have hz : (s.size : Int) ≤ 60 := by omega
  go_enter Tryd.func27, Tryd.ntmps27
  go_wp2_with fail
  refine (refDatabase_any _).mono ?_
  rintro e w1 ⟨rfl, g1⟩
  have a0 : w1.cell? ⟨w.heap.size, 0, none⟩ = some (.int .i64 0) := g1.keep (by simp [go_sem])
  have a1 : w1.cell? ⟨w.heap.size, 1, none⟩ = some (.int .i64 0) := g1.keep (by simp [go_sem])
  have b0 : w1.frozen? ⟨w.heap.size, 0, none⟩ = false := g1.keepF (v := .int .i64 0) (by simp [go_sem]) (by simp [go_sem])
  have b1 : w1.frozen? ⟨w.heap.size, 1, none⟩ = false := g1.keepF (v := .int .i64 0) (by simp [go_sem]) (by simp [go_sem])
  have al : ∀ o, Nw w1 (w1.alloc o) := fun o => (Nw.refl _).alloc o
  have c0 := fun o => (al o).keep a0
  have c1 := fun o => (al o).keep a1
  have f0 := fun o => (al o).keepF a0 b0
  have f1 := fun o => (al o).keepF a1 b1
  clear a0 a1 b0 b1
  go_wp2_with fail
  refine (refText_any _ _ _).mono ?_
  rintro e w2 ⟨rfl, hg⟩
  have g0 : w2.cell? ⟨w1.heap.size, 0, none⟩ = some (.int .i64 (-1)) := hg.keep (by simp [go_sem])
  have g9 : w2.cell? ⟨w1.heap.size, 1, none⟩ = some (.int .i64 (-1)) := hg.keep (by simp [go_sem])
  have d0 := hg.keep (c0 _)
  have d1 := hg.keep (c1 _)
  have e0 := hg.keepF (c0 _) (f0 _)
  have e1 := hg.keepF (c1 _) (f1 _)
  have hN := ((h0.trans g1).alloc _).trans hg
  clear c0 c1 f0 f1 al
  go_wp2
  exact bodyPost_ret (v := .tuple #[.agg #[.int .i64 (-1), .int .i64 (-1)], .int .i64 0]) (by simp [results, Tryd.results27, go_sem, *]) rfl ⟨rfl, ((hN.set (by simp <;> omega) _).set (by simp <;> omega) _)⟩

set_option maxHeartbeats 1000000 in
theorem refRead_short_miss (s : ByteArray) (w : World) (hs : s.size ≤ 60) (hd : (s.toList == [100, 98]) = false) (hl : (s.size : Int) ≤ 1) (hq : ((txt (-1) (-1)).toList == s.toList) = false) :
    Calls Tryd.prog 27 #[.string s] w fun e w' => e = .returned (.tuple #[.agg #[.int .i64 0, .int .i64 0], .int .i64 3]) ∧ Nw w w' := by
  have h0 : Nw w (w.alloc (.cells #[.int .i64 0, .int .i64 0] 24)) := (Nw.refl _).alloc _
  have hz : (s.size : Int) ≤ 60 := by omega
  go_enter Tryd.func27, Tryd.ntmps27
  go_wp2_with fail
  refine (refDatabase_any _).mono ?_
  rintro e w1 ⟨rfl, g1⟩
  have a0 : w1.cell? ⟨w.heap.size, 0, none⟩ = some (.int .i64 0) := g1.keep (by simp [go_sem])
  have a1 : w1.cell? ⟨w.heap.size, 1, none⟩ = some (.int .i64 0) := g1.keep (by simp [go_sem])
  have b0 : w1.frozen? ⟨w.heap.size, 0, none⟩ = false := g1.keepF (v := .int .i64 0) (by simp [go_sem]) (by simp [go_sem])
  have b1 : w1.frozen? ⟨w.heap.size, 1, none⟩ = false := g1.keepF (v := .int .i64 0) (by simp [go_sem]) (by simp [go_sem])
  have al : ∀ o, Nw w1 (w1.alloc o) := fun o => (Nw.refl _).alloc o
  have c0 := fun o => (al o).keep a0
  have c1 := fun o => (al o).keep a1
  have f0 := fun o => (al o).keepF a0 b0
  have f1 := fun o => (al o).keepF a1 b1
  clear a0 a1 b0 b1
  go_wp2_with fail
  refine (refText_any _ _ _).mono ?_
  rintro e w2 ⟨rfl, hg⟩
  have g0 : w2.cell? ⟨w1.heap.size, 0, none⟩ = some (.int .i64 (-1)) := hg.keep (by simp [go_sem])
  have g9 : w2.cell? ⟨w1.heap.size, 1, none⟩ = some (.int .i64 (-1)) := hg.keep (by simp [go_sem])
  have d0 := hg.keep (c0 _)
  have d1 := hg.keep (c1 _)
  have e0 := hg.keepF (c0 _) (f0 _)
  have e1 := hg.keepF (c1 _) (f1 _)
  have hN := ((h0.trans g1).alloc _).trans hg
  clear c0 c1 f0 f1 al
  go_wp2
  exact bodyPost_ret (v := .tuple #[.agg #[.int .i64 0, .int .i64 0], .int .i64 3]) (by simp [results, Tryd.results27, go_sem, *]) rfl ⟨rfl, ((hN.set (by simp <;> omega) _).set (by simp <;> omega) _)⟩

set_option maxHeartbeats 1000000 in
theorem refRead_tab_hit (s : ByteArray) (t : Int) (j : Nat) (w : World) (hs : s.size ≤ 60) (hd : (s.toList == [100, 98]) = false) (hl : (1 : Int) < s.size) (ht0 : 0 ≤ t) (ht1 : t < 100) (hj : j ≤ 2) (hn : Hid (numV (s.data.toList.drop 1) = (t, j))) (he : (s.size : Int) ≤ 1 + j + 2) (hq : ((txt t (-1)).toList == s.toList) = true) :
    Calls Tryd.prog 27 #[.string s] w fun e w' => e = .returned (.tuple #[.agg #[.int .i64 t, .int .i64 (-1)], .int .i64 0]) ∧ Nw w w' := by
  have h0 : Nw w (w.alloc (.cells #[.int .i64 0, .int .i64 0] 24)) := (Nw.refl _).alloc _
  have hz : (s.size : Int) ≤ 60 := by omega
  go_enter Tryd.func27, Tryd.ntmps27
  go_wp2_with fail
  refine (refDatabase_any _).mono ?_
  rintro e w1 ⟨rfl, g1⟩
  have a0 : w1.cell? ⟨w.heap.size, 0, none⟩ = some (.int .i64 0) := g1.keep (by simp [go_sem])
  have a1 : w1.cell? ⟨w.heap.size, 1, none⟩ = some (.int .i64 0) := g1.keep (by simp [go_sem])
  have b0 : w1.frozen? ⟨w.heap.size, 0, none⟩ = false := g1.keepF (v := .int .i64 0) (by simp [go_sem]) (by simp [go_sem])
  have b1 : w1.frozen? ⟨w.heap.size, 1, none⟩ = false := g1.keepF (v := .int .i64 0) (by simp [go_sem]) (by simp [go_sem])
  have al : ∀ o, Nw w1 (w1.alloc o) := fun o => (Nw.refl _).alloc o
  have c0 := fun o => (al o).keep a0
  have c1 := fun o => (al o).keep a1
  have f0 := fun o => (al o).keepF a0 b0
  have f1 := fun o => (al o).keepF a1 b1
  clear a0 a1 b0 b1
  go_wp2_with fail
  refine (refNumber_val s 1 t j _ hs hn.out).mono ?_
  rintro e w2 ⟨rfl, hg⟩
  have m0 : w2.cell? ⟨w1.heap.size, 0, none⟩ = some (.int .i64 (-1)) := hg.keep (by simp [go_sem])
  have m1 : w2.cell? ⟨w1.heap.size, 1, none⟩ = some (.int .i64 (-1)) := hg.keep (by simp [go_sem])
  have n0 : w2.frozen? ⟨w1.heap.size, 0, none⟩ = false := hg.keepF (v := .int .i64 (-1)) (by simp [go_sem]) (by simp [go_sem])
  have n1 : w2.frozen? ⟨w1.heap.size, 1, none⟩ = false := hg.keepF (v := .int .i64 (-1)) (by simp [go_sem]) (by simp [go_sem])
  have d0 := hg.keep (c0 _)
  have d1 := hg.keep (c1 _)
  have e0 := hg.keepF (c0 _) (f0 _)
  have e1 := hg.keepF (c1 _) (f1 _)
  have ne : w1.heap.size ≠ w.heap.size := by have := g1.sz; simp at this; omega
  have ne2 : w.heap.size ≠ w1.heap.size := ne.symm
  have hN := ((h0.trans g1).alloc _).trans hg
  clear c0 c1 f0 f1 al
  go_wp2_with fail
  refine (refText_any _ _ _).mono ?_
  rintro e w3 ⟨rfl, hg3⟩
  have P0hg3 : w3.cell? ⟨w1.heap.size, 0, none⟩ = some (.int .i64 t) := hg3.keep (by simp [go_sem, *])
  have F0hg3 : w3.frozen? ⟨w1.heap.size, 0, none⟩ = false := hg3.keepF (v := .int .i64 t) (by simp [go_sem, *]) (by simp [go_sem, *])
  have P1hg3 : w3.cell? ⟨w1.heap.size, 1, none⟩ = some (.int .i64 (-1)) := hg3.keep (by simp [go_sem, *])
  have F1hg3 : w3.frozen? ⟨w1.heap.size, 1, none⟩ = false := hg3.keepF (v := .int .i64 (-1)) (by simp [go_sem, *]) (by simp [go_sem, *])
  have P2hg3 : w3.cell? ⟨w.heap.size, 0, none⟩ = some (.int .i64 0) := hg3.keep (by simp [go_sem, *])
  have F2hg3 : w3.frozen? ⟨w.heap.size, 0, none⟩ = false := hg3.keepF (v := .int .i64 0) (by simp [go_sem, *]) (by simp [go_sem, *])
  have P3hg3 : w3.cell? ⟨w.heap.size, 1, none⟩ = some (.int .i64 0) := hg3.keep (by simp [go_sem, *])
  have F3hg3 : w3.frozen? ⟨w.heap.size, 1, none⟩ = false := hg3.keepF (v := .int .i64 0) (by simp [go_sem, *]) (by simp [go_sem, *])
  replace hN := ((hN.set (p := ⟨w1.heap.size, 0, none⟩) (by have := g1.sz; simp at this ⊢; omega) (.int .i64 t)).set (p := ⟨w1.heap.size, 1, none⟩) (by have := g1.sz; simp at this ⊢; omega) (.int .i64 (-1))).trans hg3
  clear m0 m1 d0 d1 n0 n1 e0 e1
  go_wp2
  exact bodyPost_ret (v := .tuple #[.agg #[.int .i64 t, .int .i64 (-1)], .int .i64 0]) (by simp [results, Tryd.results27, go_sem, *]) rfl ⟨rfl, ((hN.set (by simp <;> omega) _).set (by simp <;> omega) _)⟩

set_option maxHeartbeats 1000000 in
theorem refRead_tab_miss (s : ByteArray) (t : Int) (j : Nat) (w : World) (hs : s.size ≤ 60) (hd : (s.toList == [100, 98]) = false) (hl : (1 : Int) < s.size) (ht0 : 0 ≤ t) (ht1 : t < 100) (hj : j ≤ 2) (hn : Hid (numV (s.data.toList.drop 1) = (t, j))) (he : (s.size : Int) ≤ 1 + j + 2) (hq : ((txt t (-1)).toList == s.toList) = false) :
    Calls Tryd.prog 27 #[.string s] w fun e w' => e = .returned (.tuple #[.agg #[.int .i64 0, .int .i64 0], .int .i64 3]) ∧ Nw w w' := by
  have h0 : Nw w (w.alloc (.cells #[.int .i64 0, .int .i64 0] 24)) := (Nw.refl _).alloc _
  have hz : (s.size : Int) ≤ 60 := by omega
  go_enter Tryd.func27, Tryd.ntmps27
  go_wp2_with fail
  refine (refDatabase_any _).mono ?_
  rintro e w1 ⟨rfl, g1⟩
  have a0 : w1.cell? ⟨w.heap.size, 0, none⟩ = some (.int .i64 0) := g1.keep (by simp [go_sem])
  have a1 : w1.cell? ⟨w.heap.size, 1, none⟩ = some (.int .i64 0) := g1.keep (by simp [go_sem])
  have b0 : w1.frozen? ⟨w.heap.size, 0, none⟩ = false := g1.keepF (v := .int .i64 0) (by simp [go_sem]) (by simp [go_sem])
  have b1 : w1.frozen? ⟨w.heap.size, 1, none⟩ = false := g1.keepF (v := .int .i64 0) (by simp [go_sem]) (by simp [go_sem])
  have al : ∀ o, Nw w1 (w1.alloc o) := fun o => (Nw.refl _).alloc o
  have c0 := fun o => (al o).keep a0
  have c1 := fun o => (al o).keep a1
  have f0 := fun o => (al o).keepF a0 b0
  have f1 := fun o => (al o).keepF a1 b1
  clear a0 a1 b0 b1
  go_wp2_with fail
  refine (refNumber_val s 1 t j _ hs hn.out).mono ?_
  rintro e w2 ⟨rfl, hg⟩
  have m0 : w2.cell? ⟨w1.heap.size, 0, none⟩ = some (.int .i64 (-1)) := hg.keep (by simp [go_sem])
  have m1 : w2.cell? ⟨w1.heap.size, 1, none⟩ = some (.int .i64 (-1)) := hg.keep (by simp [go_sem])
  have n0 : w2.frozen? ⟨w1.heap.size, 0, none⟩ = false := hg.keepF (v := .int .i64 (-1)) (by simp [go_sem]) (by simp [go_sem])
  have n1 : w2.frozen? ⟨w1.heap.size, 1, none⟩ = false := hg.keepF (v := .int .i64 (-1)) (by simp [go_sem]) (by simp [go_sem])
  have d0 := hg.keep (c0 _)
  have d1 := hg.keep (c1 _)
  have e0 := hg.keepF (c0 _) (f0 _)
  have e1 := hg.keepF (c1 _) (f1 _)
  have ne : w1.heap.size ≠ w.heap.size := by have := g1.sz; simp at this; omega
  have ne2 : w.heap.size ≠ w1.heap.size := ne.symm
  have hN := ((h0.trans g1).alloc _).trans hg
  clear c0 c1 f0 f1 al
  go_wp2_with fail
  refine (refText_any _ _ _).mono ?_
  rintro e w3 ⟨rfl, hg3⟩
  have P0hg3 : w3.cell? ⟨w1.heap.size, 0, none⟩ = some (.int .i64 t) := hg3.keep (by simp [go_sem, *])
  have F0hg3 : w3.frozen? ⟨w1.heap.size, 0, none⟩ = false := hg3.keepF (v := .int .i64 t) (by simp [go_sem, *]) (by simp [go_sem, *])
  have P1hg3 : w3.cell? ⟨w1.heap.size, 1, none⟩ = some (.int .i64 (-1)) := hg3.keep (by simp [go_sem, *])
  have F1hg3 : w3.frozen? ⟨w1.heap.size, 1, none⟩ = false := hg3.keepF (v := .int .i64 (-1)) (by simp [go_sem, *]) (by simp [go_sem, *])
  have P2hg3 : w3.cell? ⟨w.heap.size, 0, none⟩ = some (.int .i64 0) := hg3.keep (by simp [go_sem, *])
  have F2hg3 : w3.frozen? ⟨w.heap.size, 0, none⟩ = false := hg3.keepF (v := .int .i64 0) (by simp [go_sem, *]) (by simp [go_sem, *])
  have P3hg3 : w3.cell? ⟨w.heap.size, 1, none⟩ = some (.int .i64 0) := hg3.keep (by simp [go_sem, *])
  have F3hg3 : w3.frozen? ⟨w.heap.size, 1, none⟩ = false := hg3.keepF (v := .int .i64 0) (by simp [go_sem, *]) (by simp [go_sem, *])
  replace hN := ((hN.set (p := ⟨w1.heap.size, 0, none⟩) (by have := g1.sz; simp at this ⊢; omega) (.int .i64 t)).set (p := ⟨w1.heap.size, 1, none⟩) (by have := g1.sz; simp at this ⊢; omega) (.int .i64 (-1))).trans hg3
  clear m0 m1 d0 d1 n0 n1 e0 e1
  go_wp2
  exact bodyPost_ret (v := .tuple #[.agg #[.int .i64 0, .int .i64 0], .int .i64 3]) (by simp [results, Tryd.results27, go_sem, *]) rfl ⟨rfl, ((hN.set (by simp <;> omega) _).set (by simp <;> omega) _)⟩

set_option maxHeartbeats 1000000 in
theorem refRead_rec_hit (s : ByteArray) (t r : Int) (j j2 : Nat) (w : World) (hs : s.size ≤ 60) (hd : (s.toList == [100, 98]) = false) (hl : (1 : Int) < s.size) (ht0 : 0 ≤ t) (ht1 : t < 100) (hj : j ≤ 2) (hn : Hid (numV (s.data.toList.drop 1) = (t, j))) (he : (1 : Int) + j + 2 < s.size) (hn2 : Hid (∀ w, Calls Tryd.prog 44 #[.string s, .int .i64 (1 + j + 2)] w fun e w' => e = .returned (.tuple #[.int .i64 r, .int .i64 (1 + j + 2 + j2)]) ∧ Nw w w')) (hq : ((txt t r).toList == s.toList) = true) :
    Calls Tryd.prog 27 #[.string s] w fun e w' => e = .returned (.tuple #[.agg #[.int .i64 t, .int .i64 r], .int .i64 0]) ∧ Nw w w' := by
  have h0 : Nw w (w.alloc (.cells #[.int .i64 0, .int .i64 0] 24)) := (Nw.refl _).alloc _
  have hz : (s.size : Int) ≤ 60 := by omega
  go_enter Tryd.func27, Tryd.ntmps27
  go_wp2_with fail
  refine (refDatabase_any _).mono ?_
  rintro e w1 ⟨rfl, g1⟩
  have a0 : w1.cell? ⟨w.heap.size, 0, none⟩ = some (.int .i64 0) := g1.keep (by simp [go_sem])
  have a1 : w1.cell? ⟨w.heap.size, 1, none⟩ = some (.int .i64 0) := g1.keep (by simp [go_sem])
  have b0 : w1.frozen? ⟨w.heap.size, 0, none⟩ = false := g1.keepF (v := .int .i64 0) (by simp [go_sem]) (by simp [go_sem])
  have b1 : w1.frozen? ⟨w.heap.size, 1, none⟩ = false := g1.keepF (v := .int .i64 0) (by simp [go_sem]) (by simp [go_sem])
  have al : ∀ o, Nw w1 (w1.alloc o) := fun o => (Nw.refl _).alloc o
  have c0 := fun o => (al o).keep a0
  have c1 := fun o => (al o).keep a1
  have f0 := fun o => (al o).keepF a0 b0
  have f1 := fun o => (al o).keepF a1 b1
  clear a0 a1 b0 b1
  go_wp2_with fail
  refine (refNumber_val s 1 t j _ hs hn.out).mono ?_
  rintro e w2 ⟨rfl, hg⟩
  have m0 : w2.cell? ⟨w1.heap.size, 0, none⟩ = some (.int .i64 (-1)) := hg.keep (by simp [go_sem])
  have m1 : w2.cell? ⟨w1.heap.size, 1, none⟩ = some (.int .i64 (-1)) := hg.keep (by simp [go_sem])
  have n0 : w2.frozen? ⟨w1.heap.size, 0, none⟩ = false := hg.keepF (v := .int .i64 (-1)) (by simp [go_sem]) (by simp [go_sem])
  have n1 : w2.frozen? ⟨w1.heap.size, 1, none⟩ = false := hg.keepF (v := .int .i64 (-1)) (by simp [go_sem]) (by simp [go_sem])
  have d0 := hg.keep (c0 _)
  have d1 := hg.keep (c1 _)
  have e0 := hg.keepF (c0 _) (f0 _)
  have e1 := hg.keepF (c1 _) (f1 _)
  have ne : w1.heap.size ≠ w.heap.size := by have := g1.sz; simp at this; omega
  have ne2 : w.heap.size ≠ w1.heap.size := ne.symm
  have hN := ((h0.trans g1).alloc _).trans hg
  clear c0 c1 f0 f1 al
  go_wp2_with fail
  refine (hn2.out _).mono ?_
  rintro e w3 ⟨rfl, hg3⟩
  have P0hg3 : w3.cell? ⟨w1.heap.size, 0, none⟩ = some (.int .i64 t) := hg3.keep (by simp [go_sem, *])
  have F0hg3 : w3.frozen? ⟨w1.heap.size, 0, none⟩ = false := hg3.keepF (v := .int .i64 t) (by simp [go_sem, *]) (by simp [go_sem, *])
  have P1hg3 : w3.cell? ⟨w1.heap.size, 1, none⟩ = some (.int .i64 (-1)) := hg3.keep (by simp [go_sem, *])
  have F1hg3 : w3.frozen? ⟨w1.heap.size, 1, none⟩ = false := hg3.keepF (v := .int .i64 (-1)) (by simp [go_sem, *]) (by simp [go_sem, *])
  have P2hg3 : w3.cell? ⟨w.heap.size, 0, none⟩ = some (.int .i64 0) := hg3.keep (by simp [go_sem, *])
  have F2hg3 : w3.frozen? ⟨w.heap.size, 0, none⟩ = false := hg3.keepF (v := .int .i64 0) (by simp [go_sem, *]) (by simp [go_sem, *])
  have P3hg3 : w3.cell? ⟨w.heap.size, 1, none⟩ = some (.int .i64 0) := hg3.keep (by simp [go_sem, *])
  have F3hg3 : w3.frozen? ⟨w.heap.size, 1, none⟩ = false := hg3.keepF (v := .int .i64 0) (by simp [go_sem, *]) (by simp [go_sem, *])
  replace hN := ((hN.set (p := ⟨w1.heap.size, 0, none⟩) (by have := g1.sz; simp at this ⊢; omega) (.int .i64 t)).set (p := ⟨w1.heap.size, 1, none⟩) (by have := g1.sz; simp at this ⊢; omega) (.int .i64 (-1))).trans hg3
  clear m0 m1 d0 d1 n0 n1 e0 e1
  go_wp2_with fail
  refine (refText_any _ _ _).mono ?_
  rintro e w4 ⟨rfl, hg4⟩
  have Q0 : w4.cell? ⟨w1.heap.size, 0, none⟩ = some (.int .i64 t) := hg4.keep (by simp [go_sem, *])
  have G0 : w4.frozen? ⟨w1.heap.size, 0, none⟩ = false := hg4.keepF (v := .int .i64 t) (by simp [go_sem, *]) (by simp [go_sem, *])
  have Q1 : w4.cell? ⟨w1.heap.size, 1, none⟩ = some (.int .i64 r) := hg4.keep (by simp [go_sem, *])
  have G1 : w4.frozen? ⟨w1.heap.size, 1, none⟩ = false := hg4.keepF (v := .int .i64 r) (by simp [go_sem, *]) (by simp [go_sem, *])
  have Q2 : w4.cell? ⟨w.heap.size, 0, none⟩ = some (.int .i64 0) := hg4.keep (by simp [go_sem, *])
  have G2 : w4.frozen? ⟨w.heap.size, 0, none⟩ = false := hg4.keepF (v := .int .i64 0) (by simp [go_sem, *]) (by simp [go_sem, *])
  have Q3 : w4.cell? ⟨w.heap.size, 1, none⟩ = some (.int .i64 0) := hg4.keep (by simp [go_sem, *])
  have G3 : w4.frozen? ⟨w.heap.size, 1, none⟩ = false := hg4.keepF (v := .int .i64 0) (by simp [go_sem, *]) (by simp [go_sem, *])
  replace hN := (hN.set (p := ⟨w1.heap.size, 1, none⟩) (by have := g1.sz; simp at this ⊢; omega) (.int .i64 r)).trans hg4
  clear P0hg3 P1hg3 P2hg3 P3hg3 F0hg3 F1hg3 F2hg3 F3hg3
  go_wp2
  exact bodyPost_ret (v := .tuple #[.agg #[.int .i64 t, .int .i64 r], .int .i64 0]) (by simp [results, Tryd.results27, go_sem, *]) rfl ⟨rfl, ((hN.set (by simp <;> omega) _).set (by simp <;> omega) _)⟩

set_option maxHeartbeats 1000000 in
theorem refRead_rec_miss (s : ByteArray) (t r : Int) (j j2 : Nat) (w : World) (hs : s.size ≤ 60) (hd : (s.toList == [100, 98]) = false) (hl : (1 : Int) < s.size) (ht0 : 0 ≤ t) (ht1 : t < 100) (hj : j ≤ 2) (hn : Hid (numV (s.data.toList.drop 1) = (t, j))) (he : (1 : Int) + j + 2 < s.size) (hn2 : Hid (∀ w, Calls Tryd.prog 44 #[.string s, .int .i64 (1 + j + 2)] w fun e w' => e = .returned (.tuple #[.int .i64 r, .int .i64 (1 + j + 2 + j2)]) ∧ Nw w w')) (hq : ((txt t r).toList == s.toList) = false) :
    Calls Tryd.prog 27 #[.string s] w fun e w' => e = .returned (.tuple #[.agg #[.int .i64 0, .int .i64 0], .int .i64 3]) ∧ Nw w w' := by
  have h0 : Nw w (w.alloc (.cells #[.int .i64 0, .int .i64 0] 24)) := (Nw.refl _).alloc _
  have hz : (s.size : Int) ≤ 60 := by omega
  go_enter Tryd.func27, Tryd.ntmps27
  go_wp2_with fail
  refine (refDatabase_any _).mono ?_
  rintro e w1 ⟨rfl, g1⟩
  have a0 : w1.cell? ⟨w.heap.size, 0, none⟩ = some (.int .i64 0) := g1.keep (by simp [go_sem])
  have a1 : w1.cell? ⟨w.heap.size, 1, none⟩ = some (.int .i64 0) := g1.keep (by simp [go_sem])
  have b0 : w1.frozen? ⟨w.heap.size, 0, none⟩ = false := g1.keepF (v := .int .i64 0) (by simp [go_sem]) (by simp [go_sem])
  have b1 : w1.frozen? ⟨w.heap.size, 1, none⟩ = false := g1.keepF (v := .int .i64 0) (by simp [go_sem]) (by simp [go_sem])
  have al : ∀ o, Nw w1 (w1.alloc o) := fun o => (Nw.refl _).alloc o
  have c0 := fun o => (al o).keep a0
  have c1 := fun o => (al o).keep a1
  have f0 := fun o => (al o).keepF a0 b0
  have f1 := fun o => (al o).keepF a1 b1
  clear a0 a1 b0 b1
  go_wp2_with fail
  refine (refNumber_val s 1 t j _ hs hn.out).mono ?_
  rintro e w2 ⟨rfl, hg⟩
  have m0 : w2.cell? ⟨w1.heap.size, 0, none⟩ = some (.int .i64 (-1)) := hg.keep (by simp [go_sem])
  have m1 : w2.cell? ⟨w1.heap.size, 1, none⟩ = some (.int .i64 (-1)) := hg.keep (by simp [go_sem])
  have n0 : w2.frozen? ⟨w1.heap.size, 0, none⟩ = false := hg.keepF (v := .int .i64 (-1)) (by simp [go_sem]) (by simp [go_sem])
  have n1 : w2.frozen? ⟨w1.heap.size, 1, none⟩ = false := hg.keepF (v := .int .i64 (-1)) (by simp [go_sem]) (by simp [go_sem])
  have d0 := hg.keep (c0 _)
  have d1 := hg.keep (c1 _)
  have e0 := hg.keepF (c0 _) (f0 _)
  have e1 := hg.keepF (c1 _) (f1 _)
  have ne : w1.heap.size ≠ w.heap.size := by have := g1.sz; simp at this; omega
  have ne2 : w.heap.size ≠ w1.heap.size := ne.symm
  have hN := ((h0.trans g1).alloc _).trans hg
  clear c0 c1 f0 f1 al
  go_wp2_with fail
  refine (hn2.out _).mono ?_
  rintro e w3 ⟨rfl, hg3⟩
  have P0hg3 : w3.cell? ⟨w1.heap.size, 0, none⟩ = some (.int .i64 t) := hg3.keep (by simp [go_sem, *])
  have F0hg3 : w3.frozen? ⟨w1.heap.size, 0, none⟩ = false := hg3.keepF (v := .int .i64 t) (by simp [go_sem, *]) (by simp [go_sem, *])
  have P1hg3 : w3.cell? ⟨w1.heap.size, 1, none⟩ = some (.int .i64 (-1)) := hg3.keep (by simp [go_sem, *])
  have F1hg3 : w3.frozen? ⟨w1.heap.size, 1, none⟩ = false := hg3.keepF (v := .int .i64 (-1)) (by simp [go_sem, *]) (by simp [go_sem, *])
  have P2hg3 : w3.cell? ⟨w.heap.size, 0, none⟩ = some (.int .i64 0) := hg3.keep (by simp [go_sem, *])
  have F2hg3 : w3.frozen? ⟨w.heap.size, 0, none⟩ = false := hg3.keepF (v := .int .i64 0) (by simp [go_sem, *]) (by simp [go_sem, *])
  have P3hg3 : w3.cell? ⟨w.heap.size, 1, none⟩ = some (.int .i64 0) := hg3.keep (by simp [go_sem, *])
  have F3hg3 : w3.frozen? ⟨w.heap.size, 1, none⟩ = false := hg3.keepF (v := .int .i64 0) (by simp [go_sem, *]) (by simp [go_sem, *])
  replace hN := ((hN.set (p := ⟨w1.heap.size, 0, none⟩) (by have := g1.sz; simp at this ⊢; omega) (.int .i64 t)).set (p := ⟨w1.heap.size, 1, none⟩) (by have := g1.sz; simp at this ⊢; omega) (.int .i64 (-1))).trans hg3
  clear m0 m1 d0 d1 n0 n1 e0 e1
  go_wp2_with fail
  refine (refText_any _ _ _).mono ?_
  rintro e w4 ⟨rfl, hg4⟩
  have Q0 : w4.cell? ⟨w1.heap.size, 0, none⟩ = some (.int .i64 t) := hg4.keep (by simp [go_sem, *])
  have G0 : w4.frozen? ⟨w1.heap.size, 0, none⟩ = false := hg4.keepF (v := .int .i64 t) (by simp [go_sem, *]) (by simp [go_sem, *])
  have Q1 : w4.cell? ⟨w1.heap.size, 1, none⟩ = some (.int .i64 r) := hg4.keep (by simp [go_sem, *])
  have G1 : w4.frozen? ⟨w1.heap.size, 1, none⟩ = false := hg4.keepF (v := .int .i64 r) (by simp [go_sem, *]) (by simp [go_sem, *])
  have Q2 : w4.cell? ⟨w.heap.size, 0, none⟩ = some (.int .i64 0) := hg4.keep (by simp [go_sem, *])
  have G2 : w4.frozen? ⟨w.heap.size, 0, none⟩ = false := hg4.keepF (v := .int .i64 0) (by simp [go_sem, *]) (by simp [go_sem, *])
  have Q3 : w4.cell? ⟨w.heap.size, 1, none⟩ = some (.int .i64 0) := hg4.keep (by simp [go_sem, *])
  have G3 : w4.frozen? ⟨w.heap.size, 1, none⟩ = false := hg4.keepF (v := .int .i64 0) (by simp [go_sem, *]) (by simp [go_sem, *])
  replace hN := (hN.set (p := ⟨w1.heap.size, 1, none⟩) (by have := g1.sz; simp at this ⊢; omega) (.int .i64 r)).trans hg4
  clear P0hg3 P1hg3 P2hg3 P3hg3 F0hg3 F1hg3 F2hg3 F3hg3
  go_wp2
  exact bodyPost_ret (v := .tuple #[.agg #[.int .i64 0, .int .i64 0], .int .i64 3]) (by simp [results, Tryd.results27, go_sem, *]) rfl ⟨rfl, ((hN.set (by simp <;> omega) _).set (by simp <;> omega) _)⟩

theorem size_list (s : ByteArray) : s.size = s.data.toList.length := by rw [Array.length_toList]; rfl
theorem no_db {s : ByteArray} (h : s.data.toList ≠ [100, 98]) : (s.toList == [100, 98]) = false := by rw [ByteArray.toList_eq]; simpa using h
theorem txt_eq {s : ByteArray} {t r : Int} (h : s.data.toList = txtL t r) : ((txt t r).toList == s.toList) = true := by rw [txt_list, ByteArray.toList_eq, h]; simp
theorem txt_ne {s : ByteArray} {t r : Int} (h : s.data.toList ≠ txtL t r) : ((txt t r).toList == s.toList) = false := by rw [txt_list, ByteArray.toList_eq, beq_eq_false_iff_ne]; exact fun e => h e.symm
theorem dig_pos (t : Int) (h0 : 0 ≤ t) (h1 : t < 100) : 1 ≤ (dig t).length := by
  unfold dig
  by_cases h : t.toNat < 10
  · rw [Lib.decDigits_one h]; simp
  · rw [Lib.decDigits_two h (by omega)]; simp
/-- The text of a valid name is read back. -/
theorem refRead_yes (t r : Int) (s : ByteArray) (w : World) (hs : s.size ≤ 60) (hv : lvl t r ≠ -1) (h : s.data.toList = txtL t r) :
    Calls Tryd.prog 27 #[.string s] w fun e w' => e = .returned (.tuple #[.agg #[.int .i64 t, .int .i64 r], .int .i64 0]) ∧ Nw w w' := by
  have hq := txt_eq h
  have hz := size_list s
  rcases kinds t r with ⟨rfl, rfl⟩ | ⟨h0, h1, rfl⟩ | ⟨h0, h1, h2, h3⟩ | h0
  · exact refRead_db_hit s w hs (by rw [ByteArray.toList_eq, h]; decide +kernel) hq
  · rw [txtL_tab t h0 h1] at h
    have hl := dig_len t h0 h1
    have hp := dig_pos t h0 h1
    rw [h] at hz
    simp at hz
    have hn : numV (s.data.toList.drop 1) = (t, (dig t).length) := by
      rw [h]; have := numV_dig t [] h0 h1 (fun c l e => by cases e); simpa using this
    exact refRead_tab_hit s t _ w hs (no_db (by rw [h]; intro e; cases e)) (by omega) h0 h1 hl (Lib.hid hn) (by omega) hq
  · rw [txtL_rec t r h0 h1 h2 h3] at h
    have hl := dig_len t h0 h1
    have hp := dig_pos t h0 h1
    have hp2 := dig_pos r h2 h3
    rw [h] at hz
    simp at hz
    have hn : numV (s.data.toList.drop 1) = (t, (dig t).length) := by
      rw [h]; exact numV_dig t _ h0 h1 (fun c l e => by cases e; decide)
    have hn2 : numV (s.data.toList.drop (1 + (dig t).length + 2)) = (r, (dig r).length) := by
      have e : s.data.toList.drop (1 + (dig t).length + 2) = dig r ++ [] := by
        rw [h, show 1 + (dig t).length + 2 = ((dig t).length + 2) + 1 by omega, List.drop_succ_cons, List.drop_append, List.drop_eq_nil_of_le (by omega)]
        simp
      rw [e]; exact numV_dig r [] h2 h3 (fun c l e => by cases e)
    exact refRead_rec_hit s t r _ (dig r).length w hs (no_db (by rw [h]; intro e; cases e)) (by omega) h0 h1 hl (Lib.hid hn) (by omega) (Lib.hid fun w => refNumber_val s _ r _ w hs hn2) hq
  · exact absurd h0 hv
/-- What is not the text of a valid name is not read. -/
theorem refRead_none (s : ByteArray) (w : World) (hs : s.size ≤ 60) (h : ∀ t r, lvl t r ≠ -1 → s.data.toList ≠ txtL t r) :
    Calls Tryd.prog 27 #[.string s] w fun e w' => e = .returned (.tuple #[.agg #[.int .i64 0, .int .i64 0], .int .i64 3]) ∧ Nw w w' := by
  have hd : s.data.toList ≠ [100, 98] := by
    have := h (-1) (-1) (by decide)
    rwa [show txtL (-1) (-1) = [100, 98] by decide +kernel] at this
  by_cases hl : s.size ≤ 1
  · exact refRead_short_miss s w hs (no_db hd) (by omega) (txt_ne (h (-1) (-1) (by decide)))
  · obtain ⟨b0, b1, b2⟩ := numV_bd (s.data.toList.drop 1)
    generalize hn : numV (s.data.toList.drop 1) = N at *
    obtain ⟨t, j⟩ := N
    by_cases he : s.size ≤ 1 + j + 2
    · exact refRead_tab_miss s t j w hs (no_db hd) (by omega) b0 b1 b2 (Lib.hid hn) (by omega) (txt_ne (h t (-1) (by rw [lvl_tab t b0 b1]; decide)))
    · obtain ⟨c0, c1, c2⟩ := numV_bd (s.data.toList.drop (1 + j + 2))
      generalize hn2 : numV (s.data.toList.drop (1 + j + 2)) = N at *
      obtain ⟨r, j2⟩ := N
      exact refRead_rec_miss s t r j j2 w hs (no_db hd) (by omega) b0 b1 b2 (Lib.hid hn) (by omega) (Lib.hid fun w => refNumber_val s _ r _ w hs hn2) (txt_ne (h t r (by rw [lvl_rec t r b0 b1 c0 c1]; decide)))
end Go.Proofs.YtdcjhjmbfpkigaaDoor
