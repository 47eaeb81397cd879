/- Contracts of package name, seventh part: Read. -/
import Derived.Test.YtdcjhjmbfpkigaaDoorNameR
namespace Go.Proofs.YtdcjhjmbfpkigaaDoor
open Go.ChangeShapes Go.WideShapes Go.ChangeAt Go.RowKit

theorem Nw.keepF {a b : World} (h : Nw a b) {k o : Nat} {v : Value} {f : Bool} (hc : a.cell? ⟨k, o, none⟩ = some v) (hf : a.frozen? ⟨k, o, none⟩ = f) : b.frozen? ⟨k, o, none⟩ = f := by
  have hk : k < a.heap.size := by
    rcases Nat.lt_or_ge k a.heap.size with g | g
    · exact g
    · simp [World.cell?, Array.getElem?_eq_none g] at hc
  exact (Below.frozen (p := ⟨k, o, none⟩) h hk).trans hf
set_option maxHeartbeats 1000000 in
theorem read_w1 (s : ByteArray) (i j : Int) (w : World) 
    (HP : Hid (∀ w', Nw w w' → Calls Tryd.prog 37 #[.string s] w' fun e w'' => e = .returned (.tuple #[.agg #[.int .i64 i, .int .i64 j], .bool false]) ∧ Nw w' w'')) :
    Calls Tryd.prog 12 #[.string s] w fun e w' => e = .returned (.tuple #[.agg #[.int .i64 0, .int .i64 0], .int .i64 3]) ∧ Nw w w' := by
  have h0 : Nw w (w.alloc (.cells #[.int .i64 0, .int .i64 0] 24)) := (Nw.refl _).alloc _
  go_enter Tryd.func12, Tryd.ntmps12
  go_wp2_with fail
  refine (HP.out _ h0).mono ?_
  rintro e w1 ⟨rfl, hG⟩
  have a0 : w1.cell? ⟨w.heap.size, 0, none⟩ = some (.int .i64 0) := hG.keep (by simp [go_sem])
  have a1 : w1.cell? ⟨w.heap.size, 1, none⟩ = some (.int .i64 0) := hG.keep (by simp [go_sem])
  have b0 : w1.frozen? ⟨w.heap.size, 0, none⟩ = false := hG.keepF (v := .int .i64 0) (by simp [go_sem]) (by simp [go_sem])
  have b1 : w1.frozen? ⟨w.heap.size, 1, none⟩ = false := hG.keepF (v := .int .i64 0) (by simp [go_sem]) (by simp [go_sem])
  have al : ∀ o, Nw w1 (w1.alloc o) := fun o => (Nw.refl _).alloc o
  have c0 := fun o => (al o).keep a0
  have c1 := fun o => (al o).keep a1
  have f0 := fun o => (al o).keepF a0 b0
  have f1 := fun o => (al o).keepF a1 b1
  clear a0 a1 b0 b1
  clear al
  go_wp2
  exact bodyPost_ret (v := .tuple #[.agg #[.int .i64 0, .int .i64 0], .int .i64 3]) (by simp [results, Tryd.results12, go_sem, *]) rfl ⟨rfl, ((((h0.trans hG).alloc _).set (by simp <;> omega) _).set (by simp <;> omega) _)⟩
set_option maxHeartbeats 1000000 in
theorem read_w2 (s : ByteArray) (i j : Int) (w : World) (hq : ((txt i j).toList == s.toList) = false)
    (HP : Hid (∀ w', Nw w w' → Calls Tryd.prog 37 #[.string s] w' fun e w'' => e = .returned (.tuple #[.agg #[.int .i64 i, .int .i64 j], .bool true]) ∧ Nw w' w'')) :
    Calls Tryd.prog 12 #[.string s] w fun e w' => e = .returned (.tuple #[.agg #[.int .i64 0, .int .i64 0], .int .i64 3]) ∧ Nw w w' := by
  have h0 : Nw w (w.alloc (.cells #[.int .i64 0, .int .i64 0] 24)) := (Nw.refl _).alloc _
  go_enter Tryd.func12, Tryd.ntmps12
  go_wp2_with fail
  refine (HP.out _ h0).mono ?_
  rintro e w1 ⟨rfl, hG⟩
  have a0 : w1.cell? ⟨w.heap.size, 0, none⟩ = some (.int .i64 0) := hG.keep (by simp [go_sem])
  have a1 : w1.cell? ⟨w.heap.size, 1, none⟩ = some (.int .i64 0) := hG.keep (by simp [go_sem])
  have b0 : w1.frozen? ⟨w.heap.size, 0, none⟩ = false := hG.keepF (v := .int .i64 0) (by simp [go_sem]) (by simp [go_sem])
  have b1 : w1.frozen? ⟨w.heap.size, 1, none⟩ = false := hG.keepF (v := .int .i64 0) (by simp [go_sem]) (by simp [go_sem])
  have al : ∀ o, Nw w1 (w1.alloc o) := fun o => (Nw.refl _).alloc o
  have c0 := fun o => (al o).keep a0
  have c1 := fun o => (al o).keep a1
  have f0 := fun o => (al o).keepF a0 b0
  have f1 := fun o => (al o).keepF a1 b1
  clear a0 a1 b0 b1
  go_wp2_with fail
  refine (text_any i j _).mono ?_
  rintro e w2 ⟨rfl, hg⟩
  have g0 : w2.cell? ⟨w1.heap.size, 0, none⟩ = some (.int .i64 i) := hg.keep (by simp [go_sem])
  have g1 : w2.cell? ⟨w1.heap.size, 1, none⟩ = some (.int .i64 j) := hg.keep (by simp [go_sem])
  have d0 := hg.keep (c0 _)
  have d1 := hg.keep (c1 _)
  have e0 := hg.keepF (c0 _) (f0 _)
  have e1 := hg.keepF (c1 _) (f1 _)
  clear c0 c1 f0 f1 al
  go_wp2
  exact bodyPost_ret (v := .tuple #[.agg #[.int .i64 0, .int .i64 0], .int .i64 3]) (by simp [results, Tryd.results12, go_sem, *]) rfl ⟨rfl, (((((h0.trans hG).alloc _).trans hg).set (by simp <;> omega) _).set (by simp <;> omega) _)⟩
set_option maxHeartbeats 1000000 in
theorem read_w3 (s : ByteArray) (i j : Int) (w : World) (hq : ((txt i j).toList == s.toList) = true)
    (HP : Hid (∀ w', Nw w w' → Calls Tryd.prog 37 #[.string s] w' fun e w'' => e = .returned (.tuple #[.agg #[.int .i64 i, .int .i64 j], .bool true]) ∧ Nw w' w'')) :
    Calls Tryd.prog 12 #[.string s] w fun e w' => e = .returned (.tuple #[.agg #[.int .i64 i, .int .i64 j], .int .i64 0]) ∧ Nw w w' := by
  have h0 : Nw w (w.alloc (.cells #[.int .i64 0, .int .i64 0] 24)) := (Nw.refl _).alloc _
  go_enter Tryd.func12, Tryd.ntmps12
  go_wp2_with fail
  refine (HP.out _ h0).mono ?_
  rintro e w1 ⟨rfl, hG⟩
  have a0 : w1.cell? ⟨w.heap.size, 0, none⟩ = some (.int .i64 0) := hG.keep (by simp [go_sem])
  have a1 : w1.cell? ⟨w.heap.size, 1, none⟩ = some (.int .i64 0) := hG.keep (by simp [go_sem])
  have b0 : w1.frozen? ⟨w.heap.size, 0, none⟩ = false := hG.keepF (v := .int .i64 0) (by simp [go_sem]) (by simp [go_sem])
  have b1 : w1.frozen? ⟨w.heap.size, 1, none⟩ = false := hG.keepF (v := .int .i64 0) (by simp [go_sem]) (by simp [go_sem])
  have al : ∀ o, Nw w1 (w1.alloc o) := fun o => (Nw.refl _).alloc o
  have c0 := fun o => (al o).keep a0
  have c1 := fun o => (al o).keep a1
  have f0 := fun o => (al o).keepF a0 b0
  have f1 := fun o => (al o).keepF a1 b1
  clear a0 a1 b0 b1
  go_wp2_with fail
  refine (text_any i j _).mono ?_
  rintro e w2 ⟨rfl, hg⟩
  have g0 : w2.cell? ⟨w1.heap.size, 0, none⟩ = some (.int .i64 i) := hg.keep (by simp [go_sem])
  have g1 : w2.cell? ⟨w1.heap.size, 1, none⟩ = some (.int .i64 j) := hg.keep (by simp [go_sem])
  have d0 := hg.keep (c0 _)
  have d1 := hg.keep (c1 _)
  have e0 := hg.keepF (c0 _) (f0 _)
  have e1 := hg.keepF (c1 _) (f1 _)
  clear c0 c1 f0 f1 al
  go_wp2
  exact bodyPost_ret (v := .tuple #[.agg #[.int .i64 i, .int .i64 j], .int .i64 0]) (by simp [results, Tryd.results12, go_sem, *]) rfl ⟨rfl, (((((h0.trans hG).alloc _).trans hg).set (by simp <;> omega) _).set (by simp <;> omega) _)⟩

theorem txt_list (t r : Int) : (txt t r).toList = txtL t r := by rw [ByteArray.toList_eq]; show (txtL t r).toArray.toList = _; simp
theorem txt_mark (t r : Int) (h : lvl t r = -1) : txtL t r = [63] := by unfold txtL; rw [h]; rfl
theorem txtL_tab (t : Int) (h0 : 0 ≤ t) (h1 : t < 100) : txtL t (-1) = 116 :: dig t := by unfold txtL; rw [lvl_tab t h0 h1]; rfl
theorem txtL_rec (t r : Int) (h0 : 0 ≤ t) (h1 : t < 100) (h2 : 0 ≤ r) (h3 : r < 100) : txtL t r = 116 :: (dig t ++ (46 :: 114 :: dig r)) := by unfold txtL; rw [lvl_rec t r h0 h1 h2 h3]; rfl
/-- The text of a valid name is read back. -/
theorem read_hit (t r : Int) (s : ByteArray) (w : World) (hl : Libs w) (hs : s.size ≤ 60) (hv : lvl t r ≠ -1) (h : s.data.toList = txtL t r) :
    Calls Tryd.prog 12 #[.string s] w fun e w' => e = .returned (.tuple #[.agg #[.int .i64 t, .int .i64 r], .int .i64 0]) ∧ Nw w w' := by
  have hq : ((txt t r).toList == s.toList) = true := by rw [txt_list, ByteArray.toList_eq, h]; simp
  refine read_w3 s t r w hq (Lib.hid fun w' g => ?_)
  rcases kinds t r with ⟨rfl, rfl⟩ | ⟨h0, h1, rfl⟩ | ⟨h0, h1, h2, h3⟩ | h0
  · exact parse_db s w' h
  · rw [txtL_tab t h0 h1] at h
    have hp := pr_tab t h0 h1
    rw [← h] at hp
    have := parse_any s w' (hl.grown g) hs (by rw [h]; intro e; cases e)
    rw [hp.1, hp.2.1, hp.2.2] at this
    exact this
  · rw [txtL_rec t r h0 h1 h2 h3] at h
    have hp := pr_rec t r h0 h1 h2 h3
    rw [← h] at hp
    have := parse_any s w' (hl.grown g) hs (by rw [h]; intro e; cases e)
    rw [hp.1, hp.2.1, hp.2.2] at this
    exact this
  · exact absurd h0 hv
/-- What is not the text of a valid name is not read. -/
theorem read_miss (s : ByteArray) (w : World) (hl : Libs w) (hs : s.size ≤ 60) (h : ∀ t r, lvl t r ≠ -1 → s.data.toList ≠ txtL t r) :
    Calls Tryd.prog 12 #[.string s] w fun e w' => e = .returned (.tuple #[.agg #[.int .i64 0, .int .i64 0], .int .i64 3]) ∧ Nw w w' := by
  have hd : s.data.toList ≠ [100, 98] := by
    have := h (-1) (-1) (by decide)
    rwa [show txtL (-1) (-1) = [100, 98] by decide +kernel] at this
  have HP := fun w' (g : Nw w w') => parse_any s w' (hl.grown g) hs hd
  cases hb : prB s.data.toList with
  | false =>
    rw [hb] at HP
    exact read_w1 s _ _ w (Lib.hid HP)
  | true =>
    rw [hb] at HP
    have hne : (txt (prT s.data.toList) (prR s.data.toList)).toList ≠ s.toList := by
      rw [txt_list, ByteArray.toList_eq]
      intro e
      by_cases hv : lvl (prT s.data.toList) (prR s.data.toList) = -1
      · rw [txt_mark _ _ hv] at e
        rw [← e, pr_mark] at hb
        cases hb
      · exact h _ _ hv e.symm
    exact read_w2 s _ _ w (by simpa using hne) (Lib.hid HP)
/-- Every string is the text of a valid name, or of none. -/
theorem text_or (l : List UInt8) : (∃ t r, lvl t r ≠ -1 ∧ l = txtL t r) ∨ (∀ t r, lvl t r ≠ -1 → l ≠ txtL t r) := by
  by_cases h : ∃ t r, lvl t r ≠ -1 ∧ l = txtL t r
  · exact .inl h
  · exact .inr fun t r hv e => h ⟨t, r, hv, e⟩
end Go.Proofs.YtdcjhjmbfpkigaaDoor
