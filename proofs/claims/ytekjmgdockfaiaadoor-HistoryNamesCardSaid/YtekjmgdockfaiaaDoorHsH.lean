
/- add of an end: what becomes of the tracker; add. -/
import Derived.Test.YtekjmgdockfaiaaDoorHsG
namespace Go.Proofs.YtekjmgdockfaiaaDoor
open Go.RowKit
set_option linter.unusedVariables false      -- a contract need not use every name

theorem BusyM.up {w : World} {b n n' : Nat} {l : List Sp} (h : BusyM w b l n) (hn : n ≤ n') : BusyM w b l n' := by obtain ⟨D, h1, h2⟩ := h; exact ⟨D, h1.mono hn, h2⟩
theorem pw_at {α : Type} {R : α → α → Prop} {l : List α} (h : l.Pairwise R) {i j : Nat} (hi : i < l.length) (hj : j < l.length) (hij : i < j) : R l[i] l[j] := List.pairwise_iff_getElem.1 h i j hi hj hij
theorem map_set {l : List Sp} (hc : l.Pairwise fun s s' => s.call ≠ s'.call) (e : Ev) (f : Sp → Sp) {j : Nat} (hj : j < l.length) (hm : mt e l[j] = true) : (l.map fun s => if mt e s = true then f s else s) = l.set j (f l[j]) := by
  apply List.ext_getElem (by simp)
  intro i h1 h2
  have hi : i < l.length := by simpa using h1
  rw [List.getElem_map, List.getElem_set]
  by_cases q : j = i
  · subst q; rw [if_pos hm, if_pos rfl]
  · rw [if_neg q, if_neg]
    intro z
    have e1 := (mt_iff.1 z).1
    have e2 := (mt_iff.1 hm).1
    rcases Nat.lt_or_gt_of_ne q with r | r
    · exact pw_at hc hj hi r (e2.trans e1.symm)
    · exact pw_at hc hi hj r (e1.trans e2.symm)
theorem SRow.cell {w : World} {g0 g n cap : Nat} {l : List Sp} (h : SRow w g0 (.slice (some ⟨g, 0, none⟩) n cap) l) {j c : Nat} (hj : j < l.length) (hc : c < 10) {u : Value} (hu : (srow l[j])[c]? = some u) : w.cell? ⟨g, j * 10 + c, none⟩ = some u := by
  have e : n = l.length := by
    rcases own_form h with ⟨q, _⟩ | ⟨_, _, q⟩
    · simp at q
    · simp at q; exact q.2.1
  subst e
  refine (World.ownsRow.cellAt h (j * 10 + c) (by omega)).trans ?_
  rw [srows_at l j c hj hc]; exact hu
theorem SRow.frozen {w : World} {g0 g n cap : Nat} {l : List Sp} (h : SRow w g0 (.slice (some ⟨g, 0, none⟩) n cap) l) (j : Nat) : w.frozen? ⟨g, j, none⟩ = false := by
  obtain ⟨c, hc⟩ := own_heap h rfl
  exact heap_fz hc
theorem own_store {w : World} {g0 g n n' cap e size : Nat} {xs : List Value} (h : w.ownsRow g0 e size (.slice (some ⟨g, 0, none⟩) n cap) n' xs) (i : Nat) (u : Value) : (w.setCell ⟨g, i, none⟩ u).ownsRow g0 e size (.slice (some ⟨g, 0, none⟩) n cap) n' (xs.set i u) := by
  have e1 : n = n' := by
    rcases own_form h with ⟨q, _⟩ | ⟨_, _, q⟩
    · simp at q
    · simp at q; exact q.2.1
  subst e1
  exact (World.ownsRow.stored h i u).1
set_option maxHeartbeats 1000000 in
/-- add(i, v) of an end: the span in place j ends. -/
theorem addEnd_any {w : World} {g0 p bc bb n : Nat} {v : Value} {l : List Sp} (h : Trk w g0 p v bc bb l n) (e : Ev) (hi : e.inv = false) (hcd : l.Pairwise fun s s' => s.call ≠ s'.call) (hbd : l.Pairwise fun s s' => s.to < 0 → s'.to < 0 → s.thread ≠ s'.thread) {j : Nat} (hj : j < l.length) (hm : mt e l[j] = true)
    (hp : 0 ≤ e.call ∧ 0 ≤ e.thread) (hf : fitE e) (hn : n < 900) (hl : l.length ≤ 900) (ix : Nat) :
    Calls Tryd.prog 29 #[.pointer (some ⟨p, 0, none⟩), .int .i64 ix, evV e] w fun x w' => x = .returned (.tuple #[]) ∧ ∃ v', Trk w' g0 p v' bc bb (l.set j (fin ix e l[j])) (n + 1) ∧ Below g0 w w' := by
  obtain ⟨ec, et, ei, ⟨k1, k2, k3, k4, k5, k6⟩⟩ := e
  simp only at hi
  subst hi
  obtain ⟨m1, m2, m3⟩ := mt_iff.1 hm
  simp only at m1 m2
  have hlc : 0 ≤ (l[j]).call := by rw [m1]; exact hp.1
  have hlc' : (l[j]).call ≤ 9223372036854775807 := by rw [m1]; exact hf.1
  have hlt : 0 ≤ (l[j]).thread := by rw [m2]; exact hp.2
  have hlt' : (l[j]).thread ≤ 9223372036854775807 := by rw [m2]; exact hf.2
  have hen : decide (0 ≤ (l[j]).to) = false := by simp; omega
  obtain ⟨g, cap, hv⟩ : ∃ g cap, v = .slice (some ⟨g, 0, none⟩) l.length cap := by
    rcases own_form h.row with ⟨_, q⟩ | ⟨g, cap, q⟩
    · omega
    · exact ⟨g, cap, q⟩
  subst hv
  have g1 : Nw w (w.alloc (.cells #[.int .i64 ec, .int .i64 et, .bool false, .int .i64 k1, .int .i64 k2, .int .i64 k3, .int .i64 k4, .int .i64 k5, .int .i64 k6] 31)) := (Nw.refl w).alloc _
  have hev := alloc_at w #[.int .i64 ec, .int .i64 et, .bool false, .int .i64 k1, .int .i64 k2, .int .i64 k3, .int .i64 k4, .int .i64 k5, .int .i64 k6] 31
  have hz1 : (w.alloc (.cells #[.int .i64 ec, .int .i64 et, .bool false, .int .i64 k1, .int .i64 k2, .int .i64 k3, .int .i64 k4, .int .i64 k5, .int .i64 k6] 31)).heap.size = w.heap.size + 1 := by simp
  generalize hW1 : (w.alloc (.cells #[.int .i64 ec, .int .i64 et, .bool false, .int .i64 k1, .int .i64 k2, .int .i64 k3, .int .i64 k4, .int .i64 k5, .int .i64 k6] 31)) = w1 at g1 hev hz1
  have h1 := h.nw g1
  obtain ⟨es, cl, ob⟩ := h1.calls.obj
  obtain ⟨es', cl', ob'⟩ := h1.busy.obj
  have nbc : bc ≠ p := map_ne ob h1.box
  have nbb : bb ≠ p := map_ne ob' h1.box
  have nec : bc ≠ w.heap.size := map_ne ob hev
  have neb : bb ≠ w.heap.size := map_ne ob' hev
  have L1 := (h1.calls.nw (Nw.refl w1).drew1).look_val hj hlc hlc'
  have L2 := fun o => (h1.calls.nw ((Nw.refl w1).alloc o).drew1).look_val hj hlc hlc'
  rw [m1, hen] at L1
  have L2' : ∀ o, (Instr.lookup 59 (.map (some bc)) (.int .i64 ec) false).run Tryd.prog (w1.alloc o).drew = .ok (callV (l[j]).thread j false) (w1.alloc o).drew := fun o => by have := L2 o; rw [m1, hen] at this; exact this
  -- the call's own record
  have g2 : Nw w1 (w1.alloc (.cells #[.int .i64 (l[j]).thread, .int .i64 (j : Int), .bool false] 73)).drew := ((Nw.refl w1).alloc _).drew1
  have hq := (show (w1.alloc (.cells #[.int .i64 (l[j]).thread, .int .i64 (j : Int), .bool false] 73)).drew.heap[w1.heap.size]? = _ from alloc_at w1 #[.int .i64 (l[j]).thread, .int .i64 (j : Int), .bool false] 73)
  generalize hW2 : (w1.alloc (.cells #[.int .i64 (l[j]).thread, .int .i64 (j : Int), .bool false] 73)).drew = w2 at g2 hq
  have h2 := h1.nw g2
  have ev2 := (g2.block w.heap.size (heap_lt hev)).trans hev
  -- it is marked
  have G3 := set_grown w2 ⟨w1.heap.size, 2, none⟩ (.bool true)
  have hq3 := set_heap (j := 2) (.bool true) hq
  generalize hW3 : w2.setCell ⟨w1.heap.size, 2, none⟩ (.bool true) = w3 at G3 hq3
  have nqp : w1.heap.size ≠ p := by have := h1.lt; omega
  have box3 := (G3.block p h2.lt (by simp; exact fun q => nqp q.symm)).trans h2.box
  have ev3 := (G3.block w.heap.size (heap_lt ev2) (by simp; omega)).trans ev2
  have row3 : SRow w3 g0 _ l := own_keep h2.row G3 (fun g q r => own_obj h2.row q hq (by simp) (by simpa using r.symm))
  obtain ⟨esx, clx, obx⟩ := h2.calls.obj
  obtain ⟨esy, cly, oby⟩ := h2.busy.obj
  have C3 := h2.calls.kept G3 (by simp; exact map_ne obx hq)
  have B3 := h2.busy.kept G3 (by simp; exact map_ne oby hq)
  have g3 : Nw w3 w3.drew := (Nw.refl w3).drew1
  -- the map of calls
  obtain ⟨w4, r4, C4, G4⟩ := (C3.nw g3).finish (by omega) hj hcd (f := fin ix ⟨ec, et, false, ⟨k1, k2, k3, k4, k5, k6⟩⟩) (fun s => ⟨rfl, rfl, by simp [fin]⟩) hlc hlc'
  rw [m1] at r4
  have box4 := (G4.block p (heap_lt box3) (by simp; exact nbc.symm)).trans box3
  have ev4 := (G4.block w.heap.size (heap_lt ev3) (by simp; exact nec.symm)).trans ev3
  have hq4 := (G4.block w1.heap.size (heap_lt hq3) (by simp; have := h1.calls.lt; omega)).trans hq3
  have row3d : SRow w3.drew g0 _ l := own_keep row3 (g3.grownBy none) (fun _ _ => by simp)
  obtain ⟨es3, cl3, ob3⟩ := (C3.nw g3).obj
  have row4 : SRow w4 g0 _ l := own_keep row3d G4 (fun g q r => own_obj row3d q ob3 (by simp) (by simpa using r.symm))
  have B4 := (B3.nw g3).kept G4 (by simp; exact fun q => h.ne q.symm)
  have g4 : Nw w4 w4.drew := (Nw.refl w4).drew1
  -- the busy threads
  have hB5 := (B4.nw g4).finish hj hbd (f := fin ix ⟨ec, et, false, ⟨k1, k2, k3, k4, k5, k6⟩⟩) (by simp [fin]) m3 hlt hlt'
  obtain ⟨w5, r5, B5, G5⟩ := hB5 3
  have r5' : ∀ ty, (Builtin.delete_ #[60, 3] ty #[.map (some bb), .int .i64 et]).run Tryd.prog w4.drew = .ok (.tuple #[]) w5 := fun ty => by rw [← m2]; exact r5
  have box5 := (G5.block p (heap_lt box4) (by simp; exact nbb.symm)).trans box4
  have ev5 := (G5.block w.heap.size (heap_lt ev4) (by simp; exact neb.symm)).trans ev4
  have hq5 := (G5.block w1.heap.size (heap_lt hq4) (by simp; have := h1.busy.lt; omega)).trans hq4
  have row4d : SRow w4.drew g0 _ l := own_keep row4 (g4.grownBy none) (fun _ _ => by simp)
  obtain ⟨es4, cl4, ob4⟩ := (B4.nw g4).obj
  have row5 : SRow w5 g0 _ l := own_keep row4d G5 (fun g q r => own_obj row4d q ob4 (by simp) (by simpa using r.symm))
  have C5 := (C4.nw g4).kept G5 (by simp; exact h.ne)
  -- the span: where it ends
  have G6 := set_grown w5 ⟨g, j * 10 + 3, none⟩ (.int .i64 ix)
  have row6 := own_store row5 (j * 10 + 3) (.int .i64 (ix : Int))
  have e6 : Nw (w5.setCell ⟨g, j * 10 + 3, none⟩ (.int .i64 ix)) (w5.setCell ⟨g, j * 10 + 3, none⟩ (.int .i64 ix)).drew := (Nw.refl _).drew1
  have ngp : g ≠ p := own_obj row5 rfl box5 (by simp)
  have nge : g ≠ w.heap.size := own_obj row5 rfl ev5 (by simp)
  have ngq : g ≠ w1.heap.size := own_obj row5 rfl hq5 (by simp)
  obtain ⟨es5, cl5, ob5⟩ := C5.obj
  obtain ⟨es6, cl6, ob6⟩ := B5.obj
  have ngc : g ≠ bc := own_obj row5 rfl ob5 (by simp)
  have ngb : g ≠ bb := own_obj row5 rfl ob6 (by simp)
  have box6 := (e6.block p (by simp [World.setCell]; exact heap_lt box5)).trans ((G6.block p (heap_lt box5) (by simp; exact ngp.symm)).trans box5)
  have ev6 := (e6.block w.heap.size (by simp [World.setCell]; exact heap_lt ev5)).trans ((G6.block _ (heap_lt ev5) (by simp; exact nge.symm)).trans ev5)
  have hq6 := (e6.block w1.heap.size (by simp [World.setCell]; exact heap_lt hq5)).trans ((G6.block _ (heap_lt hq5) (by simp; exact ngq.symm)).trans hq5)
  have row6d := own_keep row6 (e6.grownBy none) (fun _ _ => by simp)
  have C6 := (C5.kept G6 (by simp; exact ngc.symm)).nw e6
  have B6 := (B5.kept G6 (by simp; exact ngb.symm)).nw e6
  generalize hW6 : (w5.setCell ⟨g, j * 10 + 3, none⟩ (.int .i64 ix)).drew = w6 at e6 box6 ev6 hq6 row6d C6 B6
  -- its code
  have G7 := set_grown w6 ⟨g, j * 10 + 9, none⟩ (.int .i64 k6)
  have row7 := own_store row6d (j * 10 + 9) (.int .i64 k6)
  have e7 : Nw (w6.setCell ⟨g, j * 10 + 9, none⟩ (.int .i64 k6)) (w6.setCell ⟨g, j * 10 + 9, none⟩ (.int .i64 k6)).drew := (Nw.refl _).drew1
  have box7 := (e7.block p (by simp [World.setCell]; exact heap_lt box6)).trans ((G7.block p (heap_lt box6) (by simp; exact ngp.symm)).trans box6)
  have row7d := own_keep row7 (e7.grownBy none) (fun _ _ => by simp)
  have C7 := (C6.kept G7 (by simp; exact ngc.symm)).nw e7
  have B7 := (B6.kept G7 (by simp; exact ngb.symm)).nw e7
  have r5c : w5.cell? ⟨g, j * 10 + 3, none⟩ = some (.int .i64 (l[j]).to) := row5.cell hj (by omega) rfl
  have r6c : ∃ u, w6.cell? ⟨g, j * 10 + 9, none⟩ = some u := by
    have hx := World.ownsRow.cellAt row6d (j * 10 + 9) (by omega)
    rw [hx]
    exact ⟨_, List.getElem?_eq_getElem (by rw [List.length_set, srows_len]; omega)⟩
  obtain ⟨u9, r6c⟩ := r6c
  have f6 : w6.frozen? ⟨g, j * 10 + 9, none⟩ = false := by obtain ⟨c, hc⟩ := own_heap row6d rfl; exact heap_fz hc

  have Wk := addEnd_walk p bc bb g j l.length cap ec et ix k1 k2 k3 k4 k5 k6 (l[j]).thread _ u9 w w1 w2 w3 w4 w5 w6 _ (by omega) (by omega) (Lib.hid hW1) (heap_lt h1.box) (heap_lt hev) (heap_cell h1.box) (heap_cell h1.box) (heap_cell h1.box) (heap_cell hev) (heap_cell hev) (heap_cell hev) (heap_cell hev) (heap_cell hev) (heap_cell hev) (heap_cell hev) (heap_cell hev) (heap_cell hev) L1 L2' (Lib.hid hW2) (heap_lt h2.box) (heap_lt ev2) (heap_cell hq) (heap_fz hq) (heap_lt hq) (Lib.hid hW3) (heap_lt box3) (heap_lt ev3) (heap_cell box3) (heap_cell ev3) (heap_cell hq3) (heap_cell hq3) (heap_cell hq3) (heap_lt hq3) (Lib.hid r4) (heap_lt box4) (heap_lt ev4) (heap_cell box4) (heap_cell ev4) (Lib.hid r5') (heap_lt box5) (heap_lt ev5) (heap_cell box5) (heap_cell hq5) r5c (row5.frozen _) (own_lt row5 rfl) (heap_lt hq5) (Lib.hid hW6) (heap_lt box6) (heap_lt ev6) (heap_cell box6) (heap_cell ev6) (heap_cell hq6) r6c f6 (own_lt row6d rfl) (heap_lt hq6) (Lib.hid rfl)
  refine Wk.mono ?_
  rintro x w' ⟨rfl, rfl⟩
  have hb := h.base
  refine ⟨rfl, _, ⟨hb, h.ne, box7, ?_, C7, B7.up (Nat.le_succ n)⟩, ?_⟩
  · have e := srows_fin ix ⟨ec, et, false, ⟨k1, k2, k3, k4, k5, k6⟩⟩ l j hj
    unfold SRow
    rw [e, List.length_set]
    exact row7d
  · have i1 := heap_lt h.box
    have i2 := h.calls.lt
    have i3 := h.busy.lt
    have i4 : w.heap.size ≤ w1.heap.size := g1.sz
    have i5 : w1.heap.size ≤ w2.heap.size := g2.sz
    have i6 : w2.heap.size ≤ w3.heap.size := G3.size
    have i7 : w3.drew.heap.size = w3.heap.size := rfl
    have i8 : w3.drew.heap.size ≤ w4.heap.size := G4.size
    have i9 : w4.drew.heap.size = w4.heap.size := rfl
    have i10 : w4.drew.heap.size ≤ w5.heap.size := G5.size
    have i11 : (w5.setCell ⟨g, j * 10 + 3, none⟩ (.int .i64 ix)).heap.size = w5.heap.size := by simp [World.setCell]
    have i12 : (w6.setCell ⟨g, j * 10 + 9, none⟩ (.int .i64 k6)).heap.size = w6.heap.size := by simp [World.setCell]
    have i13 : (w5.setCell ⟨g, j * 10 + 3, none⟩ (.int .i64 ix)).heap.size ≤ w6.heap.size := e6.sz
    have hgg : g0 ≤ g := own_ge row5 rfl
    have b2 : Below g0 w w2 := (Below.mono g1 (by omega)).trans (Below.mono g2 (by omega))
    have b3 : Below g0 w w3 := Below.grown b2 G3 (by omega) (fun k hk => by simp at hk; omega)
    have b4 : Below g0 w w4 := Below.grown (b3.trans (Below.mono g3 (by omega))) G4 (by omega) (fun k hk => by simp at hk; omega)
    have b5 : Below g0 w w5 := Below.grown (b4.trans (Below.mono g4 (by omega))) G5 (by omega) (fun k hk => by simp at hk; omega)
    have b6 : Below g0 w w6 := (Below.grown b5 G6 (by omega) (fun k hk => by simp at hk; omega)).trans (Below.mono e6 (by omega))
    exact (Below.grown b6 G7 (by omega) (fun k hk => by simp at hk; omega)).trans (Below.mono e7 (by omega))
/-- add(i, v) of whatever is right. -/
theorem add_any {w : World} {g0 p bc bb n : Nat} {v : Value} {l : List Sp} (h : Trk w g0 p v bc bb l n) (e : Ev) (hcd : l.Pairwise fun s s' => s.call ≠ s'.call) (hbd : l.Pairwise fun s s' => s.to < 0 → s'.to < 0 → s.thread ≠ s'.thread) (hx : nxt l e = 0) (hf : fitE e) (hn : n < 900) (hl : l.length ≤ 900) (ix : Nat) :
    Calls Tryd.prog 29 #[.pointer (some ⟨p, 0, none⟩), .int .i64 ix, evV e] w fun x w' => x = .returned (.tuple #[]) ∧ ∃ v', Trk w' g0 p v' bc bb (upd l ix e) (n + 1) ∧ Below g0 w w' := by
  have hp := okE_pos (nxt_okE hx)
  cases hi : e.inv with
  | true =>
    have hu : upd l ix e = l ++ [new ix e] := by unfold upd; rw [if_pos hi]
    rw [hu]
    exact addBeg_any h e hi (nxt_inv hx hi).1 hp hf hn hl ix
  | false =>
    obtain ⟨s, hs, hm⟩ := List.any_eq_true.1 (nxt_end hx hi)
    obtain ⟨j, hj, rfl⟩ := List.getElem_of_mem hs
    have hu : upd l ix e = l.set j (fin ix e l[j]) := by unfold upd; rw [if_neg (by simp [hi])]; exact map_set hcd e (fin ix e) hj hm
    rw [hu]
    exact addEnd_any h e hi hcd hbd hj hm hp hf hn hl ix
end Go.Proofs.YtekjmgdockfaiaaDoor
