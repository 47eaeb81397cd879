
/- add of a beginning: what becomes of the tracker. -/
import Derived.Test.YtekjmgdockfaiaaDoorHsE
namespace Go.Proofs.YtekjmgdockfaiaaDoor
open Go.RowKit
set_option linter.unusedVariables false      -- a contract need not use every name

theorem alloc_at (w : World) (c : Array Value) (T : TypeId) : (w.alloc (.cells c T)).heap[w.heap.size]? = some (.cells c T (0, 0)) := (MapKept.heap_alloc w _).1
theorem srow_cells (w : World) (s : Sp) : ∀ j u, (srow s)[j]? = some u → (w.alloc (.cells #[.int .i64 s.call, .int .i64 s.thread, .int .i64 s.fr, .int .i64 s.to, .int .i64 s.act.kind, .int .i64 s.act.txn, .int .i64 s.act.tab, .int .i64 s.act.rcd, .int .i64 s.act.mode, .int .i64 s.act.code] 45)).drew.cell? ((⟨w.heap.size, 0, none⟩ : Addr).add j) = some u := by
  intro j u hu
  have hc := heap_cell (j := j) (alloc_at w #[.int .i64 s.call, .int .i64 s.thread, .int .i64 s.fr, .int .i64 s.to, .int .i64 s.act.kind, .int .i64 s.act.txn, .int .i64 s.act.tab, .int .i64 s.act.rcd, .int .i64 s.act.mode, .int .i64 s.act.code] 45)
  rw [Addr.add_lit, Nat.zero_add]
  refine Eq.trans (show _ = (w.alloc (.cells #[.int .i64 s.call, .int .i64 s.thread, .int .i64 s.fr, .int .i64 s.to, .int .i64 s.act.kind, .int .i64 s.act.txn, .int .i64 s.act.tab, .int .i64 s.act.rcd, .int .i64 s.act.mode, .int .i64 s.act.code] 45)).cell? ⟨w.heap.size, j, none⟩ from rfl) (hc.trans ?_)
  rw [← hu, ← Array.getElem?_toList]
  rfl
theorem srow_one (s : Sp) : ∀ u ∈ srow s, u.oneCell' = true := by
  intro u hu
  simp [srow] at hu
  rcases hu with rfl | rfl | rfl | rfl | rfl | rfl | rfl | rfl | rfl | rfl <;> rfl
theorem map_ne {w : World} {b p : Nat} {es : Array MapEntry} {cl : Nat} {c : Array Value} {T : TypeId} {fr : Nat × Nat} (h : w.heap[b]? = some (.map es cl)) (k : w.heap[p]? = some (.cells c T fr)) : b ≠ p := by
  rintro rfl
  rw [h] at k
  cases k
/-- A row that grows by one span, in any world behind a new block. -/
theorem SRow.push {w W : World} {g0 : Nat} {v : Value} {l : List Sp} (h : SRow w g0 v l) (s : Sp) (hsm : l.length ≤ 10000) (hg0 : g0 ≤ w.heap.size) (hW : (w.alloc (.cells #[.int .i64 s.call, .int .i64 s.thread, .int .i64 s.fr, .int .i64 s.to, .int .i64 s.act.kind, .int .i64 s.act.txn, .int .i64 s.act.tab, .int .i64 s.act.rcd, .int .i64 s.act.mode, .int .i64 s.act.code] 45)).drew = W) :
    ∃ v' w1, (Builtin.append_ #[36, 36] 36 #[v, .slice (some ⟨w.heap.size, 0, none⟩) 1 1]).run Tryd.prog W = .ok v' w1 ∧ SRow w1 g0 v' (l ++ [s]) ∧ W.grownBy w1 v.ownBlock ∧ (∃ g cap, v' = .slice (some ⟨g, 0, none⟩) (l.length + 1) cap) ∧ (v'.ownBlock = v.ownBlock ∨ v'.ownBlock = some (w.heap.size + 1)) := by
  obtain ⟨i0, hi, hz0, hz1, hz2⟩ := info_parts infoS
  have hc := srow_cells w s
  rw [hW] at hc
  have hn : Nw w W := by rw [← hW]; exact ((Nw.refl w).alloc _).drew1
  have ha : SRow W g0 v l := own_keep h (hn.grownBy none) (fun _ _ => by simp)
  have hsz : W.heap.size = w.heap.size + 1 := by rw [← hW]; simp
  obtain ⟨v', w1, hrun, ho, hg, hp⟩ := run_append_fresh (P := Tryd.prog) W g0 36 36 45 i0 _ 10 80 Tryd.underlying36 hi hz0 hz1 hz2 rfl (by decide) v l.length _ ha
    ⟨w.heap.size, 0, none⟩ 1 1 (srow s) rfl hc (srow_one s) (by unfold maxLen; omega) (by omega) (by omega)
  have ho' : SRow w1 g0 v' (l ++ [s]) := by
    unfold SRow
    rw [List.length_append, srows_app]
    simpa [srows] using ho
  refine ⟨v', w1, hrun, ho', hg, ?_, by rw [hsz] at hp; exact hp⟩
  rcases own_form ho' with ⟨_, q⟩ | ⟨g, cap, rfl⟩
  · simp at q
  · exact ⟨g, cap, by simp⟩
set_option maxHeartbeats 1000000 in
/-- add(i, v) of a beginning: a span more. -/
theorem addBeg_any {w : World} {g0 p bc bb n : Nat} {v : Value} {l : List Sp} (h : Trk w g0 p v bc bb l n) (e : Ev) (hi : e.inv = true) (hc : hasC l e.call = false) (hp : 0 ≤ e.call ∧ 0 ≤ e.thread) (hf : fitE e) (hn : n < 900) (hl : l.length ≤ 900) (ix : Nat) :
    Calls Tryd.prog 29 #[.pointer (some ⟨p, 0, none⟩), .int .i64 ix, evV e] w fun x w' => x = .returned (.tuple #[]) ∧ ∃ v', Trk w' g0 p v' bc bb (l ++ [new ix e]) (n + 1) ∧ Below g0 w w' := by
  obtain ⟨ec, et, ei, ⟨k1, k2, k3, k4, k5, k6⟩⟩ := e
  simp only at hi
  subst hi
  have g1 : Nw w (w.alloc (.cells #[.int .i64 ec, .int .i64 et, .bool true, .int .i64 k1, .int .i64 k2, .int .i64 k3, .int .i64 k4, .int .i64 k5, .int .i64 k6] 31)) := (Nw.refl w).alloc _
  have hev := alloc_at w #[.int .i64 ec, .int .i64 et, .bool true, .int .i64 k1, .int .i64 k2, .int .i64 k3, .int .i64 k4, .int .i64 k5, .int .i64 k6] 31
  generalize hW1 : (w.alloc (.cells #[.int .i64 ec, .int .i64 et, .bool true, .int .i64 k1, .int .i64 k2, .int .i64 k3, .int .i64 k4, .int .i64 k5, .int .i64 k6] 31)) = w1 at g1 hev
  have h1 := h.nw g1
  have h1d := h.nw g1.drew1
  obtain ⟨es, cl, ob⟩ := h1d.calls.obj
  obtain ⟨es', cl', ob'⟩ := h1d.busy.obj
  have nbc : bc ≠ p := map_ne ob h1d.box
  have nbb : bb ≠ p := map_ne ob' h1d.box
  have nec : bc ≠ w.heap.size := map_ne ob hev
  have neb : bb ≠ w.heap.size := map_ne ob' hev
  obtain ⟨w2, r2, C2, G2⟩ := h1d.calls.begin (by omega) (s := new ix ⟨ec, et, true, ⟨k1, k2, k3, k4, k5, k6⟩⟩) (by simp [new]) hp.1 hf.1 hc
  have box2 := (G2.block p h1d.lt (by simp; exact nbc.symm)).trans h1d.box
  have ev2 := (G2.block w.heap.size (heap_lt hev) (by simp; exact nec.symm)).trans hev
  have row2 : SRow w2 g0 v l := own_keep h1d.row G2 (fun g q r => own_obj h1d.row q ob (by simp) (by simpa using r.symm))
  have B2 := h1d.busy.kept G2 (by simp; exact fun q => h.ne q.symm)
  have g2 : Nw w2 w2.drew := (Nw.refl w2).drew1
  obtain ⟨es2, cl2, ob2⟩ := (B2.nw g2).obj
  obtain ⟨es3, cl3, ob3⟩ := (C2.nw g2).obj
  obtain ⟨w3, r3, B3, G3⟩ := (B2.nw g2).begin (by omega) (s := new ix ⟨ec, et, true, ⟨k1, k2, k3, k4, k5, k6⟩⟩) (by simp [new]) hp.2 hf.2
  have box3 := (G3.block p (heap_lt ((g2.block p (heap_lt box2)).trans box2)) (by simp; exact nbb.symm)).trans ((g2.block p (heap_lt box2)).trans box2)
  have ev3 := (G3.block w.heap.size (heap_lt ((g2.block _ (heap_lt ev2)).trans ev2)) (by simp; exact neb.symm)).trans ((g2.block _ (heap_lt ev2)).trans ev2)
  have row2d : SRow w2.drew g0 v l := own_keep row2 (g2.grownBy none) (fun _ _ => by simp)
  have row3 : SRow w3 g0 v l := own_keep row2d G3 (fun g q r => own_obj row2d q ob2 (by simp) (by simpa using r.symm))
  have C3 := (C2.nw g2).kept G3 (by simp; exact h.ne)
  have hb := h.base
  have hgs : g0 ≤ w3.heap.size := Nat.le_trans hb.1 (Nat.le_of_lt (heap_lt box3))
  obtain ⟨v', w4, r4, row4, G4, ⟨g, cap', hv'⟩, hown⟩ := row3.push (new ix ⟨ec, et, true, ⟨k1, k2, k3, k4, k5, k6⟩⟩) (by omega) hgs rfl
  generalize hW4 : (w3.alloc _).drew = w3d at r4 G4
  have g3 : Nw w3 w3d := by rw [← hW4]; exact ((Nw.refl w3).alloc _).drew1
  have row3d : SRow w3d g0 v l := own_keep row3 (g3.grownBy none) (fun _ _ => by simp)
  have box3d := (g3.block p (heap_lt box3)).trans box3
  have nv : ∀ g, v.ownBlock = some g → g ≠ p := fun g q => own_obj row3d q box3d (by simp)
  have box4 := (G4.block p (heap_lt box3d) (fun q => nv p q.symm rfl)).trans box3d
  obtain ⟨esx, clx, obx⟩ := (C3.nw g3).obj
  obtain ⟨esy, cly, oby⟩ := (B3.nw g3).obj
  have C4 := (C3.nw g3).kept G4 (fun q => own_obj row3d q.symm obx (by simp) rfl)
  have B4 := (B3.nw g3).kept G4 (fun q => own_obj row3d q.symm oby (by simp) rfl)
  have hst := set_grown w4 ⟨p, 0, none⟩ v'
  obtain ⟨ao, cap, hv⟩ : ∃ a c, v = .slice a l.length c := by
    rcases own_form h.row with ⟨rfl, q⟩ | ⟨g, cap, rfl⟩
    · exact ⟨none, 0, by rw [q]⟩
    · exact ⟨_, _, rfl⟩
  subst hv
  refine (addBeg_walk p bc bb ec et ix k1 k2 k3 k4 k5 k6 ao l.length cap v' w w1 w2 w3 w4 (Lib.hid hW1) (heap_lt h1.box) (heap_lt hev) (heap_cell h1.box) (heap_cell h1.box) (heap_cell h1.box) (heap_cell hev) (heap_cell hev) (heap_cell hev) (heap_cell hev) (heap_cell hev) (heap_cell hev) (heap_cell hev) (heap_cell hev) (heap_cell hev) (Lib.hid r2) (heap_lt box2) (heap_lt ev2) (heap_cell box2) (heap_cell box2) (heap_cell box2) (heap_cell ev2) (heap_cell ev2) (heap_cell ev2) (heap_cell ev2) (heap_cell ev2) (heap_cell ev2) (heap_cell ev2) (heap_cell ev2) (heap_cell ev2) (Lib.hid r3) (heap_lt box3) (heap_lt ev3) (heap_cell box3) (heap_cell box3) (heap_cell box3) (heap_cell ev3) (heap_cell ev3) (heap_cell ev3) (heap_cell ev3) (heap_cell ev3) (heap_cell ev3) (heap_cell ev3) (heap_cell ev3) (heap_cell ev3) (Lib.hid (by rw [← hW4] at r4; exact r4)) (heap_cell box4) (heap_fz box4) _ _ _ hv').mono ?_
  rintro x w' ⟨rfl, rfl⟩
  refine ⟨rfl, v', ⟨hb, h.ne, ?_, own_keep row4 hst (fun g q r => own_obj row4 q box4 (by simp) (by simpa using r.symm)), C4.kept hst (by simp; exact nbc), B4.kept hst (by simp; exact nbb)⟩, ?_⟩
  · rw [set_heap v' box4]; rfl
  · have i1 := heap_lt h.box
    have i2 := h.calls.lt
    have i3 := h.busy.lt
    have i4 : w.heap.size ≤ w1.heap.size := g1.sz
    have i5 : w1.heap.size ≤ w2.heap.size := G2.size
    have i6 : w2.heap.size ≤ w3.heap.size := G3.size
    have j1 : w1.drew.heap.size = w1.heap.size := rfl
    have j2 : w2.drew.heap.size = w2.heap.size := rfl
    have j3 : w3.heap.size ≤ w3d.heap.size := g3.sz
    have b1 : Below g0 w w1.drew := Below.mono g1.drew1 (by omega)
    have b2 : Below g0 w w2 := Below.grown b1 G2 (by omega) (fun k hk => by simp at hk; omega)
    have b3 : Below g0 w w3 := Below.grown (b2.trans (Below.mono g2 (by omega))) G3 (by omega) (fun k hk => by simp at hk; omega)
    have b4 : Below g0 w w4 := Below.grown (b3.trans (Below.mono g3 (by omega))) G4 (by omega) (fun k hk => own_ge h.row hk)
    exact Below.setCell b4 hb.1 _
end Go.Proofs.YtekjmgdockfaiaaDoor
