
/- Numbers in a row of the call's own; the state of the law on firing once. -/
import Derived.Test.YtolpccchhjcddaaTkX
namespace Go.Proofs.Ytolpccchhjcddaa
open Go.RowKit Go.Shelf

/-- Numbers of int64, in a row that the call made itself. -/
def WS (w : World) (v : Value) (l : List Int) : Prop := w.ownsRow 0 2 1 v l.length (l.map (Value.int .i64))
theorem WS.form {w : World} {v : Value} {l : List Int} (h : WS w v l) : (v = .slice none 0 0 ∧ l = []) ∨ ∃ g cap, v = .slice (some ⟨g, 0, none⟩) l.length cap := by
  rcases h.2 with ⟨rfl, h0⟩ | ⟨g, cap, cur, rfl, _⟩
  · exact .inl ⟨rfl, List.length_eq_zero_iff.1 h0⟩
  · exact .inr ⟨g, cap, rfl⟩
theorem WS.tch {S : Nat → Prop} {w w' : World} {v : Value} {l : List Int} (h : WS w v l) (k : Tch S w w') (hn : ∀ g, v.ownBlock = some g → ¬ S g) : WS w' v l := by
  refine ⟨h.1, ?_⟩
  rcases h.2 with h0 | ⟨g, cap, cur, rfl, hb, hg, rest⟩
  · exact .inl h0
  · exact .inr ⟨g, cap, cur, rfl, hb, (k.block g (Array.getElem?_eq_some_iff.1 hg).1 (hn g rfl)).trans hg, rest⟩
theorem WS.cell {w : World} {g cap : Nat} {l : List Int} (h : WS w (.slice (some ⟨g, 0, none⟩) l.length cap) l) (i : Nat) (hi : i < l.length) : w.cell? ⟨g, i, none⟩ = some (.int .i64 (l.getD i 0)) :=
  (World.ownsRow.cellAt h i (by omega)).trans (by simp [List.getD, hi])
theorem WS.frozen {w : World} {g cap n : Nat} {l : List Int} (h : WS w (.slice (some ⟨g, 0, none⟩) n cap) l) (hn : n = l.length) (j : Nat) : w.frozen? ⟨g, j, none⟩ = false := by
  subst hn
  exact World.ownsRow.frozenAt h j
theorem WS.set {w : World} {g cap : Nat} {l : List Int} (h : WS w (.slice (some ⟨g, 0, none⟩) l.length cap) l) (i : Nat) (x : Int) : WS (w.setCell ⟨g, i, none⟩ (.int .i64 x)) (.slice (some ⟨g, 0, none⟩) l.length cap) (l.set i x) := by
  have h1 := (World.ownsRow.stored h i (.int .i64 x)).1
  unfold WS
  rw [List.length_set, List.map_set]
  exact h1
theorem WS.lt {w : World} {v : Value} {l : List Int} (h : WS w v l) {k : Nat} (hk : v.ownBlock = some k) : k < w.heap.size := (World.ownsRow.lt h k hk).2
theorem info64 : (Try.prog.info? 2).map (fun i => (i.zero, i.size, i.bytes)) = some (some (.int .i64 0), 1, 8) := by kernel_rfl
theorem WS.push (w : World) (v : Value) (l : List Int) (x : Int) (h : WS w v l) (hsm : l.length ≤ 100000) :
    ∃ v' w1, (Builtin.append_ #[51, 51] 51 #[v, .slice (some ⟨w.heap.size, 0, none⟩) 1 1]).run Try.prog (w.alloc (.cells #[.int .i64 x] 2)) = .ok v' w1 ∧ WS w1 v' (l ++ [x]) ∧ Tch (fun k => v.ownBlock = some k) w w1 ∧
      (∀ k, v'.ownBlock = some k → v.ownBlock = some k ∨ w.heap.size ≤ k) := by
  obtain ⟨i0, hi, hz0, hz1, hz2⟩ := info_parts info64
  have ha : WS (w.alloc (.cells #[.int .i64 x] 2)) v l := h.tch (Tch.nw (S := fun _ => False) ((Nw.refl w).alloc _)) (fun _ _ e => e)
  have hc : (w.alloc (.cells #[.int .i64 x] 2)).cell? ⟨w.heap.size, 0, none⟩ = some (.int .i64 x) := by simp [go_sem]
  obtain ⟨v', w1, hrun, ho, hg, hp⟩ := run_append_fresh (P := Try.prog) (w.alloc (.cells #[.int .i64 x] 2)) 0 51 51 2 i0 _ 1 8 Try.underlying51 hi hz0 hz1 hz2 rfl (by decide) v l.length _ ha
    ⟨w.heap.size, 0, none⟩ 1 1 [.int .i64 x] rfl (by
      intro j u hu
      match j, hu with
      | 0, hu => simp at hu; subst hu; exact hc) (by simp [Value.oneCell']) (by unfold maxLen; omega) (by omega) (Nat.zero_le _)
  refine ⟨v', w1, hrun, ?_, (Tch.alloc (Tch.refl _ w) _).grown hg (fun k e => .inl e), fun k e => ?_⟩
  · unfold WS
    rw [List.length_append, List.map_append]
    exact ho
  · rcases hp with hp | hp
    · exact .inl (hp ▸ e)
    · rw [hp] at e
      simp at e
      exact .inr (by omega)

/-- What is wanted lies in a row that no clock holds. -/
structure Wt (w0 w : World) (v : Value) (l : List Int) (F : Nat → Prop) : Prop where
  ws : WS w v l
  new : ∀ k, v.ownBlock = some k → w0.heap.size ≤ k ∧ ¬ F k
theorem Wt.tch {w0 w w' : World} {v : Value} {l : List Int} {F F' : Nat → Prop} (h : Wt w0 w v l F) (k : Tch F w w') (hF : ∀ i, F' i → F i ∨ w.heap.size ≤ i) : Wt w0 w' v l F' :=
  ⟨h.ws.tch k fun g e => (h.new g e).2, fun g e => ⟨(h.new g e).1, fun q => (hF g q).elim (h.new g e).2 (fun q => by have := h.ws.lt e; omega)⟩⟩
theorem Wt.nw {w0 w w' : World} {v : Value} {l : List Int} {F : Nat → Prop} (h : Wt w0 w v l F) (k : Nw w w') : Wt w0 w' v l F := ⟨h.ws.tch (Tch.nw (S := fun _ => False) k) (fun _ _ e => e), h.new⟩

/-- The clock, what is wanted, and the box of the last that fired. -/
structure St (w0 W : World) (c : Nat) (t : Int) (s : List Tm) (F : Nat → Prop) (v : Value) (want : List Int) (b : Nat) (last : Tm) : Prop where
  ac : Acc w0 W c t s F
  wt : Wt w0 W v want F
  bx : TRow W b 1 [last]
  bn : w0.heap.size ≤ b
  bF : ¬ F b
  bv : v.ownBlock ≠ some b
theorem St.nw {w0 W W' : World} {c : Nat} {t : Int} {s : List Tm} {F : Nat → Prop} {v : Value} {want : List Int} {b : Nat} {last : Tm} (h : St w0 W c t s F v want b last) (k : Nw W W') : St w0 W' c t s F v want b last :=
  ⟨h.ac.step k, h.wt.nw k, h.bx.kept (k.block b h.bx.lt), h.bn, h.bF, h.bv⟩
/-- The timers of a Pass, in a block that nothing else holds. -/
structure Lt (w0 W : World) (vl : Value) (d : List Tm) (F : Nat → Prop) (v : Value) (b : Nat) : Prop where
  ts : TS W vl d
  apart : ∀ k, vl.ownBlock = some k → w0.heap.size ≤ k ∧ ¬ F k ∧ v.ownBlock ≠ some k ∧ k ≠ b
theorem Lt.nw {w0 W W' : World} {vl : Value} {d : List Tm} {F : Nat → Prop} {v : Value} {b : Nat} (h : Lt w0 W vl d F v b) (k : Nw W W') : Lt w0 W' vl d F v b := ⟨h.ts.nw k, h.apart⟩
theorem St.pass {w0 W : World} {c : Nat} {t : Int} {s : List Tm} {F : Nat → Prop} {v : Value} {want : List Int} {b : Nat} {last : Tm} (h : St w0 W c t s F v want b last) (hsm : s.length ≤ 50000) (n : Int) (h0 : 0 ≤ n) (h1 : n ≤ 1000) (ht : 0 ≤ t) (hb : t + n ≤ 1000000) :
    Calls Try.prog 11 #[.pointer (some ⟨c, 0, none⟩), .int .i64 n] W fun e W' => ∃ vl F', e = .returned (.tuple #[vl, .int .i64 0]) ∧ St w0 W' c (t + n) (late (t + n) s) F' v want b last ∧ Lt w0 W' vl (due (t + n) s) F' v b := by
  refine (pass_any c t s F n W h.ac.ck hsm h0 h1).mono ?_
  rw [passT_small t n ht h0 hb]
  rintro e W' ⟨vl, F', rfl, p1, p2, p3, p4, p5⟩
  refine ⟨vl, F', rfl, ⟨⟨p3, fun k e => h.ac.new k (p4 k e), nw_tch h.ac.nw p5 h.ac.new⟩, h.wt.tch p5 (fun i e => .inl (p4 i e)), h.bx.tch p5 h.bF, h.bn, fun e => h.bF (p4 b e), h.bv⟩, p1, fun k e => ⟨Nat.le_trans h.ac.nw.sz (p2 k e), fun q => ?_, fun q => ?_, fun q => ?_⟩⟩
  · have := h.ac.ck.own k (p4 k q); have := p2 k e; omega
  · have := h.wt.ws.lt q; have := p2 k e; omega
  · have := h.bx.lt; have := p2 k e; omega
/-- What the walk asks of the cells. -/
theorem St.cells {w0 W : World} {c g cap n : Nat} {t : Int} {s : List Tm} {F : Nat → Prop} {want : List Int} {b : Nat} {last : Tm} (h : St w0 W c t s F (.slice (some ⟨g, 0, none⟩) n cap) want b last) (hn : want.length = n) :
    (∀ i, i < n → W.cell? ⟨g, i, none⟩ = some (.int .i64 (want.getD i 0))) ∧ (∀ j, W.frozen? ⟨g, j, none⟩ = false) ∧ g < W.heap.size ∧ b < W.heap.size ∧ g ≠ b ∧
      W.cell? ⟨b, 0, none⟩ = some (.int .i64 last.1) ∧ W.cell? ⟨b, 1, none⟩ = some (.int .i64 last.2.1) ∧ W.cell? ⟨b, 2, none⟩ = some (.int .i64 last.2.2) ∧ (∀ j, W.frozen? ⟨b, j, none⟩ = false) := by
  subst hn
  obtain ⟨c0, c1, c2⟩ := h.bx.cells 0 (by simp)
  exact ⟨fun i hi => h.wt.ws.cell i hi, fun j => h.wt.ws.frozen rfl j, h.wt.ws.lt rfl, h.bx.lt, fun e => h.bv (by rw [← e]; rfl), c0, c1, c2, h.bx.frozen⟩
/-- One has fired: it is wanted no more, and it is the last. -/
theorem St.fire {w0 W : World} {c g cap n : Nat} {t : Int} {s : List Tm} {F : Nat → Prop} {want : List Int} {b : Nat} {last : Tm} (h : St w0 W c t s F (.slice (some ⟨g, 0, none⟩) n cap) want b last) (hn : want.length = n) (i : Nat) (x : Tm) (vl : Value) (d : List Tm) (hl : Lt w0 W vl d F (.slice (some ⟨g, 0, none⟩) n cap) b) :
    St w0 ((((W.setCell ⟨g, i, none⟩ (.int .i64 0)).setCell ⟨b, 0, none⟩ (.int .i64 x.1)).setCell ⟨b, 1, none⟩ (.int .i64 x.2.1)).setCell ⟨b, 2, none⟩ (.int .i64 x.2.2)) c t s F (.slice (some ⟨g, 0, none⟩) n cap) (want.set i 0) b x ∧
    Lt w0 ((((W.setCell ⟨g, i, none⟩ (.int .i64 0)).setCell ⟨b, 0, none⟩ (.int .i64 x.1)).setCell ⟨b, 1, none⟩ (.int .i64 x.2.1)).setCell ⟨b, 2, none⟩ (.int .i64 x.2.2)) vl d F (.slice (some ⟨g, 0, none⟩) n cap) b := by
  subst hn
  have t1 : Tch (fun k => k = g) W (W.setCell ⟨g, i, none⟩ (.int .i64 0)) := Tch.set (S := fun k => k = g) (Tch.refl _ W) (.inl rfl) _
  have hgb : b ≠ g := fun e => h.bv (by rw [e]; rfl)
  have hw := h.wt.ws.set i 0
  have hb := h.bx.tch t1 hgb
  have t2 : Tch (fun k => k = b) (W.setCell ⟨g, i, none⟩ (.int .i64 0)) ((((W.setCell ⟨g, i, none⟩ (.int .i64 0)).setCell ⟨b, 0, none⟩ (.int .i64 x.1)).setCell ⟨b, 1, none⟩ (.int .i64 x.2.1)).setCell ⟨b, 2, none⟩ (.int .i64 x.2.2)) :=
    Tch.set (S := fun k => k = b) (Tch.set (S := fun k => k = b) (Tch.set (S := fun k => k = b) (Tch.refl _ _) (.inl rfl) _) (.inl rfl) _) (.inl rfl) _
  have t3 := (t1.mono (S' := fun k => k = g ∨ k = b) (fun i _ e => .inl e)).trans (t2.mono (S' := fun k => k = g ∨ k = b) (fun i _ e => .inr e))
  have hg0 := h.wt.new g rfl
  refine ⟨⟨h.ac.other t3 (fun i e => ?_) (fun i e q => ?_), ⟨hw.tch t2 (fun k e q => ?_), fun k e => ⟨(h.wt.new k e).1, (h.wt.new k e).2⟩⟩, hb.set 0 (by simp) x, h.bn, h.bF, h.bv⟩, hl.ts.tch t3 (fun k e q => ?_), hl.apart⟩
  · rcases e with rfl | rfl
    · exact hg0.1
    · exact h.bn
  · rcases q with rfl | rfl
    · exact hg0.2 e
    · exact h.bF e
  · subst q
    exact h.bv e
  · rcases q with rfl | rfl
    · exact (hl.apart k e).2.2.1 rfl
    · exact (hl.apart k e).2.2.2 rfl
end Go.Proofs.Ytolpccchhjcddaa
