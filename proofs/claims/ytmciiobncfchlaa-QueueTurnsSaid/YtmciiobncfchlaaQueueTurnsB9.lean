/- Texts merged: QvK, QvJ, QvL, QvV, QvW -/
import Derived.Test.YtmciiobncfchlaaQueueTurnsB8
import Derived.Lib.SliceRun
import Derived.Deep.Upon
import Derived.StillTailTactics

/- The developers' package queue: DeleteFunc of requests; without. -/
section
namespace Go.Proofs.Ytmciiobncfchlaa
open Go.RowKit
set_option linter.unusedVariables false      -- a contract need not use every name

abbrev zQ : Value := .agg #[.int .i64 0, .int .i64 0, .int .i64 0, .int .i64 0, .int .i64 0]
theorem zeroQ (w : World) : (zeroValue 41).run Try.prog w = .ok zQ w := by kernel_rfl
theorem clear_rqs (w : World) (g o n c : Nat) (hn : 0 < n) (hc : ∀ j, j < n * 5 → (w.cell? ⟨g, o + j, none⟩).isSome = true) (hf : ∀ j, w.frozen? ⟨g, j, none⟩ = false) :
    ∃ vs, ∀ ty, (Builtin.clear_ #[25] ty #[.slice (some ⟨g, o, none⟩) n c]).run Try.prog w = .ok (.tuple #[]) (w.setCells g o vs) := by
  obtain ⟨m, rfl⟩ : ∃ m, n = m + 1 := ⟨n - 1, by omega⟩
  refine ⟨(Builtin.zeroCells zQ.cells (m + 1)).toList, fun ty => ?_⟩
  have hlen : (Builtin.zeroCells zQ.cells (m + 1)).toList.length = (m + 1) * 5 := by simp [Builtin.zeroCells, Value.cells]
  have hst := run_storeCells_cells (P := Try.prog) g o (Builtin.zeroCells zQ.cells (m + 1)).toList 0 w (by rw [hlen]; simpa using hc) (by intro j _; exact hf _) (by
    intro v hv
    obtain ⟨i, hi, rfl⟩ := List.getElem_of_mem hv
    simp only [Builtin.zeroCells, Array.toList_map, List.getElem_map]
    have h5 : ∀ i : Nat, i < 5 → (zQ.cells[i]!).oneCell' = true := by decide
    exact h5 _ (Nat.mod_lt _ (by decide)))
  simp only [Nat.add_zero] at hst
  simp [Builtin.clear_, run_underlying Try.underlying25, zeroQ, hst]
theorem Nw.rls {a b : World} (h : Nw a b) : (∀ k o, k < a.heap.size → b.cell? ⟨k, o, none⟩ = a.cell? ⟨k, o, none⟩) ∧ (∀ k o, k < a.heap.size → b.frozen? ⟨k, o, none⟩ = a.frozen? ⟨k, o, none⟩) := ⟨fun _ _ h1 => h.cell h1, fun _ _ h1 => h.froz h1⟩
theorem rq_there {w : World} {g0 g n cap : Nat} {l : List Rq} (h : RqOwn w g0 (.slice (some ⟨g, 0, none⟩) n cap) l) (hn : n = l.length) (j : Nat) (hj : j < l.length * 5) : (w.cell? ⟨g, j, none⟩).isSome = true := by
  subst hn
  have e : w.cell? ⟨g, j, none⟩ = (rowsOf rqrow l)[j]? := World.ownsRow.cellAt h j hj
  rw [e, List.getElem?_eq_getElem (by rw [rows_len (sz := 5) (fun _ => rfl)]; exact hj)]; rfl
theorem tch_cells (g : Nat) : ∀ (vs : List Value) (o : Nat) (w : World), Tch (fun k => k = g) w (w.setCells g o vs)
  | [], _, w => Tch.refl _ w
  | v :: r, o, w => by
    rw [World.setCells]
    exact (setCell_at w ⟨g, o, none⟩ v).trans (tch_cells g r (o + 1) _)
def putQ (w : World) (g a : Nat) (s : Rq) : World := ((((w.setCell ⟨g, a * 5, none⟩ (.int .i64 s.id)).setCell ⟨g, a * 5 + 1, none⟩ (.int .i64 s.txn)).setCell ⟨g, a * 5 + 2, none⟩ (.int .i64 s.md)).setCell ⟨g, a * 5 + 3, none⟩ (.int .i64 s.wt)).setCell ⟨g, a * 5 + 4, none⟩ (.int .i64 s.sn)
theorem own_putQ {w : World} {g0 g n cap a : Nat} {R : List Rq} (h : RqOwn w g0 (.slice (some ⟨g, 0, none⟩) n cap) R) (hn : n = R.length) (ha : a < R.length) (s : Rq) : RqOwn (putQ w g a s) g0 (.slice (some ⟨g, 0, none⟩) n cap) (R.set a s) := by
  have l1 : ∀ x : Rq, n = (R.set a x).length := fun x => by rw [List.length_set]; exact hn
  have k1 : ∀ x : Rq, a < (R.set a x).length := fun x => by rw [List.length_set]; exact ha
  have h0 := own_upd h hn a ha 0 (by decide) (.int .i64 s.id) ⟨s.id, R[a].txn, R[a].md, R[a].wt, R[a].sn⟩ rfl
  have h1 := own_upd h0 (l1 _) a (k1 _) 1 (by decide) (.int .i64 s.txn) ⟨s.id, s.txn, R[a].md, R[a].wt, R[a].sn⟩ (by rw [List.getElem_set_self]; rfl)
  rw [List.set_set] at h1
  have h2 := own_upd h1 (l1 _) a (k1 _) 2 (by decide) (.int .i64 s.md) ⟨s.id, s.txn, s.md, R[a].wt, R[a].sn⟩ (by rw [List.getElem_set_self]; rfl)
  rw [List.set_set] at h2
  have h3 := own_upd h2 (l1 _) a (k1 _) 3 (by decide) (.int .i64 s.wt) ⟨s.id, s.txn, s.md, s.wt, R[a].sn⟩ (by rw [List.getElem_set_self]; rfl)
  rw [List.set_set] at h3
  have h4 := own_upd h3 (l1 _) a (k1 _) 4 (by decide) (.int .i64 s.sn) s (by rw [List.getElem_set_self]; rfl)
  rw [List.set_set] at h4
  exact h4
theorem putQ_tch (w : World) (g a : Nat) (s : Rq) : Tch (fun k => k = g) w (putQ w g a s) := by
  unfold putQ
  exact (((((Tch.refl (fun k => k = g) w).set (p := ⟨g, a * 5, none⟩) (.inl rfl) _).set (p := ⟨g, a * 5 + 1, none⟩) (.inl rfl) _).set (p := ⟨g, a * 5 + 2, none⟩) (.inl rfl) _).set (p := ⟨g, a * 5 + 3, none⟩) (.inl rfl) _).set (p := ⟨g, a * 5 + 4, none⟩) (.inl rfl) _
abbrev outQ (p : Rq → Bool) (l : List Rq) : List Rq := l.filter fun s => !p s
/-- What the loop of DeleteFunc keeps: a requests moved to the front, b looked at. -/
structure Del (p : Rq → Bool) (w wr : World) (g0 g n cap a b : Nat) (l R : List Rq) : Prop where
  ab : a < b
  bn : b ≤ l.length
  len : R.length = l.length
  front : R.take a = outQ p (l.take b)
  rest : R.drop b = l.drop b
  row : RqOwn wr g0 (.slice (some ⟨g, 0, none⟩) n cap) R
  tch : Tch (fun k => k = g) w wr
theorem taken {α : Type} {l : List α} {b : Nat} (h : b < l.length) : l.take (b + 1) = l.take b ++ [l[b]] := by
  rw [List.take_add_one, List.getElem?_eq_getElem h]; rfl
theorem out_end {p : Rq → Bool} {L : List Rq} {s : Rq} (h : p s = true) : outQ p (L ++ [s]) = outQ p L := by
  simp only [outQ, List.filter_append, List.filter_cons, h, Bool.not_true, Bool.false_eq_true, if_false, List.filter_nil, List.append_nil]
theorem out_on {p : Rq → Bool} {L : List Rq} {s : Rq} (h : p s = false) : outQ p (L ++ [s]) = outQ p L ++ [s] := by
  simp only [outQ, List.filter_append, List.filter_cons, h, Bool.not_false, if_true, List.filter_nil]
theorem drops_at {α : Type} {R l : List α} {b : Nat} (h : R.drop b = l.drop b) (hb : b < l.length) (hR : R.length = l.length) : ∃ hr : b < R.length, R[b] = l[b] := by
  refine ⟨by omega, ?_⟩
  have := congrArg (fun x => x[0]?) h
  simp only [List.getElem?_drop, Nat.add_zero] at this
  rw [List.getElem?_eq_getElem hb, List.getElem?_eq_getElem (by omega)] at this
  exact Option.some.inj this
theorem drops_up {α : Type} {R l : List α} {b : Nat} (h : R.drop b = l.drop b) : R.drop (b + 1) = l.drop (b + 1) := by
  rw [← List.drop_drop, ← List.drop_drop, h]
section
variable {p : Rq → Bool} {w wr wr' : World} {g0 g n cap a b : Nat} {l R : List Rq}
theorem Del.skip (h : Del p w wr g0 g n cap a b l R) (hb : b < l.length) (he : p l[b] = true) (g' : Nw wr wr') : Del p w wr' g0 g n cap a (b + 1) l R :=
  ⟨by have := h.ab; omega, hb, h.len, by rw [h.front, taken hb, out_end he], drops_up h.rest, onw h.row g', h.tch.trans (Tch.nw g')⟩
theorem Del.move (h : Del p w wr g0 g n cap a b l R) (hn : n = l.length) (hb : b < l.length) (he : p l[b] = false) (g' : Nw wr wr') : Del p w (putQ wr' g a l[b]) g0 g n cap (a + 1) (b + 1) l (R.set a l[b]) := by
  have hab := h.ab
  have hR := h.len
  have ha : a < R.length := by omega
  refine ⟨by omega, hb, by simp [hR], ?_, ?_, ?_, ?_⟩
  · rw [taken (by simpa using ha), taken hb]
    have e1 : (R.set a l[b]).take a = R.take a := List.take_set_of_le (Nat.le_refl a)
    rw [e1, h.front, out_on he]
    simp
  · rw [List.drop_set_of_lt (by omega)]; exact drops_up h.rest
  · exact own_putQ (onw h.row g') (by omega) ha _
  · exact (h.tch.trans (Tch.nw g')).trans (putQ_tch _ _ _ _)
end
theorem takes_filter {p : Rq → Bool} {l : List Rq} {j : Nat} (hj : j < l.length) (he : p l[j] = true) (hF : ∀ i (hi : i < l.length), i < j → p l[i] = false) : l.take j = outQ p (l.take (j + 1)) := by
  rw [taken hj, out_end he]
  symm
  rw [outQ, List.filter_eq_self]
  intro s hs
  obtain ⟨i, hi, rfl⟩ := List.getElem_of_mem hs
  simp at hi
  simp [hF i (by omega) (by omega)]
theorem out_all {p : Rq → Bool} {l : List Rq} (h : ∀ s ∈ l, p s = false) : outQ p l = l := by
  rw [outQ, List.filter_eq_self]
  intro s hs
  simp [h s hs]
set_option maxRecDepth 100000 in
set_option maxHeartbeats 4000000 in
theorem dDelete (p : Rq → Bool) (f : Value) (g0 : Nat) (v : Value) (l : List Rq) (w : World) (hl : l.length ≤ 1000) (h : RqOwn w g0 v l) (hf : Tells w f p) (hfr : ∀ w1, Tch (fun k => v.ownBlock = some k) w w1 → Tells w1 f p) :
    Calls Try.prog 76 #[v, f] w fun e w' => ∃ v', e = .returned v' ∧ RqAt w' v' (outQ p l) ∧ capOk v' ∧ (∀ b o n c, v' = .slice (some ⟨b, o, none⟩) n c → v.ownBlock = some b ∨ (outQ p l) = []) ∧ Tch (fun k => v.ownBlock = some k) w w' := by
  have HI0 := dIndex v f p l w hl (RqOwn.rd h) hf
  have hf' := hf
  obtain ⟨gf, lb, rfl, eg, _⟩ := hf'
  obtain ⟨hfo, -⟩ : True ∧ True := ⟨trivial, trivial⟩
  obtain ⟨px, hpx⟩ : ∃ px, plc p l = px := ⟨_, rfl⟩
  rw [hpx] at HI0
  have HI := Lib.hid HI0
  clear HI0
  rcases plc_form p l with ⟨h1, h2⟩ | ⟨j, h1, hj, he, hF⟩
  · obtain rfl := hpx.symm.trans h1
    obtain ⟨a, c, rfl⟩ := (RqOwn.rd h).form
    have HR := Lib.hid h
    clear h hfr hf
    go_enter Try.func76, Try.ntmps76
    go_wp2_with (go_at_call 70; refine HI.out.mono ?_; rintro e w1 ⟨rfl, g1⟩)
    go_ret
    exact ⟨_, rfl, by rw [out_all h2]; exact RqOwn.rd (onw HR.out g1), RqOwn.cap HR.out, fun b o n k e => by
      rcases oform HR.out with ⟨e2, z⟩ | ⟨g, cap, e2⟩
      · exact .inr (by rw [out_all h2]; exact List.length_eq_zero_iff.1 z)
      · have e3 := e2.symm.trans e
        simp only [Value.slice.injEq, Option.some.injEq, Addr.mk.injEq] at e3
        refine .inl ?_
        rw [e2, ← e3.1.1]; rfl, Tch.nw g1⟩
  obtain rfl := hpx.symm.trans h1
  obtain ⟨g, cap, rfl, hg0, hgl, _⟩ := RqOwn.at h hj
  have hcap := RqOwn.cap h
  have hcap : l.length ≤ cap := hcap
  have d0 : ((j : Int) == -1) = false := by simp
  have HX := Lib.hid (And.intro he hF)
  have HFr := Lib.hid hfr
  have H := Lib.hid h
  clear he hF hfr hf h
  go_enter Try.func76, Try.ntmps76
  go_wp2_with (go_at_call 70; refine HI.out.mono ?_; rintro e w1 ⟨rfl, g1⟩)
  have HD : Hid (Del p w w1 g0 g l.length cap j (j + 1) l l) := Lib.hid ⟨by omega, hj, rfl, takes_filter hj HX.out.1 HX.out.2, rfl, onw H.out g1, Tch.nw g1⟩
  clear HX H HI g1
  case _ =>
    go_loopw [5, 6] (fun i k wr => ∃ (a b : Nat) (R : List Rq), i = .int .i64 a ∧ k = .int .i64 b ∧ Del p w wr g0 g l.length cap a b l R) (fun _ k _ => l.length - (intOf k).toNat)
    case atStart => exact ⟨j, j + 1, l, rfl, by go_num, HD.out⟩
    case round =>
      obtain ⟨a, b, R, rfl, rfl, hD⟩ := hrel
      have hab := hD.ab
      have hbn := hD.bn
      by_cases hlt : b < l.length
      · obtain ⟨hrb, hRb⟩ := drops_at hD.rest hlt hD.len
        obtain ⟨s, hs⟩ : ∃ s, l[b] = s := ⟨_, rfl⟩
        rw [hs] at hRb
        have hcell : ∀ c u, (rqrow s)[c]? = some u → wr.cell? ⟨g, b * 5 + c, none⟩ = some u := fun c u hu => own_cell hD.row hD.len.symm b hrb c u (by rw [hRb]; exact hu)
        have c0 := hcell 0 _ rfl
        have c1 := hcell 1 _ rfl
        have c2 := hcell 2 _ rfl
        have c3 := hcell 3 _ rfl
        have c4 := hcell 4 _ rfl
        simp only [Nat.add_zero] at c0
        have hgl := olt hD.row rfl
        have hT := HFr.out wr (hD.tch.mono fun i _ e => by rw [e]; rfl)
        obtain ⟨gf', lb', eqf, _, hTT⟩ := hT
        simp only [Value.func.injEq, Fn.func.injEq, true_and] at eqf
        obtain ⟨rfl, rfl⟩ := eqf
        have HE := Lib.hid (hTT s)
        obtain ⟨B, hB⟩ : ∃ B, p s = B := ⟨_, rfl⟩
        rw [hB] at HE
        have HB := Lib.hid (show p l[b] = B by rw [hs]; exact hB)
        have HS := Lib.hid hs
        have HR := Lib.hid hD
        clear hB hcell hs hRb hTT
        have g6 : Nw wr (wr.alloc (.cells #[.int .i64 s.id, .int .i64 s.txn, .int .i64 s.md, .int .i64 s.wt, .int .i64 s.sn] 41)) := (Nw.refl wr).alloc _
        have hq6 := Lib.hid (RqB.made wr s.id s.txn s.md s.wt s.sn 41)
        cases B
        case true =>
          clear hD
          go_wp2_with (go_at_fn gf; refine (HE.out _ g6).mono ?_; rintro e w1 ⟨rfl, g1⟩)
          go_roundw
          case rel => exact ⟨a, b + 1, R, rfl, by go_num, HR.out.skip hlt HB.out (g6.trans g1)⟩
          case measure => simp [intOf]; omega
        case false =>
          have har : a < R.length := by have := hD.len; omega
          have k0 : ∀ c, c < 5 → ∃ u, wr.cell? ⟨g, a * 5 + c, none⟩ = some u := fun c hc => by
            have : c < (rqrow R[a]).length := hc
            exact ⟨_, own_cell hD.row hD.len.symm a har c _ (List.getElem?_eq_getElem this)⟩
          obtain ⟨y0, a0⟩ := k0 0 (by omega)
          obtain ⟨y1, a1⟩ := k0 1 (by omega)
          obtain ⟨y2, a2⟩ := k0 2 (by omega)
          obtain ⟨y3, a3⟩ := k0 3 (by omega)
          obtain ⟨y4, a4⟩ := k0 4 (by omega)
          simp only [Nat.add_zero] at a0
          have fz := fun c => own_frz hD.row hD.len.symm c
          have z0 := fz (a * 5)
          have z1 := fz (a * 5 + 1)
          have z2 := fz (a * 5 + 2)
          have z3 := fz (a * 5 + 3)
          have z4 := fz (a * 5 + 4)
          have hRl := hD.len
          have hai : (a : Int) < (l.length : Int) := by omega
          clear k0 fz hD
          go_wp2_with (go_at_fn gf; refine (HE.out _ g6).mono ?_; rintro e w1 ⟨rfl, g1⟩; obtain ⟨hc1, hf1⟩ := g1.rls)
          go_roundw
          case rel => exact ⟨a + 1, b + 1, _, by go_num, by go_num, by have := HR.out.move rfl hlt HB.out (g6.trans g1); rw [HS.out] at this; exact this⟩
          case measure => simp [intOf]; omega
      · have hbe : b = l.length := by omega
        subst hbe
        have HR := Lib.hid hD
        have hlen := hD.len
        have hcc : ∀ q, q < (l.length - a) * 5 → (wr.cell? ⟨g, a * 5 + q, none⟩).isSome = true := fun q hq => rq_there hD.row hlen.symm (a * 5 + q) (by omega)
        obtain ⟨vs, hvs⟩ := clear_rqs wr g (a * 5) (l.length - a) (cap - a) (by omega) hcc (fun q => own_frz hD.row hlen.symm q)
        have e1 : ((l.length : Int) - (a : Int)).toNat = l.length - a := by omega
        have hne : ¬ cap = a := by omega
        clear hD hcc
        go_wp2
        go_ret
        have hfr := HR.out.front
        rw [List.take_length] at hfr
        have hpl : (outQ p l).length = a := by rw [← hfr, List.length_take]; omega
        have hT := tch_cells g vs (a * 5) wr
        refine ⟨_, rfl, ⟨_, cap, by rw [hpl]; rfl, .inr ⟨g, 0, rfl, Nat.lt_of_lt_of_le (olt HR.out.row rfl) hT.size, fun i hi c u hu => ?_⟩⟩, by show a ≤ cap; omega, fun b o n c e => by
          injection e with e _ _
          injection e with e
          injection e with e _ _
          rw [← e]; exact .inl rfl, (HR.out.tch.trans hT).mono fun i _ e => by rw [e]; rfl⟩
        have hc : c < 5 := by have := (List.getElem?_eq_some_iff.1 hu).1; simpa [rqrow] using this
        rw [Nat.zero_add, World.cell?_setCells_out g vs _ wr _ (fun _ _ => .inl (show i * 5 + c < a * 5 by omega))]
        have hiR : i < R.length := by omega
        refine own_cell HR.out.row hlen.symm i hiR c u ?_
        have hx : (outQ p l)[i] = R[i] := by
          have : ∀ (M : List Rq) (e : R.take a = M) (h : i < M.length), M[i] = R[i] := fun M e h => by subst e; simp
          exact this _ hfr hi
        rw [← hx]; exact hu
end Go.Proofs.Ytmciiobncfchlaa
end

/- The developers' package queue: Ask. -/
section
namespace Go.Proofs.Ytmciiobncfchlaa
open Go.RowKit Go.Maps Go.ChangeMaps
set_option linter.unusedVariables false      -- a contract need not use every name

theorem plc_ne (p : Rq → Bool) (q : List Rq) : (plc p q != -1) = q.any p := by
  rw [← plc_any]
  rcases plc_form p q with ⟨h1, _⟩ | ⟨k, h1, _⟩
  · rw [h1]; rfl
  · rw [h1]
    have : ((k : Int) != -1) = true := by rw [bne_iff_ne]; omega
    rw [this]; simp
theorem any_or {α : Type} (q : List α) (a b : α → Bool) : (q.any fun x => a x || b x) = (q.any a || q.any b) := by
  induction q with
  | nil => rfl
  | cons x q ih => rw [List.any_cons, List.any_cons, List.any_cons, ih]; cases a x <;> cases b x <;> cases q.any a <;> cases q.any b <;> rfl
/-- A slice that lies in new blocks. -/
def Fresh (w : World) (v : Value) (q : List Rq) : Prop := ∀ b o n c, v = .slice (some ⟨b, o, none⟩) n c → w.heap.size ≤ b ∨ q = []
theorem Fresh.nil (w : World) (q : List Rq) : Fresh w (.slice none 0 0) q := fun b o n c e => by simp at e
theorem RqOwn.fresh {w w0 : World} {g0 : Nat} {v : Value} {q : List Rq} (h : RqOwn w g0 v q) (hb : w0.heap.size ≤ g0) : Fresh w0 v q := fun b o n c e => by
  subst e
  exact .inl (Nat.le_trans hb (oge h rfl))
theorem Fresh.old {w0 w : World} {v : Value} {q : List Rq} (h : Fresh w v q) (g : Nw w0 w) : Fresh w0 v q := fun b o n c e => (h b o n c e).imp (fun h => Nat.le_trans g.sz h) (fun h => h)
/-- What a call of the developers' gives that returns a head, whether it was granted, and an error; a head and an error. -/
def HD2 (X : Hq × Bool × Int) (w : World) (e : Ending) (w' : World) : Prop := ∃ v', e = .returned (.tuple #[hdV X.1.t X.1.r v' X.1.W, .bool X.2.1, .int .i64 X.2.2]) ∧ Nw w w' ∧ RqAt w' v' X.1.q ∧ capOk v' ∧ Fresh w v' X.1.q
def HD1 (X : Hq × Int) (w : World) (e : Ending) (w' : World) : Prop := ∃ v', e = .returned (.tuple #[hdV X.1.t X.1.r v' X.1.W, .int .i64 X.2]) ∧ Nw w w' ∧ RqAt w' v' X.1.q ∧ capOk v' ∧ Fresh w v' X.1.q
theorem Ln.done {w : World} {g0 p : Nat} {t r W : Int} {v : Value} {b n : Nat} {q : List Rq} {c : Int → Int} (h : Ln w g0 p t r W v b n q c) {rb : Nat} (hb : rb < g0) (u0 u1 u2 u3 : Value) :
    RqAt ((((w.setCell ⟨rb, 0, none⟩ u0).setCell ⟨rb, 1, none⟩ u1).setCell ⟨rb, 2, none⟩ u2).setCell ⟨rb, 3, none⟩ u3) v q ∧ capOk v := ⟨(fill_own h.own hb _ _ _ _).rd, h.own.cap⟩
set_option maxRecDepth 100000 in
set_option maxHeartbeats 8000000 in
theorem dAsk (t r W id x m : Int) (v : Value) (q : List Rq) (w : World) (hl : q.length ≤ 900) (hok : Ok W q) (h : RqAt w v q) :
    Calls Try.prog 8 #[hdV t r v W, .int .i64 id, .int .i64 x, .int .i64 m] w (HD2 (askR ⟨t, r, W, q⟩ id x m) w) := by
  obtain ⟨X, hX⟩ : ∃ X, askR ⟨t, r, W, q⟩ id x m = X := ⟨_, rfl⟩
  rw [hX]
  have HLo := Lib.hid (fun w => dLockable m w)
  have hat := h
  obtain ⟨a, c, rfl⟩ := h.form
  unfold HD2 hdV
  have HX := Lib.hid (two_boxes w (.cells #[.int .i64 t, .int .i64 r, .slice a q.length c, .int .i64 W] 27) (.cells #[.int .i64 0, .int .i64 0, .slice none 0 0, .int .i64 0] 27))
  obtain ⟨y, hy⟩ : ∃ y, ((m != 0) && knI m) = y := ⟨_, rfl⟩
  rw [hy] at HLo
  by_cases hi : id < 0
  · subst hX
    rw [ask_bad (h := ⟨t, r, W, q⟩) (.inl hi)]
    have di : decide (id < 0) = true := by simpa using hi
    have hq1 := HX.out.2.1
    have fz := fun k => hfz (j := k) hq1
    have hsl2 := hlt hq1
    have HQ := Lib.hid HX.out.2.2.1
    have d0 := hcell (j := 0) hq1
    have d1 := hcell (j := 1) hq1
    have d2 := hcell (j := 2) hq1
    have d3 := hcell (j := 3) hq1
    clear hq1 hi hy hat h hok HX HLo
    go_enter Try.func8, Try.ntmps8
    go_wp2
    exact bodyPost_ret (v := .tuple #[.agg #[.int .i64 0, .int .i64 0, .slice none 0 0, .int .i64 0], .bool false, .int .i64 2]) (by simp only [results, Try.results8]; simp [go_sem, *]) rfl ⟨_, rfl, HQ.out, Rd.nil _, Nat.le_refl _, Fresh.nil _ _⟩
  have di : decide (id < 0) = false := by simpa using hi
  cases y
  · subst hX
    rw [ask_bad (h := ⟨t, r, W, q⟩) (by cases e : knI m with | false => exact .inr (.inr rfl) | true => rw [e, Bool.and_true] at hy; exact .inr (.inl (by simpa using hy)))]
    clear hi hy hat h hok
    go_enter Try.func8, Try.ntmps8
    go_wp2_with fail
    go_at_call 35
    refine (HLo.out _).mono ?_
    rintro e w1 ⟨rfl, g1⟩
    have hq1 := g1.at' HX.out.2.1
    have HQ := Lib.hid (HX.out.2.2.1.trans g1)
    have d0 := hcell (j := 0) hq1
    have d1 := hcell (j := 1) hq1
    have d2 := hcell (j := 2) hq1
    have d3 := hcell (j := 3) hq1
    have fz := fun k => hfz (j := k) hq1
    have hsl2 := hlt hq1
    clear g1 hq1 HX HLo
    go_wp2
    exact bodyPost_ret (v := .tuple #[.agg #[.int .i64 0, .int .i64 0, .slice none 0 0, .int .i64 0], .bool false, .int .i64 2]) (by simp only [results, Try.results8]; simp [go_sem, *]) rfl ⟨_, rfl, fill_nw HQ.out (Nat.le_succ _) _ _ _ _, Rd.nil _, Nat.le_refl _, Fresh.nil _ _⟩
  have hgood : ¬ (id < 0 ∨ m = 0 ∨ knI m = false) := by
    rw [Bool.and_eq_true, bne_iff_ne] at hy
    rintro (e | e | e)
    · exact hi e
    · exact hy.1 e
    · rw [hy.2] at e; cases e
  have hkm : knI m = true := by
    rw [Bool.and_eq_true] at hy
    exact hy.2
  obtain ⟨px, hpx⟩ : ∃ px, plc (fun R => R.id == id) q = px := ⟨_, rfl⟩
  obtain ⟨py, hpy⟩ : ∃ py, plc (fun R => R.txn == x) q = py := ⟨_, rfl⟩
  have hFi := fun (w1 : World) (g : Nw w w1) (f : Value) (hf : Tells w1 f (fun R => R.id == id)) => dFind t r W (.slice a q.length c) f _ q w1 (by omega) (hat.nw g) hf
  have hFt := fun (w1 : World) (g : Nw w w1) (f : Value) (hf : Tells w1 f (fun R => R.txn == x)) => dFind t r W (.slice a q.length c) f _ q w1 (by omega) (hat.nw g) hf
  rw [hpx] at hFi
  rw [hpy] at hFt
  unfold hdV at hFi hFt
  have HFi := Lib.hid hFi
  have HFt := Lib.hid hFt
  have HLi := Lib.hid (fun (w1 : World) (g : Nw w w1) => dLineOf t r W (.slice a q.length c) q w1 (by omega) (fun R hR => (hok.rt R hR).md) (hat.nw g))
  unfold hdV at HLi
  have hany : (q.any fun R => R.id == id || R.txn == x) = ((px != -1) || (py != -1)) := by rw [any_or, ← plc_ne (fun R => R.id == id), ← plc_ne (fun R => R.txn == x), hpx, hpy]
  obtain ⟨bx, hbx⟩ : ∃ bx, (px != -1) = bx := ⟨_, rfl⟩
  obtain ⟨b2, hb2⟩ : ∃ b2, (py != -1) = b2 := ⟨_, rfl⟩
  rw [hbx, hb2] at hany
  clear hFi hFt hpx hpy
  have HWi := Lib.hid (dWithID id)
  have HTx := Lib.hid (dOfTxn x)
  go_enter Try.func8, Try.ntmps8
  go_wp2_with fail
  go_at_call 35
  refine (HLo.out _).mono ?_
  rintro e w1 ⟨rfl, g1⟩
  have HB1 := Lib.hid (And.intro (g1.at' HX.out.1) (And.intro (g1.at' HX.out.2.1) (HX.out.2.2.1.trans g1)))
  have hp1 := g1.at' HX.out.1
  have hN1 := HX.out.2.2.1.trans g1
  have s0 : ∀ z, Nw w1 z → z.cell? ⟨w.heap.size, 0, none⟩ = some (.int .i64 t) := fun z hz => hz.kp (hcell (j := 0) hp1)
  have s1 : ∀ z, Nw w1 z → z.cell? ⟨w.heap.size, 1, none⟩ = some (.int .i64 r) := fun z hz => hz.kp (hcell (j := 1) hp1)
  have s2 : ∀ z, Nw w1 z → z.cell? ⟨w.heap.size, 2, none⟩ = some (.slice a q.length c) := fun z hz => hz.kp (hcell (j := 2) hp1)
  have s3 : ∀ z, Nw w1 z → z.cell? ⟨w.heap.size, 3, none⟩ = some (.int .i64 W) := fun z hz => hz.kp (hcell (j := 3) hp1)
  clear hp1 g1 HX HLo
  go_wp2
  have q1 := (Nw.refl w1).drew1
  obtain ⟨wc, hwc⟩ : ∃ wc, w1.drew = wc := ⟨_, rfl⟩
  have HH := Lib.hid (And.intro hok hat)
  clear hok hat h hi
  cases bx <;> cases b2
  all_goals
   refine region_told [some true, some true, some false, none, some false, none, some true, some true, some true, some true, some false, none, some false, none, some true, some true, some true] (Nw w1) (by kernel_rfl) (by kernel_rfl) (by kernel_rfl) q1 ?_
   rw [hwc] at q1 ⊢
   clear hwc
   repeat (first
    | (refine HW.off ?_)
    | (refine HW.take' ?_; (first | (refine ⟨undef, Or.inr ⟨by rfl, rfl⟩, ?_⟩) | (apply Exists.intro; refine ⟨Or.inl ⟨by rfl, ?_⟩, ?_⟩; (intro x hx; go_simp; first | done | with_reducible rfl))); (try simp only [Act.put, List.setIfInBounds_toArray, List.set_cons_zero, List.set_cons_succ]))
    | (refine HW.go (fun K hK => ?_); go_simp; (first
      | (go_at_call 37; (with_reducible refine (HWi.out _).mono ?_); rintro e wy ⟨pa, rfl, g2, hbx⟩; refine hK.out _ _ (q1.trans g2) ?_; intro _; replace q1 := q1.trans g2; clear hK K g2; replace hbx := Tells.withID hbx)
      | (go_at_call 38; (with_reducible refine (HTx.out _).mono ?_); rintro e wy ⟨pa, rfl, g2, hbx⟩; refine hK.out _ _ (q1.trans g2) ?_; intro _; replace q1 := q1.trans g2; clear hK K g2; replace hbx := Tells.ofTxn hbx)
      | (go_at_call 36; (first | (with_reducible refine (HFi.out _ (HB1.out.2.2.trans q1) _ hbx).mono ?_) | (with_reducible refine (HFt.out _ (HB1.out.2.2.trans q1) _ hbx).mono ?_)); rintro e wy ⟨rfl, g2⟩; refine hK.out _ _ (q1.trans g2) ?_; intro _; replace q1 := q1.trans g2; clear hK K g2 hbx)
      | (refine hK.out _ _ q1 ?_; intro _; clear hK K))))
   refine HW.end_ ?_
   refine NoPanic.normal ?_
  · have hq1 := q1.at' HB1.out.2.1
    have hp1 := q1.at' HB1.out.1
    have HQ := Lib.hid (And.intro hq1 (HB1.out.2.2.trans q1))
    have c0 := hcell (j := 0) hp1
    have c1 := hcell (j := 1) hp1
    have c2 := hcell (j := 2) hp1
    have c3 := hcell (j := 3) hp1
    have hpl := hlt hp1
    have HXX := Lib.hid (And.intro hX (And.intro hgood hany))
    clear hq1 hp1 q1 s0 s1 s2 s3 hX hgood hany HB1 HFi HFt HWi HTx hN1 hy
    go_wp2_with fail
    go_at_call 39
    refine (HLi.out _ HQ.out.2).mono ?_
    rintro e w2 ⟨p, v1, b, n, rfl, g2, hL2, hnq⟩
    have HQ2 := Lib.hid HQ.out
    clear c0 c1 c2 c3 hpl HLi HQ
    have hA := dAdd hL2 ⟨id, x, 0, m, 0⟩ rfl (fun y => by have := cntQ_bd q y; omega) (by omega) (by omega)
    unfold rqV at hA
    simp only at hA
    have HA := Lib.hid hA
    have HG2 := Lib.hid g2
    clear hA hL2 g2
    go_wp2_with fail
    go_at_call 41
    refine HA.out.mono ?_
    rintro e w3 ⟨rfl, v2, hL3, g3⟩
    have hlk : q.length < (q ++ [(⟨id, x, 0, m, 0⟩ : Rq)]).length := by simp
    have hke : (q ++ [(⟨id, x, 0, m, 0⟩ : Rq)])[q.length]'hlk = ⟨id, x, 0, m, 0⟩ := by simp
    obtain ⟨fr, hfr⟩ : ∃ fr, free q m = fr := ⟨_, rfl⟩
    have hE := dEnterB (hL3.eq (cntQ_snoc q ⟨id, x, 0, m, 0⟩).symm) q.length hlk ⟨HH.out.1.w0, HH.out.1.wB⟩ (fun R hR => by
      rcases List.mem_append.1 hR with hR | hR
      · exact (HH.out.1.rt R hR).md
      · rw [List.mem_singleton] at hR; subst hR; rfl) (by omega) (by simp; omega) ⟨id, x, 0, m, 0⟩ hke hkm fr ((ask_en HH.out.1 id x m).trans hfr)
    simp only [enR] at hE
    have HE := Lib.hid hE
    have HG3 := Lib.hid (And.intro HG2.out g3)
    clear hE hL3 g3 HA HG2 hke
    go_wp2_with fail
    go_at_call 40
    refine HE.out.mono ?_
    rintro e w5 ⟨rfl, g4, n5, _, hL5⟩
    have g5 : Nw wy w5 := Below.trans (Below.trans HG3.out.1 HG3.out.2) g4
    obtain ⟨hX, hgood, hany⟩ := HXX.out
    clear HE HG3 HXX
    have hset : ∀ R : Rq, (q ++ [(⟨id, x, 0, m, 0⟩ : Rq)]).set q.length R = q ++ [R] := fun R => by simp
    cases fr
    · have hR := hX.symm.trans (ask_no (h := ⟨t, r, W, q⟩) hgood hany (by rw [hfr]; simp))
      subst hR
      simp only [Bool.false_eq_true, if_true, if_false] at hL5
      rw [hset] at hL5
      obtain ⟨a2, k2, hv2⟩ := (RqOwn.rd hL5.own).form
      obtain ⟨n2, hn2⟩ : ∃ n, (q ++ [(⟨id, x, 0, m, W + 1⟩ : Rq)]).length = n := ⟨_, rfl⟩
      rw [hn2] at hv2
      subst hv2
      have HL5 := Lib.hid hL5
      have hpl := hlt hL5.obj
      have e0 := hcell (j := 0) hL5.obj
      have e1 := hcell (j := 1) hL5.obj
      have e2 := hcell (j := 2) hL5.obj
      have e3 := hcell (j := 3) hL5.obj
      have hq5 := g5.at' HQ2.out.1
      have HN5 := Lib.hid (HQ2.out.2.trans g5)
      have HS := Lib.hid (hlt HQ2.out.1)
      have HQF := Lib.hid (HQ2.out.2.sz)
      have d0 := hcell (j := 0) hq5
      have d1 := hcell (j := 1) hq5
      have d2 := hcell (j := 2) hq5
      have d3 := hcell (j := 3) hq5
      have fz := fun k => hfz (j := k) hq5
      have hsl2 := hlt hq5
      clear hL5 hset hq5 g5 HQ2 hn2 hX hfr
      go_wp2
      exact bodyPost_ret (v := .tuple #[.agg #[.int .i64 t, .int .i64 r, .slice a2 n2 k2, .int .i64 (W + 1)], .bool false, .int .i64 0]) (by simp only [results, Try.results8]; simp [go_sem, *]) rfl ⟨_, rfl, fill_nw HN5.out (Nat.le_succ _) _ _ _ _, (HL5.out.done HS.out _ _ _ _).1, HL5.out.own.cap, HL5.out.own.fresh HQF.out⟩
    · have hR := hX.symm.trans (ask_yes (h := ⟨t, r, W, q⟩) hgood hany (by rw [hfr]))
      subst hR
      simp only [Bool.false_eq_true, if_true, if_false] at hL5
      rw [hset] at hL5
      obtain ⟨a2, k2, hv2⟩ := (RqOwn.rd hL5.own).form
      obtain ⟨n2, hn2⟩ : ∃ n, (q ++ [(⟨id, x, m, m, 0⟩ : Rq)]).length = n := ⟨_, rfl⟩
      rw [hn2] at hv2
      subst hv2
      have HL5 := Lib.hid hL5
      have hpl := hlt hL5.obj
      have e0 := hcell (j := 0) hL5.obj
      have e1 := hcell (j := 1) hL5.obj
      have e2 := hcell (j := 2) hL5.obj
      have e3 := hcell (j := 3) hL5.obj
      have hq5 := g5.at' HQ2.out.1
      have HN5 := Lib.hid (HQ2.out.2.trans g5)
      have HS := Lib.hid (hlt HQ2.out.1)
      have HQF := Lib.hid (HQ2.out.2.sz)
      have d0 := hcell (j := 0) hq5
      have d1 := hcell (j := 1) hq5
      have d2 := hcell (j := 2) hq5
      have d3 := hcell (j := 3) hq5
      have fz := fun k => hfz (j := k) hq5
      have hsl2 := hlt hq5
      clear hL5 hset hq5 g5 HQ2 hn2 hX hfr
      go_wp2
      exact bodyPost_ret (v := .tuple #[.agg #[.int .i64 t, .int .i64 r, .slice a2 n2 k2, .int .i64 W], .bool true, .int .i64 0]) (by simp only [results, Try.results8]; simp [go_sem, *]) rfl ⟨_, rfl, fill_nw HN5.out (Nat.le_succ _) _ _ _ _, (HL5.out.done HS.out _ _ _ _).1, HL5.out.own.cap, HL5.out.own.fresh HQF.out⟩
  · have hR := hX.symm.trans (ask_two (h := ⟨t, r, W, q⟩) hgood hany)
    subst hR
    have hq1 := q1.at' HB1.out.2.1
    have HQ := Lib.hid (HB1.out.2.2.trans q1)
    have d0 := hcell (j := 0) hq1
    have d1 := hcell (j := 1) hq1
    have d2 := hcell (j := 2) hq1
    have d3 := hcell (j := 3) hq1
    have fz := fun k => hfz (j := k) hq1
    have hsl2 := hlt hq1
    clear hq1 q1 s0 s1 s2 s3 hX hgood hany HB1 HFi HFt HLi HWi HTx HH hN1 hy hkm
    go_wp2
    exact bodyPost_ret (v := .tuple #[.agg #[.int .i64 0, .int .i64 0, .slice none 0 0, .int .i64 0], .bool false, .int .i64 4]) (by simp only [results, Try.results8]; simp [go_sem, *]) rfl ⟨_, rfl, fill_nw HQ.out (Nat.le_succ _) _ _ _ _, Rd.nil _, Nat.le_refl _, Fresh.nil _ _⟩
  · have hR := hX.symm.trans (ask_two (h := ⟨t, r, W, q⟩) hgood hany)
    subst hR
    have hq1 := q1.at' HB1.out.2.1
    have HQ := Lib.hid (HB1.out.2.2.trans q1)
    have d0 := hcell (j := 0) hq1
    have d1 := hcell (j := 1) hq1
    have d2 := hcell (j := 2) hq1
    have d3 := hcell (j := 3) hq1
    have fz := fun k => hfz (j := k) hq1
    have hsl2 := hlt hq1
    clear hq1 q1 s0 s1 s2 s3 hX hgood hany HB1 HFi HFt HLi HWi HTx HH hN1 hy hkm
    go_wp2
    exact bodyPost_ret (v := .tuple #[.agg #[.int .i64 0, .int .i64 0, .slice none 0 0, .int .i64 0], .bool false, .int .i64 4]) (by simp only [results, Try.results8]; simp [go_sem, *]) rfl ⟨_, rfl, fill_nw HQ.out (Nat.le_succ _) _ _ _ _, Rd.nil _, Nat.le_refl _, Fresh.nil _ _⟩
  · have hR := hX.symm.trans (ask_two (h := ⟨t, r, W, q⟩) hgood hany)
    subst hR
    have hq1 := q1.at' HB1.out.2.1
    have HQ := Lib.hid (HB1.out.2.2.trans q1)
    have d0 := hcell (j := 0) hq1
    have d1 := hcell (j := 1) hq1
    have d2 := hcell (j := 2) hq1
    have d3 := hcell (j := 3) hq1
    have fz := fun k => hfz (j := k) hq1
    have hsl2 := hlt hq1
    clear hq1 q1 s0 s1 s2 s3 hX hgood hany HB1 HFi HFt HLi HWi HTx HH hN1 hy hkm
    go_wp2
    exact bodyPost_ret (v := .tuple #[.agg #[.int .i64 0, .int .i64 0, .slice none 0 0, .int .i64 0], .bool false, .int .i64 4]) (by simp only [results, Try.results8]; simp [go_sem, *]) rfl ⟨_, rfl, fill_nw HQ.out (Nat.le_succ _) _ _ _ _, Rd.nil _, Nat.le_refl _, Fresh.nil _ _⟩
end Go.Proofs.Ytmciiobncfchlaa
end

/- The developers' package queue: without, Leave, Find, Mode. -/
section
namespace Go.Proofs.Ytmciiobncfchlaa
open Go.RowKit
set_option linter.unusedVariables false      -- a contract need not use every name

theorem at_plc (q : List Rq) (id : Int) : AtIs q id (plc (fun R => R.id == id) q) := by
  rcases plc_form (fun R => R.id == id) q with ⟨h1, h2⟩ | ⟨k, h1, hk, h3, h4⟩
  · refine .inl ⟨h1, ?_⟩
    unfold fnd
    rw [List.find?_eq_none]
    intro x hx; rw [h2 x hx]; simp
  · refine .inr ⟨k, h1, hk, ?_⟩
    unfold fnd
    have e := split_at q k hk
    conv => lhs; rw [e]
    rw [List.find?_append, List.find?_cons, h3]
    have : (q.take k).find? (fun r => r.id == id) = none := by
      rw [List.find?_eq_none]
      intro x hx
      obtain ⟨i, hi, rfl⟩ := List.getElem_of_mem hx
      simp at hi
      have := h4 i (by omega) (by omega)
      simpa using this
    rw [this]; rfl
theorem md_plc (q : List Rq) (x : Int) : (plc (fun R => R.txn == x) q = -1 ∧ mdQ q x = 0) ∨ ∃ k : Nat, plc (fun R => R.txn == x) q = k ∧ ∃ h : k < q.length, mdQ q x = q[k].md := by
  rcases plc_form (fun R => R.txn == x) q with ⟨h1, h2⟩ | ⟨k, h1, hk, h3, h4⟩
  · refine .inl ⟨h1, md_none ?_⟩
    rw [List.find?_eq_none]
    intro y hy; rw [h2 y hy]; simp
  · refine .inr ⟨k, h1, hk, md_hit hk ?_ (by simpa using h3)⟩
    rw [List.find?_eq_none]
    intro y hy
    obtain ⟨i, hi, rfl⟩ := List.getElem_of_mem hy
    simp at hi
    have := h4 i (by omega) (by omega)
    simpa using this
theorem dWithIDn (i : Int) (w : World) : Calls Try.prog 37 #[.int .i64 i] w fun e w' => ∃ p, e = .returned (.func (.func 71) #[] #[.pointer (some ⟨p, 0, none⟩)]) ∧ Nw w w' ∧ w'.cell? ⟨p, 0, none⟩ = some (.int .i64 i) ∧ w.heap.size ≤ p := by
  go_enter Try.func37, Try.ntmps37
  go_wp2
  go_ret
  exact ⟨_, rfl, (Nw.refl _).alloc _, hcell (allocAt w _), Nat.le_refl _⟩
theorem rd_st {w : World} {v : Value} {q : List Rq} {w0 : World} (h : RqAt w v q) (hf : Fresh w0 v q) {p : Addr} (hp : p.block < w0.heap.size) (u : Value) : RqAt (w.setCell p u) v q := by
  obtain ⟨a, c, rfl, ⟨rfl, hh⟩ | ⟨b, o, rfl, hc⟩⟩ := h
  · exact ⟨a, c, rfl, .inl ⟨rfl, hh⟩⟩
  · rcases hf b o _ _ rfl with hb | rfl
    · refine ⟨_, c, rfl, .inr ⟨b, o, rfl, ⟨Nat.lt_of_lt_of_le hc.lt (sgrown w p u).size, fun i hi k x hx => ?_⟩⟩⟩
      have e := (sgrown w p u).block b hc.lt (fun e => by have := Option.some.inj e; omega)
      exact (World.cell?_of_block e).trans (hc.cell i hi k x hx)
    · exact ⟨_, c, rfl, .inr ⟨b, o, rfl, ⟨Nat.lt_of_lt_of_le hc.lt (sgrown w p u).size, fun i hi => by simp at hi⟩⟩⟩
theorem rd_fill {w : World} {v : Value} {q : List Rq} {w0 : World} (h : RqAt w v q) (hf : Fresh w0 v q) {rb : Nat} (hp : rb < w0.heap.size) (u0 u1 u2 u3 : Value) : RqAt ((((w.setCell ⟨rb, 0, none⟩ u0).setCell ⟨rb, 1, none⟩ u1).setCell ⟨rb, 2, none⟩ u2).setCell ⟨rb, 3, none⟩ u3) v q :=
  rd_st (rd_st (rd_st (rd_st h hf (p := ⟨rb, 0, none⟩) hp u0) hf (p := ⟨rb, 1, none⟩) hp u1) hf (p := ⟨rb, 2, none⟩) hp u2) hf (p := ⟨rb, 3, none⟩) hp u3
set_option maxRecDepth 100000 in
set_option maxHeartbeats 4000000 in
theorem dWithout (t r W id : Int) (v : Value) (q : List Rq) (w : World) (hl : q.length ≤ 1000) (h : RqAt w v q) :
    Calls Try.prog 44 #[hdV t r v W, .int .i64 id] w fun e w' => ∃ v', e = .returned (hdV t r v' W) ∧ Nw w w' ∧ RqAt w' v' (lvQ id q) ∧ capOk v' ∧ Fresh w v' (lvQ id q) := by
  have HCl := Lib.hid (fun (w1 : World) (g : Nw w w1) => dClone v q w1 hl (h.nw g))
  have HWi := Lib.hid (dWithIDn id)
  unfold hdV
  obtain ⟨a, c, rfl, _⟩ := h
  have HX := Lib.hid (two_boxes w (.cells #[.int .i64 t, .int .i64 r, .slice a q.length c, .int .i64 W] 27) (.cells #[.int .i64 0, .int .i64 0, .slice none 0 0, .int .i64 0] 27))
  go_enter Try.func44, Try.ntmps44
  go_wp2_with fail
  go_at_call 48
  refine (HCl.out _ HX.out.2.2.1).mono ?_
  rintro e w2 ⟨v1, rfl, g2, hO⟩
  have hq2 := g2.at' HX.out.2.1
  have hp2 := g2.at' HX.out.1
  have HQ := Lib.hid (And.intro hp2 (And.intro hq2 (HX.out.2.2.1.trans g2)))
  have hs2 : w.heap.size + 1 + 1 ≤ w2.heap.size := by have := g2.sz; rw [HX.out.2.2.2] at this; exact this
  have HO := Lib.hid (olow hO (g1 := w.heap.size + 1 + 1) (fun g hg => by have := oge hO hg; rw [HX.out.2.2.2] at this; exact this))
  clear hO g2 HCl HX hq2 hp2
  go_wp2_with fail
  go_at_call 37
  refine (HWi.out _).mono ?_
  rintro e w3 ⟨pa, rfl, g3, hc3, hge⟩
  have HD := Lib.hid (dDelete (fun R => R.id == id) _ (w.heap.size + 1 + 1) v1 q w3 hl (onw HO.out g3) (Tells.withID hc3) (fun w4 hT => by
    refine Tells.withID ((hT.cell (World.block_lt_of_cell? _ _ hc3) (fun e => ?_)).trans hc3)
    have := olt HO.out e
    simp only at this hge
    omega))
  have HG3 := Lib.hid g3
  obtain ⟨a1, c1, hv1⟩ := (RqOwn.rd HO.out).form
  subst hv1
  clear g3 hc3 hge HWi
  go_wp2_with fail
  go_at_call 76
  refine HD.out.mono ?_
  rintro e w4 ⟨v4, rfl, hR, hcap, hfr, hT⟩
  have HR := Lib.hid (And.intro hR (And.intro hcap (show Fresh ((w.alloc (.cells #[.int .i64 t, .int .i64 r, .slice a q.length c, .int .i64 W] 27)).alloc (.cells #[.int .i64 0, .int .i64 0, .slice none 0 0, .int .i64 0] 27)) v4 (lvQ id q) from fun b o n c e => by
    rcases hfr b o n c e with h | h
    · have := oge HO.out h
      exact .inl (by simpa using this)
    · exact .inr h)))
  have HN := Lib.hid (nw_tch (HQ.out.2.2.trans HG3.out) hT (fun i e => by have := oge HO.out e; omega))
  have hpl3 : w.heap.size < w3.heap.size := by have := HG3.out.sz; omega
  have hpl3' : w.heap.size + 1 < w3.heap.size := by have := HG3.out.sz; omega
  have hp4 := (hT.block w.heap.size hpl3 (fun e => by have := oge HO.out e; omega)).trans (HG3.out.at' HQ.out.1)
  have hq4 := (hT.block (w.heap.size + 1) hpl3' (fun e => by have := oge HO.out e; omega)).trans (HG3.out.at' HQ.out.2.1)
  obtain ⟨a4, c4, hv4⟩ := hR.form
  obtain ⟨n4, hn4⟩ : ∃ n, (outQ (fun R => R.id == id) q).length = n := ⟨_, rfl⟩
  rw [hn4] at hv4
  subst hv4
  have c0 := hcell (j := 0) hp4
  have c1' := hcell (j := 1) hp4
  have c2 := hcell (j := 2) hp4
  have c3 := hcell (j := 3) hp4
  have fp := fun k => hfz (j := k) hp4
  have d0 := hcell (j := 0) hq4
  have d1 := hcell (j := 1) hq4
  have d2 := hcell (j := 2) hq4
  have d3 := hcell (j := 3) hq4
  have fz := fun k => hfz (j := k) hq4
  have hs4 := hlt hp4
  have hs5 := hlt hq4
  clear hp4 hq4 hT hR hcap hn4 hpl3 hpl3' HD HO HG3 HQ hs2
  go_wp2
  exact bodyPost_ret (v := .agg #[.int .i64 t, .int .i64 r, .slice a4 n4 c4, .int .i64 W]) (by simp only [results, Try.results44]; simp [go_sem, *]) rfl ⟨_, rfl, fill_nw (HN.out.st (Nat.le_refl _) _) (Nat.le_succ _) _ _ _ _, rd_fill (w0 := (w.alloc (.cells #[.int .i64 t, .int .i64 r, .slice a q.length c, .int .i64 W] 27)).alloc (.cells #[.int .i64 0, .int .i64 0, .slice none 0 0, .int .i64 0] 27)) (rd_st (w0 := (w.alloc (.cells #[.int .i64 t, .int .i64 r, .slice a q.length c, .int .i64 W] 27)).alloc (.cells #[.int .i64 0, .int .i64 0, .slice none 0 0, .int .i64 0] 27)) HR.out.1 HR.out.2.2 (p := ⟨w.heap.size, 2, none⟩) (by simp; omega) _) HR.out.2.2 (by simp) _ _ _ _, HR.out.2.1, fun b o n c e => (HR.out.2.2 b o n c e).imp (fun h => by simp at h; omega) (fun h => h)⟩
set_option maxRecDepth 100000 in
set_option maxHeartbeats 4000000 in
theorem dMode (t r W id : Int) (v : Value) (q : List Rq) (w : World) (hl : q.length ≤ 1000) (h : RqAt w v q) :
    Calls Try.prog 18 #[hdV t r v W, .int .i64 id] w fun e w' => e = .returned (.int .i64 (mdQ q id)) ∧ Nw w w' := by
  obtain ⟨M, hM⟩ : ∃ M, mdQ q id = M := ⟨_, rfl⟩
  rw [hM]
  obtain ⟨px, hpx⟩ : ∃ px, plc (fun R => R.txn == id) q = px := ⟨_, rfl⟩
  have hFi := fun (w1 : World) (g : Nw w w1) (f : Value) (hf : Tells w1 f (fun R => R.txn == id)) => dFind t r W v f _ q w1 hl (h.nw g) hf
  rw [hpx] at hFi
  have HAt := Lib.hid h
  obtain ⟨a, c, rfl, _⟩ := h
  unfold hdV at hFi ⊢
  have HFi := Lib.hid hFi
  clear hFi
  have HWi := Lib.hid (dOfTxn id)
  have hx1 := allocAt w (.cells #[.int .i64 t, .int .i64 r, .slice a q.length c, .int .i64 W] 27)
  have hx3 : Nw w (w.alloc (.cells #[.int .i64 t, .int .i64 r, .slice a q.length c, .int .i64 W] 27)) := (Nw.refl w).alloc _
  obtain ⟨w1, hw1⟩ : ∃ w1, w.alloc (.cells #[.int .i64 t, .int .i64 r, .slice a q.length c, .int .i64 W] 27) = w1 := ⟨_, rfl⟩
  rw [hw1] at hx1 hx3
  have HB1 := Lib.hid (And.intro hx1 hx3)
  have s0 : ∀ z, Nw w1 z → z.cell? ⟨w.heap.size, 0, none⟩ = some (.int .i64 t) := fun z hz => hz.kp (hcell (j := 0) hx1)
  have s1 : ∀ z, Nw w1 z → z.cell? ⟨w.heap.size, 1, none⟩ = some (.int .i64 r) := fun z hz => hz.kp (hcell (j := 1) hx1)
  have s2 : ∀ z, Nw w1 z → z.cell? ⟨w.heap.size, 2, none⟩ = some (.slice a q.length c) := fun z hz => hz.kp (hcell (j := 2) hx1)
  have s3 : ∀ z, Nw w1 z → z.cell? ⟨w.heap.size, 3, none⟩ = some (.int .i64 W) := fun z hz => hz.kp (hcell (j := 3) hx1)
  clear hx1 hx3
  have HW1 := Lib.hid hw1
  clear hw1
  have q1 := (Nw.refl w1).drew1
  obtain ⟨wc, hwc⟩ : ∃ wc, w1.drew = wc := ⟨_, rfl⟩
  go_enter Try.func18, Try.ntmps18
  go_wp2
  rw [HW1.out]
  refine region_told [some true, some true, some false, none, some false, none, some true] (Nw w1) (by kernel_rfl) (by kernel_rfl) (by kernel_rfl) q1 ?_
  rw [hwc] at q1 ⊢
  clear hwc
  repeat (first
    | (refine HW.off ?_)
    | (refine HW.take' ?_; (first | (refine ⟨undef, Or.inr ⟨by rfl, rfl⟩, ?_⟩) | (apply Exists.intro; refine ⟨Or.inl ⟨by rfl, ?_⟩, ?_⟩; (intro x hx; go_simp; first | done | with_reducible rfl))); (try simp only [Act.put, List.setIfInBounds_toArray, List.set_cons_zero, List.set_cons_succ]))
    | (refine HW.go (fun K hK => ?_); go_simp; (first
      | (go_at_call 38; (with_reducible refine (HWi.out _).mono ?_); rintro e wy ⟨pa, rfl, g2, hbx⟩; refine hK.out _ _ (q1.trans g2) ?_; intro _; replace q1 := q1.trans g2; clear hK K g2; replace hbx := Tells.ofTxn hbx)
      | (go_at_call 36; (with_reducible refine (HFi.out _ (HB1.out.2.trans q1) _ hbx).mono ?_); rintro e wy ⟨rfl, g2⟩; refine hK.out _ _ (q1.trans g2) ?_; intro _; replace q1 := q1.trans g2; clear hK K g2 hbx)
      | (refine hK.out _ _ q1 ?_; intro _; clear hK K))))
  refine HW.end_ ?_
  refine NoPanic.normal ?_
  have HN := Lib.hid (HB1.out.2.trans q1)
  have hp1 := q1.at' HB1.out.1
  have c2 := hcell (j := 2) hp1
  have hpl := hlt hp1
  rcases md_plc q id with ⟨e1, e2⟩ | ⟨k, e1, hk, e2⟩
  · obtain rfl := hpx.symm.trans e1
    obtain rfl := hM.symm.trans e2
    clear hpx hM e1 e2 s0 s1 s2 s3 HB1 HFi HWi HAt HW1 q1 hp1
    go_wp2
    go_ret
    exact ⟨rfl, HN.out⟩
  · obtain rfl := hpx.symm.trans e1
    rcases (HAt.out.nw HN.out) with ⟨a', c', e3, ⟨e4, _⟩ | ⟨b, o, e4, hc⟩⟩
    · subst e4; simp at hk
    simp only [Value.slice.injEq, true_and] at e3
    obtain ⟨rfl, rfl⟩ := e3
    subst e4
    have m2 := hc.cell k hk 2 _ rfl
    obtain rfl := hM.symm.trans e2
    have dk : ((k : Int) == -1) = false := by simp
    have hki : (k : Int) < (q.length : Int) := by omega
    clear hpx e1 e2 s0 s1 s2 s3 HB1 HFi HWi HAt HW1 q1 hp1 hc
    go_wp2
    go_ret
    exact ⟨rfl, HN.out⟩
set_option maxRecDepth 100000 in
set_option maxHeartbeats 4000000 in
theorem dFindQ (t r W id : Int) (v : Value) (q : List Rq) (w : World) (hl : q.length ≤ 1000) (h : RqAt w v q) :
    Calls Try.prog 15 #[hdV t r v W, .int .i64 id] w fun e w' => e = .returned (fndV q id) ∧ Nw w w' := by
  obtain ⟨V, hV⟩ : ∃ V, fndV q id = V := ⟨_, rfl⟩
  rw [hV]
  obtain ⟨px, hpx⟩ : ∃ px, plc (fun R => R.id == id) q = px := ⟨_, rfl⟩
  have hFi := fun (w1 : World) (g : Nw w w1) (f : Value) (hf : Tells w1 f (fun R => R.id == id)) => dFind t r W v f _ q w1 hl (h.nw g) hf
  rw [hpx] at hFi
  have HAt := Lib.hid h
  obtain ⟨a, c, rfl, _⟩ := h
  unfold hdV at hFi ⊢
  have HFi := Lib.hid hFi
  clear hFi
  have HWi := Lib.hid (dWithID id)
  obtain ⟨hx1, hx2, hx3, hx4⟩ := two_boxes w (.cells #[.int .i64 t, .int .i64 r, .slice a q.length c, .int .i64 W] 27) (.cells #[.int .i64 0, .int .i64 0, .int .i64 0, .int .i64 0, .int .i64 0] 41)
  obtain ⟨w1, hw1⟩ : ∃ w1, (w.alloc (.cells #[.int .i64 t, .int .i64 r, .slice a q.length c, .int .i64 W] 27)).alloc (.cells #[.int .i64 0, .int .i64 0, .int .i64 0, .int .i64 0, .int .i64 0] 41) = w1 := ⟨_, rfl⟩
  rw [hw1] at hx1 hx2 hx3
  have HB1 := Lib.hid (And.intro (And.intro hx1 hx2) hx3)
  have s0 : ∀ z, Nw w1 z → z.cell? ⟨w.heap.size, 0, none⟩ = some (.int .i64 t) := fun z hz => hz.kp (hcell (j := 0) hx1)
  have s1 : ∀ z, Nw w1 z → z.cell? ⟨w.heap.size, 1, none⟩ = some (.int .i64 r) := fun z hz => hz.kp (hcell (j := 1) hx1)
  have s2 : ∀ z, Nw w1 z → z.cell? ⟨w.heap.size, 2, none⟩ = some (.slice a q.length c) := fun z hz => hz.kp (hcell (j := 2) hx1)
  have s3 : ∀ z, Nw w1 z → z.cell? ⟨w.heap.size, 3, none⟩ = some (.int .i64 W) := fun z hz => hz.kp (hcell (j := 3) hx1)
  clear hx1 hx2 hx3 hx4
  have HW1 := Lib.hid hw1
  clear hw1
  have q1 := (Nw.refl w1).drew1
  obtain ⟨wc, hwc⟩ : ∃ wc, w1.drew = wc := ⟨_, rfl⟩
  go_enter Try.func15, Try.ntmps15
  go_wp2
  rw [HW1.out]
  refine region_told [some true, some true, some false, none, some false, none, some true] (Nw w1) (by kernel_rfl) (by kernel_rfl) (by kernel_rfl) q1 ?_
  rw [hwc] at q1 ⊢
  clear hwc
  repeat (first
    | (refine HW.off ?_)
    | (refine HW.take' ?_; (first | (refine ⟨undef, Or.inr ⟨by rfl, rfl⟩, ?_⟩) | (apply Exists.intro; refine ⟨Or.inl ⟨by rfl, ?_⟩, ?_⟩; (intro x hx; go_simp; first | done | with_reducible rfl))); (try simp only [Act.put, List.setIfInBounds_toArray, List.set_cons_zero, List.set_cons_succ]))
    | (refine HW.go (fun K hK => ?_); go_simp; (first
      | (go_at_call 37; (with_reducible refine (HWi.out _).mono ?_); rintro e wy ⟨pa, rfl, g2, hbx⟩; refine hK.out _ _ (q1.trans g2) ?_; intro _; replace q1 := q1.trans g2; clear hK K g2; replace hbx := Tells.withID hbx)
      | (go_at_call 36; (with_reducible refine (HFi.out _ (HB1.out.2.trans q1) _ hbx).mono ?_); rintro e wy ⟨rfl, g2⟩; refine hK.out _ _ (q1.trans g2) ?_; intro _; replace q1 := q1.trans g2; clear hK K g2 hbx)
      | (refine hK.out _ _ q1 ?_; intro _; clear hK K))))
  refine HW.end_ ?_
  refine NoPanic.normal ?_
  have HN := Lib.hid (HB1.out.2.trans q1)
  have hp1 := q1.at' HB1.out.1.1
  have hq1 := q1.at' HB1.out.1.2
  have c0 := hcell (j := 0) hp1
  have c1 := hcell (j := 1) hp1
  have c2 := hcell (j := 2) hp1
  have c3 := hcell (j := 3) hp1
  have hpl := hlt hp1
  have d0 := hcell (j := 0) hq1
  have d1 := hcell (j := 1) hq1
  have d2 := hcell (j := 2) hq1
  have d3 := hcell (j := 3) hq1
  have d4 := hcell (j := 4) hq1
  have fz := fun k => hfz (j := k) hq1
  have hsl2 := hlt hq1
  rcases at_plc q id with ⟨e1, hf⟩ | ⟨k, e1, hk, hf⟩
  · obtain rfl := hpx.symm.trans e1
    have HF := Lib.hid (hV.symm.trans (show fndV q id = .tuple #[rqV ⟨0, 0, 0, 0, 0⟩, .bool false] by unfold fndV; rw [hf]))
    clear hpx hV e1 hf s0 s1 s2 s3 HB1 HFi HWi HAt HW1 q1 hp1 hq1
    go_wp2
    refine bodyPost_ret (v := .tuple #[.agg #[.int .i64 0, .int .i64 0, .int .i64 0, .int .i64 0, .int .i64 0], .bool false]) (by simp only [results, Try.results15]; simp [go_sem, *]) rfl ⟨by rw [HF.out]; rfl, ?_⟩
    exact ((((HN.out.st (Nat.le_succ _) _).st (Nat.le_succ _) _).st (Nat.le_succ _) _).st (Nat.le_succ _) _).st (Nat.le_succ _) _
  · obtain rfl := hpx.symm.trans e1
    rcases (HAt.out.nw HN.out) with ⟨a', c', e3, ⟨e4, _⟩ | ⟨b, o, e4, hc⟩⟩
    · subst e4; simp at hk
    simp only [Value.slice.injEq, true_and] at e3
    obtain ⟨rfl, rfl⟩ := e3
    subst e4
    have hce := hc.cell k hk
    have dk : ((k : Int) == -1) = false := by simp
    have hki : (k : Int) < (q.length : Int) := by omega
    have HF := Lib.hid (hV.symm.trans (show fndV q id = .tuple #[rqV q[k], .bool true] by unfold fndV; rw [hf]))
    clear hpx hV e1 hf s0 s1 s2 s3 HB1 HFi HWi HAt HW1 q1 hp1 hq1 hc
    generalize q[k] = R at *
    obtain ⟨b0, b1, b2, b3, b4⟩ := R
    have m0 := hce 0 _ rfl
    have m1 := hce 1 _ rfl
    have m2 := hce 2 _ rfl
    have m3 := hce 3 _ rfl
    have m4 := hce 4 _ rfl
    simp only [Nat.add_zero] at m0
    clear hce
    go_wp2
    refine bodyPost_ret (v := .tuple #[.agg #[.int .i64 b0, .int .i64 b1, .int .i64 b2, .int .i64 b3, .int .i64 b4], .bool true]) (by simp only [results, Try.results15]; simp [go_sem, *]) rfl ⟨by rw [HF.out]; rfl, ?_⟩
    exact ((((HN.out.st (Nat.le_succ _) _).st (Nat.le_succ _) _).st (Nat.le_succ _) _).st (Nat.le_succ _) _).st (Nat.le_succ _) _
set_option maxRecDepth 100000 in
set_option maxHeartbeats 4000000 in
theorem dLeave (t r W id : Int) (v : Value) (q : List Rq) (w : World) (hl : q.length ≤ 1000) (h : RqAt w v q) :
    Calls Try.prog 11 #[hdV t r v W, .int .i64 id] w (HD1 (lvR ⟨t, r, W, q⟩ id) w) := by
  obtain ⟨X, hX⟩ : ∃ X, lvR ⟨t, r, W, q⟩ id = X := ⟨_, rfl⟩
  rw [hX]
  unfold HD1
  have HWo := Lib.hid (fun (w1 : World) (g : Nw w w1) => dWithout t r W id v q w1 hl (h.nw g))
  unfold hdV at HWo
  obtain ⟨px, hpx⟩ : ∃ px, plc (fun R => R.id == id) q = px := ⟨_, rfl⟩
  have hFi := fun (w1 : World) (g : Nw w w1) (f : Value) (hf : Tells w1 f (fun R => R.id == id)) => dFind t r W v f _ q w1 hl (h.nw g) hf
  rw [hpx] at hFi
  have HAt := Lib.hid h
  obtain ⟨a, c, rfl, _⟩ := h
  unfold hdV at hFi ⊢
  have HFi := Lib.hid hFi
  clear hFi
  have HWi := Lib.hid (dWithID id)
  obtain ⟨hx1, hx2, hx3, hx4⟩ := two_boxes w (.cells #[.int .i64 t, .int .i64 r, .slice a q.length c, .int .i64 W] 27) (.cells #[.int .i64 0, .int .i64 0, .slice none 0 0, .int .i64 0] 27)
  obtain ⟨w1, hw1⟩ : ∃ w1, (w.alloc (.cells #[.int .i64 t, .int .i64 r, .slice a q.length c, .int .i64 W] 27)).alloc (.cells #[.int .i64 0, .int .i64 0, .slice none 0 0, .int .i64 0] 27) = w1 := ⟨_, rfl⟩
  rw [hw1] at hx1 hx2 hx3
  have HB1 := Lib.hid (And.intro (And.intro hx1 hx2) hx3)
  have s0 : ∀ z, Nw w1 z → z.cell? ⟨w.heap.size, 0, none⟩ = some (.int .i64 t) := fun z hz => hz.kp (hcell (j := 0) hx1)
  have s1 : ∀ z, Nw w1 z → z.cell? ⟨w.heap.size, 1, none⟩ = some (.int .i64 r) := fun z hz => hz.kp (hcell (j := 1) hx1)
  have s2 : ∀ z, Nw w1 z → z.cell? ⟨w.heap.size, 2, none⟩ = some (.slice a q.length c) := fun z hz => hz.kp (hcell (j := 2) hx1)
  have s3 : ∀ z, Nw w1 z → z.cell? ⟨w.heap.size, 3, none⟩ = some (.int .i64 W) := fun z hz => hz.kp (hcell (j := 3) hx1)
  clear hx1 hx2 hx3 hx4
  have HW1 := Lib.hid hw1
  clear hw1
  have q1 := (Nw.refl w1).drew1
  obtain ⟨wc, hwc⟩ : ∃ wc, w1.drew = wc := ⟨_, rfl⟩
  go_enter Try.func11, Try.ntmps11
  go_wp2
  rw [HW1.out]
  refine region_told [some true, some true, some false, none, some false, none, some true] (Nw w1) (by kernel_rfl) (by kernel_rfl) (by kernel_rfl) q1 ?_
  rw [hwc] at q1 ⊢
  clear hwc
  repeat (first
    | (refine HW.off ?_)
    | (refine HW.take' ?_; (first | (refine ⟨undef, Or.inr ⟨by rfl, rfl⟩, ?_⟩) | (apply Exists.intro; refine ⟨Or.inl ⟨by rfl, ?_⟩, ?_⟩; (intro x hx; go_simp; first | done | with_reducible rfl))); (try simp only [Act.put, List.setIfInBounds_toArray, List.set_cons_zero, List.set_cons_succ]))
    | (refine HW.go (fun K hK => ?_); go_simp; (first
      | (go_at_call 37; (with_reducible refine (HWi.out _).mono ?_); rintro e wy ⟨pa, rfl, g2, hbx⟩; refine hK.out _ _ (q1.trans g2) ?_; intro _; replace q1 := q1.trans g2; clear hK K g2; replace hbx := Tells.withID hbx)
      | (go_at_call 36; (with_reducible refine (HFi.out _ (HB1.out.2.trans q1) _ hbx).mono ?_); rintro e wy ⟨rfl, g2⟩; refine hK.out _ _ (q1.trans g2) ?_; intro _; replace q1 := q1.trans g2; clear hK K g2 hbx)
      | (refine hK.out _ _ q1 ?_; intro _; clear hK K))))
  refine HW.end_ ?_
  refine NoPanic.normal ?_
  have HN := Lib.hid (HB1.out.2.trans q1)
  have hp1 := q1.at' HB1.out.1.1
  have hq1 := q1.at' HB1.out.1.2
  have c0 := hcell (j := 0) hp1
  have c1 := hcell (j := 1) hp1
  have c2 := hcell (j := 2) hp1
  have c3 := hcell (j := 3) hp1
  have hpl := hlt hp1
  rcases at_plc q id with ⟨e1, hf⟩ | ⟨k, e1, hk, hf⟩
  · obtain rfl := hpx.symm.trans e1
    have hR := hX.symm.trans (show lvR ⟨t, r, W, q⟩ id = (noH, 5) by unfold lvR; rw [hf])
    subst hR
    have d0 := hcell (j := 0) hq1
    have d1 := hcell (j := 1) hq1
    have d2 := hcell (j := 2) hq1
    have d3 := hcell (j := 3) hq1
    have fz := fun k => hfz (j := k) hq1
    have hsl2 := hlt hq1
    clear hpx hX e1 hf s0 s1 s2 s3 HB1 HFi HWi HAt HW1 q1 hp1 hq1 HWo
    go_wp2
    exact bodyPost_ret (v := .tuple #[.agg #[.int .i64 0, .int .i64 0, .slice none 0 0, .int .i64 0], .int .i64 5]) (by simp only [results, Try.results11]; simp [go_sem, *]) rfl ⟨_, rfl, fill_nw HN.out (Nat.le_succ _) _ _ _ _, Rd.nil _, Nat.le_refl _, Fresh.nil _ _⟩
  · obtain rfl := hpx.symm.trans e1
    have dk : ((k : Int) == -1) = false := by simp
    have hR := hX.symm.trans (show lvR ⟨t, r, W, q⟩ id = (⟨t, r, W, lvQ id q⟩, 0) by unfold lvR; rw [hf])
    subst hR
    have HQ := Lib.hid hq1
    have HWo2 := Lib.hid (HWo.out _ HN.out)
    clear hpx hX e1 hf s0 s1 s2 s3 HB1 HFi HWi HAt HW1 q1 hp1 hq1 HWo
    go_wp2_with fail
    go_at_call 44
    refine HWo2.out.mono ?_
    rintro e w2 ⟨v2, rfl, g2, hR, hcap, hfr⟩
    have hs := Lib.hid (hlt HQ.out)
    have hq2 := g2.at' HQ.out
    have HR := Lib.hid (And.intro hR (And.intro hcap hfr))
    have HN2 := Lib.hid (HN.out.trans g2)
    have HN1 := Lib.hid HN.out
    obtain ⟨a2, k2, hv2⟩ := hR.form
    obtain ⟨n2, hn2⟩ : ∃ n, (lvQ id q).length = n := ⟨_, rfl⟩
    rw [hn2] at hv2
    subst hv2
    have d0 := hcell (j := 0) hq2
    have d1 := hcell (j := 1) hq2
    have d2 := hcell (j := 2) hq2
    have d3 := hcell (j := 3) hq2
    have fz := fun k => hfz (j := k) hq2
    have hsl2 := hlt hq2
    clear hq2 hR hcap hfr g2 hn2 HQ HWo2 HN
    go_wp2
    exact bodyPost_ret (v := .tuple #[.agg #[.int .i64 t, .int .i64 r, .slice a2 n2 k2, .int .i64 W], .int .i64 0]) (by simp only [results, Try.results11]; simp [go_sem, *]) rfl ⟨_, rfl, fill_nw HN2.out (Nat.le_succ _) _ _ _ _, rd_fill HR.out.1 HR.out.2.2 hs.out _ _ _ _, HR.out.2.1, HR.out.2.2.old HN1.out⟩
end Go.Proofs.Ytmciiobncfchlaa
end

/- The developers' package queue: Abandon, Hand. -/
section
namespace Go.Proofs.Ytmciiobncfchlaa
open Go.RowKit
set_option linter.unusedVariables false      -- a contract need not use every name

set_option maxRecDepth 100000 in
set_option maxHeartbeats 4000000 in
theorem dAbandon (t r W id : Int) (v : Value) (q : List Rq) (w : World) (hl : q.length ≤ 1000) (hok : Ok W q) (h : RqAt w v q) :
    Calls Try.prog 13 #[hdV t r v W, .int .i64 id] w (HD1 (abRes ⟨t, r, W, q⟩ id) w) := by
  have HOk := Lib.hid hok
  clear hok
  obtain ⟨X, hX⟩ : ∃ X, abRes ⟨t, r, W, q⟩ id = X := ⟨_, rfl⟩
  rw [hX]
  unfold HD1
  have HCl := Lib.hid (fun (w1 : World) (g : Nw w w1) => dClone v q w1 hl (h.nw g))
  have HWo := Lib.hid (fun (w1 : World) (g : Nw w w1) => dWithout t r W id v q w1 hl (h.nw g))
  unfold hdV at HWo
  obtain ⟨px, hpx⟩ : ∃ px, plc (fun R => R.id == id) q = px := ⟨_, rfl⟩
  have hFi := fun (w1 : World) (g : Nw w w1) (f : Value) (hf : Tells w1 f (fun R => R.id == id)) => dFind t r W v f _ q w1 hl (h.nw g) hf
  rw [hpx] at hFi
  have HAt := Lib.hid h
  obtain ⟨a, c, rfl, _⟩ := h
  unfold hdV at hFi ⊢
  have HFi := Lib.hid hFi
  clear hFi
  have HWi := Lib.hid (dWithID id)
  obtain ⟨hx1, hx2, hx3, hx4⟩ := two_boxes w (.cells #[.int .i64 t, .int .i64 r, .slice a q.length c, .int .i64 W] 27) (.cells #[.int .i64 0, .int .i64 0, .slice none 0 0, .int .i64 0] 27)
  obtain ⟨w1, hw1⟩ : ∃ w1, (w.alloc (.cells #[.int .i64 t, .int .i64 r, .slice a q.length c, .int .i64 W] 27)).alloc (.cells #[.int .i64 0, .int .i64 0, .slice none 0 0, .int .i64 0] 27) = w1 := ⟨_, rfl⟩
  rw [hw1] at hx1 hx2 hx3
  have HB1 := Lib.hid (And.intro (And.intro hx1 hx2) hx3)
  have s0 : ∀ z, Nw w1 z → z.cell? ⟨w.heap.size, 0, none⟩ = some (.int .i64 t) := fun z hz => hz.kp (hcell (j := 0) hx1)
  have s1 : ∀ z, Nw w1 z → z.cell? ⟨w.heap.size, 1, none⟩ = some (.int .i64 r) := fun z hz => hz.kp (hcell (j := 1) hx1)
  have s2 : ∀ z, Nw w1 z → z.cell? ⟨w.heap.size, 2, none⟩ = some (.slice a q.length c) := fun z hz => hz.kp (hcell (j := 2) hx1)
  have s3 : ∀ z, Nw w1 z → z.cell? ⟨w.heap.size, 3, none⟩ = some (.int .i64 W) := fun z hz => hz.kp (hcell (j := 3) hx1)
  clear hx1 hx2 hx3 hx4
  have HW1 := Lib.hid hw1
  clear hw1
  have q1 := (Nw.refl w1).drew1
  obtain ⟨wc, hwc⟩ : ∃ wc, w1.drew = wc := ⟨_, rfl⟩
  go_enter Try.func13, Try.ntmps13
  go_wp2
  rw [HW1.out]
  refine region_told [some true, some true, some false, none, some false, none, some true] (Nw w1) (by kernel_rfl) (by kernel_rfl) (by kernel_rfl) q1 ?_
  rw [hwc] at q1 ⊢
  clear hwc
  repeat (first
    | (refine HW.off ?_)
    | (refine HW.take' ?_; (first | (refine ⟨undef, Or.inr ⟨by rfl, rfl⟩, ?_⟩) | (apply Exists.intro; refine ⟨Or.inl ⟨by rfl, ?_⟩, ?_⟩; (intro x hx; go_simp; first | done | with_reducible rfl))); (try simp only [Act.put, List.setIfInBounds_toArray, List.set_cons_zero, List.set_cons_succ]))
    | (refine HW.go (fun K hK => ?_); go_simp; (first
      | (go_at_call 37; (with_reducible refine (HWi.out _).mono ?_); rintro e wy ⟨pa, rfl, g2, hbx⟩; refine hK.out _ _ (q1.trans g2) ?_; intro _; replace q1 := q1.trans g2; clear hK K g2; replace hbx := Tells.withID hbx)
      | (go_at_call 36; (with_reducible refine (HFi.out _ (HB1.out.2.trans q1) _ hbx).mono ?_); rintro e wy ⟨rfl, g2⟩; refine hK.out _ _ (q1.trans g2) ?_; intro _; replace q1 := q1.trans g2; clear hK K g2 hbx)
      | (refine hK.out _ _ q1 ?_; intro _; clear hK K))))
  refine HW.end_ ?_
  refine NoPanic.normal ?_
  have HN := Lib.hid (HB1.out.2.trans q1)
  have hp1 := q1.at' HB1.out.1.1
  have hq1 := q1.at' HB1.out.1.2
  have c0 := hcell (j := 0) hp1
  have c1 := hcell (j := 1) hp1
  have c2 := hcell (j := 2) hp1
  have c3 := hcell (j := 3) hp1
  have hpl := hlt hp1
  rcases at_plc q id with ⟨e1, hf⟩ | ⟨k, e1, hk, hf⟩
  · obtain rfl := hpx.symm.trans e1
    have hR := hX.symm.trans (show abRes ⟨t, r, W, q⟩ id = (noH, 5) by unfold abRes; rw [hf])
    subst hR
    have d0 := hcell (j := 0) hq1
    have d1 := hcell (j := 1) hq1
    have d2 := hcell (j := 2) hq1
    have d3 := hcell (j := 3) hq1
    have fz := fun k => hfz (j := k) hq1
    have hsl2 := hlt hq1
    clear hpx hX e1 hf s0 s1 s2 s3 HB1 HFi HWi HAt HW1 q1 hp1 hq1 HWo HCl
    go_wp2
    exact bodyPost_ret (v := .tuple #[.agg #[.int .i64 0, .int .i64 0, .slice none 0 0, .int .i64 0], .int .i64 5]) (by simp only [results, Try.results13]; simp [go_sem, *]) rfl ⟨_, rfl, fill_nw HN.out (Nat.le_succ _) _ _ _ _, Rd.nil _, Nat.le_refl _, Fresh.nil _ _⟩
  · obtain rfl := hpx.symm.trans e1
    have dk : ((k : Int) == -1) = false := by simp
    have hX1 : ¬ 0 < q[k].sn → X = (noH, 7) := fun s => hX.symm.trans (by unfold abRes; rw [hf]; exact if_neg s)
    have hX2 : 0 < q[k].sn → q[k].md = 0 → X = (⟨t, r, W, lvQ id q⟩, 0) := fun s m => hX.symm.trans (by unfold abRes; rw [hf]; simp only [if_pos s]; unfold abQ; rw [if_pos m, (fnd_is hf).2])
    have hX3 : 0 < q[k].sn → q[k].md ≠ 0 → X = (⟨t, r, W, q.set k ⟨q[k].id, q[k].txn, q[k].md, q[k].md, 0⟩⟩, 0) := fun s m => hX.symm.trans (by unfold abRes; rw [hf]; simp only [if_pos s]; rw [ab_at HOk.out hk m]; rfl)
    rcases HAt.out with ⟨a', c', e3, ⟨e4, _⟩ | ⟨b, o, e4, hc⟩⟩
    · subst e4; simp at hk
    simp only [Value.slice.injEq, true_and] at e3
    obtain ⟨rfl, rfl⟩ := e3
    subst e4
    have hki : (k : Int) < (q.length : Int) := by omega
    have hce := (hc.nw HN.out).cell k hk
    have HCe := Lib.hid (fun (z : World) (g : Nw w z) => (hc.nw g).cell k hk)
    have HWa := Lib.hid (fun z => dWaits q[k] z)
    have HHo := Lib.hid (fun z => dHolds q[k] z)
    have HRow := Lib.hid (fun (z : World) (g0 g cap : Nat) (j : Nat) (hj : j < 5) (u : Value) (new : Rq) (e : (rqrow q[k]).set j u = rqrow new) (h : RqOwn z g0 (.slice (some ⟨g, 0, none⟩) q.length cap) q) => own_upd h rfl k hk j hj u new e)
    have HRow2 := Lib.hid (fun (z : World) (g0 g cap : Nat) (X : Rq) (j : Nat) (hj : j < 5) (u : Value) (new : Rq) (e : (rqrow X).set j u = rqrow new) (h : RqOwn z g0 (.slice (some ⟨g, 0, none⟩) q.length cap) (q.set k X)) => own_upd h (by rw [List.length_set]) k (by rw [List.length_set]; exact hk) j hj u new (by rw [List.getElem_set_self]; exact e))
    simp only [List.set_set] at HRow2
    have HCo := Lib.hid (fun (z : World) (g0 g cap : Nat) (h : RqOwn z g0 (.slice (some ⟨g, 0, none⟩) q.length cap) q) => own_cell h rfl k hk)
    clear hpx hX e1 hf s0 s1 s2 s3 HB1 HFi HWi HW1 q1 hc HOk
    generalize q[k] = R at *
    obtain ⟨b0, b1, b2, b3, b4⟩ := R
    unfold rqV at HWa HHo
    have m0 := hce 0 _ rfl
    have m1 := hce 1 _ rfl
    have m2 := hce 2 _ rfl
    have m3 := hce 3 _ rfl
    have m4 := hce 4 _ rfl
    simp only [Nat.add_zero] at m0
    clear hce
    have HX1 := Lib.hid hX1
    have HX2 := Lib.hid hX2
    have HX3 := Lib.hid hX3
    clear hX1 hX2 hX3
    go_wp2_with fail
    go_at_call 42
    refine (HWa.out _).mono ?_
    rintro e w2 ⟨rfl, g2⟩
    have hp2 := g2.at' hp1
    have hq2 := g2.at' hq1
    have HN2 := Lib.hid (HN.out.trans g2)
    clear c0 c1 c2 c3 hpl
    have c0 := hcell (j := 0) hp2
    have c1 := hcell (j := 1) hp2
    have c2 := hcell (j := 2) hp2
    have c3 := hcell (j := 3) hp2
    have hpl := hlt hp2
    clear m0 m1 m2 m3 m4
    have hce := HCe.out _ HN2.out
    have m0 := hce 0 _ rfl
    have m1 := hce 1 _ rfl
    have m2 := hce 2 _ rfl
    have m3 := hce 3 _ rfl
    have m4 := hce 4 _ rfl
    simp only [Nat.add_zero] at m0
    clear hce
    clear g2 HWa hp1 hq1
    by_cases hs : 0 < b4
    rotate_left
    · have ds : decide (0 < b4) = false := by simpa using hs
      have hR := HX1.out (by first | exact hs | exact Int.not_lt.1 hs)
      subst hR
      have d0 := hcell (j := 0) hq2
      have d1 := hcell (j := 1) hq2
      have d2 := hcell (j := 2) hq2
      have d3 := hcell (j := 3) hq2
      have fz := fun k => hfz (j := k) hq2
      have hsl2 := hlt hq2
      clear hs HX1 HX2 HX3 HCe HHo HRow HRow2 HCo HCl HWo HAt HN hp2 hq2
      go_wp2
      exact bodyPost_ret (v := .tuple #[.agg #[.int .i64 0, .int .i64 0, .slice none 0 0, .int .i64 0], .int .i64 7]) (by simp only [results, Try.results13]; simp [go_sem, *]) rfl ⟨_, rfl, fill_nw HN2.out (Nat.le_succ _) _ _ _ _, Rd.nil _, Nat.le_refl _, Fresh.nil _ _⟩
    have ds : decide (0 < b4) = true := by simpa using hs
    go_wp2_with fail
    go_at_call 47
    refine (HHo.out _).mono ?_
    rintro e w3 ⟨rfl, g3⟩
    have hp3 := g3.at' hp2
    have hq3 := g3.at' hq2
    have HN3 := Lib.hid (HN2.out.trans g3)
    clear c0 c1 c2 c3 hpl
    have c0 := hcell (j := 0) hp3
    have c1 := hcell (j := 1) hp3
    have c2 := hcell (j := 2) hp3
    have c3 := hcell (j := 3) hp3
    have hpl := hlt hp3
    clear m0 m1 m2 m3 m4
    have hce := HCe.out _ HN3.out
    have m0 := hce 0 _ rfl
    have m1 := hce 1 _ rfl
    have m2 := hce 2 _ rfl
    have m3 := hce 3 _ rfl
    have m4 := hce 4 _ rfl
    simp only [Nat.add_zero] at m0
    clear hce
    clear g3 HHo hp2 hq2
    by_cases hm : b2 = 0
    · have dm : (b2 != 0) = false := by simpa using hm
      have hR := HX2.out hs hm
      subst hR
      rw [dm]
      have HQ := Lib.hid hq3
      have HWo2 := Lib.hid (HWo.out _ HN3.out)
      clear dm hs hm ds HX1 HX2 HX3 HCe HRow HRow2 HCo HCl HWo HAt hp3 hq3
      go_wp2_with fail
      go_at_call 44
      refine HWo2.out.mono ?_
      rintro e w4 ⟨v2, rfl, g4, hR, hcap, hfr⟩
      have hs := Lib.hid (hlt HQ.out)
      have hq4 := g4.at' HQ.out
      have HR := Lib.hid (And.intro hR (And.intro hcap hfr))
      have HN4 := Lib.hid (HN3.out.trans g4)
      obtain ⟨a2, k2, hv2⟩ := hR.form
      obtain ⟨n2, hn2⟩ : ∃ n, (lvQ id q).length = n := ⟨_, rfl⟩
      rw [hn2] at hv2
      subst hv2
      have d0 := hcell (j := 0) hq4
      have d1 := hcell (j := 1) hq4
      have d2 := hcell (j := 2) hq4
      have d3 := hcell (j := 3) hq4
      have fz := fun k => hfz (j := k) hq4
      have hsl2 := hlt hq4
      clear hq4 hR hcap hfr g4 hn2 HQ HWo2 HN HN2 c0 c1 c2 c3 hpl m0 m1 m2 m3 m4
      go_wp2
      exact bodyPost_ret (v := .tuple #[.agg #[.int .i64 t, .int .i64 r, .slice a2 n2 k2, .int .i64 W], .int .i64 0]) (by simp only [results, Try.results13]; simp [go_sem, *]) rfl ⟨_, rfl, fill_nw HN4.out (Nat.le_succ _) _ _ _ _, rd_fill HR.out.1 HR.out.2.2 hs.out _ _ _ _, HR.out.2.1, HR.out.2.2.old HN3.out⟩
    · have dm : (b2 != 0) = true := by simpa using hm
      have hR := HX3.out hs hm
      subst hR
      rw [dm]
      have HQ := Lib.hid (And.intro hp3 hq3)
      have HCl2 := Lib.hid (HCl.out _ HN3.out)
      clear dm hs hm ds HX1 HX2 HX3 HCe HCl HWo HAt hp3 hq3
      go_wp2_with fail
      go_at_call 48
      refine HCl2.out.mono ?_
      rintro e w4 ⟨v4, rfl, g4, hO⟩
      obtain ⟨g, cap, rfl, hg0, hgl, _⟩ := RqOwn.at hO hk
      have hne : ¬ g = w.heap.size := by have := hlt HQ.out.1; omega
      have hne' : ¬ w.heap.size = g := fun e => hne e.symm
      have hn2 : ¬ g = w.heap.size + 1 := by have := hlt HQ.out.2; omega
      have hn2' : ¬ w.heap.size + 1 = g := fun e => hn2 e.symm
      have hp4 := g4.at' HQ.out.1
      have hq4 := g4.at' HQ.out.2
      have HB := Lib.hid (And.intro (hlt HQ.out.1) (hlt HQ.out.2))
      have hO1 := own_st hO (p := ⟨w.heap.size, 2, none⟩) (by exact HB.out.1) (.slice (some ⟨g, 0, none⟩) q.length cap)
      have hO2 := HRow.out _ _ _ _ 3 (by decide) (.int .i64 b2) ⟨b0, b1, b2, b2, b4⟩ rfl hO1
      have hO3 := HRow2.out _ _ _ _ ⟨b0, b1, b2, b2, b4⟩ 4 (by decide) (.int .i64 0) ⟨b0, b1, b2, b2, 0⟩ rfl hO2
      have hO4 := fill_own hO3 (rb := w.heap.size + 1) HB.out.2 (.int .i64 t) (.int .i64 r) (.slice (some ⟨g, 0, none⟩) q.length cap) (.int .i64 W)
      have HO4 := Lib.hid hO4
      have HN4 := Lib.hid (HN3.out.trans g4)
      have HG := Lib.hid (And.intro hg0 HN3.out.sz)
      have hoc := HCo.out _ _ _ _ hO
      clear c0 c1 c2 c3 hpl m0 m1 m2 m3 m4
      have c0 := hcell (j := 0) hp4
      have c1 := hcell (j := 1) hp4
      have c2 := hcell (j := 2) hp4
      have c3 := hcell (j := 3) hp4
      have hpl := hlt hp4
      have fp := fun k => hfz (j := k) hp4
      have fg := fun k => own_frz hO rfl k
      have m2 := hoc 2 _ rfl
      have m3 := hoc 3 _ rfl
      have m4 := hoc 4 _ rfl
      have d0 := hcell (j := 0) hq4
      have d1 := hcell (j := 1) hq4
      have d2 := hcell (j := 2) hq4
      have d3 := hcell (j := 3) hq4
      have fz := fun k => hfz (j := k) hq4
      have hsl2 := hlt hq4
      clear hq4 hp4 hO hO1 hO2 hO3 hO4 hoc g4 HCl2 HN HN2 HRow HRow2 HCo hg0
      go_wp2
      exact bodyPost_ret (v := .tuple #[.agg #[.int .i64 t, .int .i64 r, .slice (some ⟨g, 0, none⟩) q.length cap, .int .i64 W], .int .i64 0]) (by simp only [results, Try.results13]; simp [go_sem, *]) rfl ⟨_, rfl, fill_nw (((HN4.out.st (Nat.le_refl _) _).st (by show w.heap.size ≤ g; have := HG.out; omega) _).st (by show w.heap.size ≤ g; have := HG.out; omega) _) (Nat.le_succ _) _ _ _ _, RqOwn.rd HO4.out, HO4.out.cap, HO4.out.fresh HG.out.2⟩
end Go.Proofs.Ytmciiobncfchlaa
end

/- The developers' package queue: Upgrade. -/
section
namespace Go.Proofs.Ytmciiobncfchlaa
open Go.RowKit
set_option linter.unusedVariables false      -- a contract need not use every name

theorem dSup (a b : Int) (w : World) (ha : knI a = true) (hb : knI b = true) : Calls Try.prog 43 #[.int .i64 a, .int .i64 b] w fun e w' => e = .returned (.int .i64 (supT a b)) ∧ Nw w w' := by
  have h1 : 0 ≤ a ∧ a < 7 := by simpa [knI] using ha
  have h2 : 0 ≤ b ∧ b < 7 := by simpa [knI] using hb
  exact sup_in a b w h1.1 h1.2 h2.1 h2.2
set_option maxRecDepth 100000 in
set_option maxHeartbeats 8000000 in
theorem dUpgrade (t r W id m : Int) (v : Value) (q : List Rq) (w : World) (hl : q.length ≤ 900) (hok : Ok W q) (h : RqAt w v q) :
    Calls Try.prog 10 #[hdV t r v W, .int .i64 id, .int .i64 m] w (HD2 (upR ⟨t, r, W, q⟩ id m) w) := by
  obtain ⟨X, hX⟩ : ∃ X, upR ⟨t, r, W, q⟩ id m = X := ⟨_, rfl⟩
  rw [hX]
  have HLo := Lib.hid (fun w => dLockable m w)
  have HOk := Lib.hid hok
  have HAt := Lib.hid h
  have hFi := fun (w1 : World) (g : Nw w w1) (f : Value) (hf : Tells w1 f (fun R => R.id == id)) => dFind t r W v f _ q w1 (by omega) (h.nw g) hf
  have HLi := Lib.hid (fun (w1 : World) (g : Nw w w1) => dLineOf t r W v q w1 (by omega) (fun R hR => (hok.rt R hR).md) (h.nw g))
  obtain ⟨a, c, rfl, _⟩ := h
  unfold HD2 hdV at *
  have HX := Lib.hid (two_boxes w (.cells #[.int .i64 t, .int .i64 r, .slice a q.length c, .int .i64 W] 27) (.cells #[.int .i64 0, .int .i64 0, .slice none 0 0, .int .i64 0] 27))
  obtain ⟨y, hy⟩ : ∃ y, ((m != 0) && knI m) = y := ⟨_, rfl⟩
  rw [hy] at HLo
  obtain ⟨px, hpx⟩ : ∃ px, plc (fun R => R.id == id) q = px := ⟨_, rfl⟩
  rw [hpx] at hFi
  have HFi := Lib.hid hFi
  have HWi := Lib.hid (dWithID id)
  clear hFi hok
  cases y
  · have hR := hX.symm.trans (up_bad (h := ⟨t, r, W, q⟩) (by cases e : knI m with | false => exact .inr rfl | true => rw [e, Bool.and_true] at hy; exact .inl (by simpa using hy)))
    subst hR
    clear hy hpx HFi HWi HLi HOk HAt hX
    go_enter Try.func10, Try.ntmps10
    go_wp2_with fail
    go_at_call 35
    refine (HLo.out _).mono ?_
    rintro e w1 ⟨rfl, g1⟩
    have hq1 := g1.at' HX.out.2.1
    have HQ := Lib.hid (HX.out.2.2.1.trans g1)
    have d0 := hcell (j := 0) hq1
    have d1 := hcell (j := 1) hq1
    have d2 := hcell (j := 2) hq1
    have d3 := hcell (j := 3) hq1
    have fz := fun k => hfz (j := k) hq1
    have hsl2 := hlt hq1
    clear g1 hq1 HX HLo
    go_wp2
    exact bodyPost_ret (v := .tuple #[.agg #[.int .i64 0, .int .i64 0, .slice none 0 0, .int .i64 0], .bool false, .int .i64 2]) (by simp only [results, Try.results10]; simp [go_sem, *]) rfl ⟨_, rfl, fill_nw HQ.out (Nat.le_succ _) _ _ _ _, Rd.nil _, Nat.le_refl _, Fresh.nil _ _⟩
  have hgood : ¬ (m = 0 ∨ knI m = false) := by
    rw [Bool.and_eq_true, bne_iff_ne] at hy
    rintro (e | e)
    · exact hy.1 e
    · rw [hy.2] at e; cases e
  have hkm : knI m = true := by
    rw [Bool.and_eq_true] at hy
    exact hy.2
  have HGd := Lib.hid (And.intro hgood hkm)
  clear hy hgood hkm
  go_enter Try.func10, Try.ntmps10
  go_wp2_with fail
  go_at_call 35
  refine (HLo.out _).mono ?_
  rintro e w1 ⟨rfl, g1⟩
  have hx1 := g1.at' HX.out.1
  have HB1 := Lib.hid (And.intro (And.intro (g1.at' HX.out.1) (g1.at' HX.out.2.1)) (HX.out.2.2.1.trans g1))
  have s0 : ∀ z, Nw w1 z → z.cell? ⟨w.heap.size, 0, none⟩ = some (.int .i64 t) := fun z hz => hz.kp (hcell (j := 0) hx1)
  have s1 : ∀ z, Nw w1 z → z.cell? ⟨w.heap.size, 1, none⟩ = some (.int .i64 r) := fun z hz => hz.kp (hcell (j := 1) hx1)
  have s2 : ∀ z, Nw w1 z → z.cell? ⟨w.heap.size, 2, none⟩ = some (.slice a q.length c) := fun z hz => hz.kp (hcell (j := 2) hx1)
  have s3 : ∀ z, Nw w1 z → z.cell? ⟨w.heap.size, 3, none⟩ = some (.int .i64 W) := fun z hz => hz.kp (hcell (j := 3) hx1)
  clear hx1 g1 HX HLo
  go_wp2
  have q1 := (Nw.refl w1).drew1
  obtain ⟨wc, hwc⟩ : ∃ wc, w1.drew = wc := ⟨_, rfl⟩
  refine region_told [some true, some true, some false, none, some false, none, some true] (Nw w1) (by kernel_rfl) (by kernel_rfl) (by kernel_rfl) q1 ?_
  rw [hwc] at q1 ⊢
  clear hwc
  repeat (first
    | (refine HW.off ?_)
    | (refine HW.take' ?_; (first | (refine ⟨undef, Or.inr ⟨by rfl, rfl⟩, ?_⟩) | (apply Exists.intro; refine ⟨Or.inl ⟨by rfl, ?_⟩, ?_⟩; (intro x hx; go_simp; first | done | with_reducible rfl))); (try simp only [Act.put, List.setIfInBounds_toArray, List.set_cons_zero, List.set_cons_succ]))
    | (refine HW.go (fun K hK => ?_); go_simp; (first
      | (go_at_call 37; (with_reducible refine (HWi.out _).mono ?_); rintro e wy ⟨pa, rfl, g2, hbx⟩; refine hK.out _ _ (q1.trans g2) ?_; intro _; replace q1 := q1.trans g2; clear hK K g2; replace hbx := Tells.withID hbx)
      | (go_at_call 36; (with_reducible refine (HFi.out _ (HB1.out.2.trans q1) _ hbx).mono ?_); rintro e wy ⟨rfl, g2⟩; refine hK.out _ _ (q1.trans g2) ?_; intro _; replace q1 := q1.trans g2; clear hK K g2 hbx)
      | (refine hK.out _ _ q1 ?_; intro _; clear hK K))))
  refine HW.end_ ?_
  refine NoPanic.normal ?_
  have HN := Lib.hid (HB1.out.2.trans q1)
  have hp1 := q1.at' HB1.out.1.1
  have hq1 := q1.at' HB1.out.1.2
  have c0 := hcell (j := 0) hp1
  have c1 := hcell (j := 1) hp1
  have c2 := hcell (j := 2) hp1
  have c3 := hcell (j := 3) hp1
  have hpl := hlt hp1
  rcases at_plc q id with ⟨e1, hf⟩ | ⟨k, e1, hk, hf⟩
  · obtain rfl := hpx.symm.trans e1
    have hR := hX.symm.trans (up_none (h := ⟨t, r, W, q⟩) HGd.out.1 hf)
    subst hR
    have d0 := hcell (j := 0) hq1
    have d1 := hcell (j := 1) hq1
    have d2 := hcell (j := 2) hq1
    have d3 := hcell (j := 3) hq1
    have fz := fun k => hfz (j := k) hq1
    have hsl2 := hlt hq1
    clear hpx hX e1 hf s0 s1 s2 s3 HB1 HFi HWi HAt q1 hp1 hq1 HLi HOk
    go_wp2
    exact bodyPost_ret (v := .tuple #[.agg #[.int .i64 0, .int .i64 0, .slice none 0 0, .int .i64 0], .bool false, .int .i64 5]) (by simp only [results, Try.results10]; simp [go_sem, *]) rfl ⟨_, rfl, fill_nw HN.out (Nat.le_succ _) _ _ _ _, Rd.nil _, Nat.le_refl _, Fresh.nil _ _⟩
  · obtain rfl := hpx.symm.trans e1
    have dk : ((k : Int) == -1) = false := by simp
    have hX1 : 0 < q[k].sn → X = (noH, false, 7) := fun s => hX.symm.trans (up_wait (h := ⟨t, r, W, q⟩) HGd.out.1 hf s)
    have hX2 : ¬ 0 < q[k].sn → X = (⟨t, r, (upQ W q q[k] m).1, (upQ W q q[k] m).2.1⟩, (upQ W q q[k] m).2.2, 0) := fun s => hX.symm.trans (up_go (h := ⟨t, r, W, q⟩) HGd.out.1 hf s)
    have HRt := Lib.hid (HOk.out.rt _ (List.getElem_mem hk))
    have HUp := Lib.hid (fun (hs : q[k].sn = 0) (want : Int) (hw : knI want = true) => up_en HOk.out k hk hs want hw)
    have HCh := Lib.hid (fun (f : Rq → Rq) => chg_set HOk.out f k hk)
    have HSl := Lib.hid (fun x e => set_self hk x e)
    have HCq := Lib.hid (fun (R : Rq) (hm : R.md = q[k].md) => cntQ_same q k hk R hm)
    have HAw := Lib.hid (fun (z : World) (g0 : Nat) (v : Value) (h : RqOwn z g0 v q) => RqOwn.at h hk)
    rcases HAt.out with ⟨a', c', e3, ⟨e4, _⟩ | ⟨b, o, e4, hc⟩⟩
    · subst e4; simp at hk
    simp only [Value.slice.injEq, true_and] at e3
    obtain ⟨rfl, rfl⟩ := e3
    subst e4
    have hki : (k : Int) < (q.length : Int) := by omega
    have hce := (hc.nw HN.out).cell k hk
    have HCe := Lib.hid (fun (z : World) (g : Nw w z) => (hc.nw g).cell k hk)
    have HWa := Lib.hid (fun z => dWaits q[k] z)
    have HHo := Lib.hid (fun z => dHolds q[k] z)
    have HRow := Lib.hid (fun (z : World) (g0 g cap : Nat) (j : Nat) (hj : j < 5) (u : Value) (new : Rq) (e : (rqrow q[k]).set j u = rqrow new) (h : RqOwn z g0 (.slice (some ⟨g, 0, none⟩) q.length cap) q) => own_upd h rfl k hk j hj u new e)
    have HRow2 := Lib.hid (fun (z : World) (g0 g cap : Nat) (X : Rq) (j : Nat) (hj : j < 5) (u : Value) (new : Rq) (e : (rqrow X).set j u = rqrow new) (h : RqOwn z g0 (.slice (some ⟨g, 0, none⟩) q.length cap) (q.set k X)) => own_upd h (by rw [List.length_set]) k (by rw [List.length_set]; exact hk) j hj u new (by rw [List.getElem_set_self]; exact e))
    simp only [List.set_set] at HRow2
    have HCo := Lib.hid (fun (z : World) (g0 g cap : Nat) (h : RqOwn z g0 (.slice (some ⟨g, 0, none⟩) q.length cap) q) => own_cell h rfl k hk)
    clear hpx hX e1 hf s0 s1 s2 s3 HB1 HFi HWi q1 hc
    generalize q[k] = R at *
    obtain ⟨b0, b1, b2, b3, b4⟩ := R
    unfold rqV at HWa HHo
    have m0 := hce 0 _ rfl
    have m1 := hce 1 _ rfl
    have m2 := hce 2 _ rfl
    have m3 := hce 3 _ rfl
    have m4 := hce 4 _ rfl
    simp only [Nat.add_zero] at m0
    clear hce HHo
    have HX1 := Lib.hid hX1
    have HX2 := Lib.hid hX2
    clear hX1 hX2
    go_wp2_with fail
    go_at_call 42
    refine (HWa.out _).mono ?_
    rintro e w2 ⟨rfl, g2⟩
    have hp2 := g2.at' hp1
    have hq2 := g2.at' hq1
    have HN2 := Lib.hid (HN.out.trans g2)
    clear c0 c1 c2 c3 hpl
    have c0 := hcell (j := 0) hp2
    have c1 := hcell (j := 1) hp2
    have c2 := hcell (j := 2) hp2
    have c3 := hcell (j := 3) hp2
    have hpl := hlt hp2
    clear m0 m1 m2 m3 m4 g2 HWa hp1 hq1
    by_cases hs : 0 < b4
    · have ds : decide (0 < b4) = true := by simpa using hs
      have hR := HX1.out hs
      subst hR
      have d0 := hcell (j := 0) hq2
      have d1 := hcell (j := 1) hq2
      have d2 := hcell (j := 2) hq2
      have d3 := hcell (j := 3) hq2
      have fz := fun k => hfz (j := k) hq2
      have hsl2 := hlt hq2
      clear hs HX1 HX2 HCe HRow HRow2 HCo HAt HN hp2 hq2 HLi HOk HUp HCh HSl HCq HAw HRt
      go_wp2
      exact bodyPost_ret (v := .tuple #[.agg #[.int .i64 0, .int .i64 0, .slice none 0 0, .int .i64 0], .bool false, .int .i64 7]) (by simp only [results, Try.results10]; simp [go_sem, *]) rfl ⟨_, rfl, fill_nw HN2.out (Nat.le_succ _) _ _ _ _, Rd.nil _, Nat.le_refl _, Fresh.nil _ _⟩
    have ds : decide (0 < b4) = false := by simpa using hs
    have hb4 : b4 = 0 := by have := HRt.out.s0; simp only at this; omega
    have hR := HX2.out (by first | exact hs | exact Int.not_lt.1 hs)
    have hwt := (HRt.out.h hb4).2
    have hmk := HRt.out.md
    simp only at hwt hmk
    subst hb4
    have hup := HUp.out rfl
    obtain ⟨wn, hwn⟩ : ∃ wn, supT b2 m = wn := ⟨_, rfl⟩
    have hsk := sup_kn b2 m hmk HGd.out.2
    have HSp := Lib.hid (fun w => dSup b2 m w hmk HGd.out.2)
    rw [hwn] at HSp hsk
    replace hup := hup wn hsk
    unfold upQ at hR
    simp only [hwn] at hR
    have HRr := Lib.hid hR
    have HUq := Lib.hid hup
    have HWk := Lib.hid (And.intro hwt (And.intro hsk hmk))
    have HLi2 := Lib.hid (HLi.out _ HN2.out)
    have HQ2 := Lib.hid (And.intro hp2 hq2)
    clear hs HX1 HX2 hR hwt hmk hup hwn hsk HUp hp2 hq2 HLi HAt HRt HN HGd HCe
    go_wp2_with fail
    go_at_call 39
    refine HLi2.out.mono ?_
    rintro e w3 ⟨p, v1, b', n, rfl, g3, hL3, hnq⟩
    obtain ⟨g, cap, rfl, hg0, hgl, hce⟩ := HAw.out _ _ _ hL3.own
    have HL3 := Lib.hid (And.intro hL3 (And.intro g3 (And.intro hg0 hnq)))
    have p2 := hcell (j := 2) hL3.obj
    have hpl3 := hlt hL3.obj
    have m2 := hce 2 _ rfl
    clear c0 c1 c2 c3 hpl hce hL3 g3 hg0 hnq HLi2
    go_wp2_with fail
    go_at_call 43
    refine (HSp.out _).mono ?_
    rintro e w4 ⟨rfl, g4⟩
    have hL4 := HL3.out.1.nw g4
    have hup4 := HRow.out _ _ _ _ 3 (by decide) (.int .i64 wn) ⟨b0, b1, b2, wn, 0⟩ rfl hL4.own
    have hL5 := (hL4.row (a := ⟨g, k * 5 + 3, none⟩) rfl (.int .i64 wn) hup4).eq (HCq.out ⟨b0, b1, b2, wn, 0⟩ rfl).symm
    have hg5 : Nw w2 (w4.setCell ⟨g, k * 5 + 3, none⟩ (.int .i64 wn)) := (HL3.out.2.1.trans g4).st HL3.out.2.2.1 _
    have mf := own_frz hL4.own rfl (k * 5 + 3)
    have hgl4 := olt hL4.own rfl
    have hc4 := HCo.out _ _ _ _ hL4.own
    have m3' := hc4 3 _ rfl
    obtain ⟨w5, hw5⟩ : ∃ w5, w4.setCell ⟨g, k * 5 + 3, none⟩ (.int .i64 wn) = w5 := ⟨_, rfl⟩
    rw [hw5] at hL5 hg5
    have HW5 := Lib.hid hw5
    obtain ⟨q', hq'⟩ : ∃ q', q.set k ⟨b0, b1, b2, wn, 0⟩ = q' := ⟨_, rfl⟩
    have hk' : k < q'.length := by rw [← hq', List.length_set]; exact hk
    have hqk : q'[k] = ⟨b0, b1, b2, wn, 0⟩ := by subst hq'; simp
    have hcl : q.length = q'.length := by rw [← hq', List.length_set]
    have hss : ∀ x : Rq, q'.set k x = q.set k x := fun x => by rw [← hq', List.set_set]
    have hkn' : ∀ R ∈ q', knI R.md = true := fun R hR => by
      rw [← hq'] at hR
      rcases List.mem_or_eq_of_mem_set hR with hR | rfl
      · exact (HOk.out.rt R hR).md
      · exact HWk.out.2.2
    have hc5 : ∀ j u, (rqrow ⟨b0, b1, b2, wn, 0⟩)[j]? = some u → w5.cell? ⟨g, k * 5 + j, none⟩ = some u := fun j u hu => own_cell (q := q') (by rw [← hq']; exact hL5.own) hcl k hk' j u (by rw [hqk]; exact hu)
    rw [hq'] at hL5
    have HQk := Lib.hid (And.intro hq' (And.intro hqk (And.intro hcl (And.intro hss hkn'))))
    have HL5 := Lib.hid (And.intro hL5 hg5)
    have hN5 := (Nw.refl w5).drew1
    clear m2 p2 hpl3 hL4 hup4 hL5 hg5 hw5 g4 hqk hcl hss hkn' HRow HRow2 HCo hq' hgl
    go_wp2
    rw [HW5.out]
    clear HW5 m3' mf hgl4 hc4
    by_cases he : wn = b2
    · have de : (wn == b2) = true := by simpa using he
      have s2 : ∀ x, Nw w5 x → x.cell? ⟨g, k * 5 + 2, none⟩ = some (.int .i64 b2) := fun x hx => hx.kp (hc5 2 _ rfl)
      have s3 : ∀ x, Nw w5 x → x.cell? ⟨g, k * 5 + 3, none⟩ = some (.int .i64 wn) := fun x hx => hx.kp (hc5 3 _ rfl)
      obtain ⟨wc, hwc⟩ : ∃ wc, w5.drew = wc := ⟨_, rfl⟩
      have q1 := hN5
      refine region_told [some true, some true, some true, some true, some true, some true, some true, some true, some true, some true, some true, some true, some false, none, some true, some true] (Nw w5) (by kernel_rfl) (by kernel_rfl) (by kernel_rfl) q1 ?_
      rw [hwc] at q1 ⊢
      clear hwc hN5
      repeat (first
        | (refine HW.off ?_)
        | (refine HW.take' ?_; (first | (refine ⟨undef, Or.inr ⟨by rfl, rfl⟩, ?_⟩) | (apply Exists.intro; refine ⟨Or.inl ⟨by rfl, ?_⟩, ?_⟩; (intro x hx; go_simp; first | done | with_reducible rfl))); (try simp only [Act.put, List.setIfInBounds_toArray, List.set_cons_zero, List.set_cons_succ]))
        | (refine HW.go (fun K hK => ?_); go_simp; (refine hK.out _ _ q1 ?_; intro _; clear hK K)))
      refine HW.end_ ?_
      refine NoPanic.normal ?_
      have hR := HRr.out
      rw [if_pos he] at hR
      simp only at hR
      subst hR
      have hL6 := HL5.out.1.nw q1
      have g6 := HL5.out.2.trans q1
      rw [← HQk.out.1, HSl.out ⟨b0, b1, b2, wn, 0⟩ (by rw [HWk.out.1, he])] at hL6
      have HL7 := Lib.hid hL6
      have hpl := hlt hL6.obj
      have e0 := hcell (j := 0) hL6.obj
      have e1 := hcell (j := 1) hL6.obj
      have e2 := hcell (j := 2) hL6.obj
      have e3 := hcell (j := 3) hL6.obj
      have hq7 := g6.at' HQ2.out.2
      have HN7 := Lib.hid (HN2.out.trans g6)
      have HS := Lib.hid (hlt HQ2.out.2)
      have d0 := hcell (j := 0) hq7
      have d1 := hcell (j := 1) hq7
      have d2 := hcell (j := 2) hq7
      have d3 := hcell (j := 3) hq7
      have fz := fun k => hfz (j := k) hq7
      have hsl2 := hlt hq7
      clear s2 s3 hL6 g6 hc5 hq7 q1 HL5 HL3 HQk HRr HUq HSl HCh HCq HAw
      go_wp2
      exact bodyPost_ret (v := .tuple #[.agg #[.int .i64 t, .int .i64 r, .slice (some ⟨g, 0, none⟩) q.length cap, .int .i64 W], .bool true, .int .i64 0]) (by simp only [results, Try.results10]; simp [go_sem, *]) rfl ⟨_, rfl, fill_nw HN7.out (Nat.le_succ _) _ _ _ _, (HL7.out.done HS.out _ _ _ _).1, HL7.out.own.cap, HL7.out.own.fresh HN2.out.sz⟩
    · have de : (wn == b2) = false := by simpa using he
      have hE0 := HL5.out.1.nw hN5
      have m2 := hc5 2 _ rfl
      have m3 := hc5 3 _ rfl
      have hgl5 := World.block_lt_of_cell? _ _ m2
      obtain ⟨B, hB⟩ : ∃ B, upF q ⟨b0, b1, b2, b3, 0⟩ wn = B := ⟨_, rfl⟩
      have hEn := dEnterB hE0 k hk' ⟨HOk.out.w0, HOk.out.wB⟩ HQk.out.2.2.2.2 (by have := HL3.out.2.2.2; omega) (by have := HQk.out.2.2.1; omega) ⟨b0, b1, b2, wn, 0⟩ HQk.out.2.1 HWk.out.2.1 B (by
        simp only [enR]
        rw [HQk.out.2.2.2.1, ← HQk.out.1, ← hB, ← HUq.out])
      simp only [enR, HQk.out.2.2.2.1] at hEn
      have HEn := Lib.hid hEn
      have HN5 := Lib.hid hN5
      clear hE0 hEn hN5 hc5
      refine wp_region_still_tail 12 (by kernel_rfl) (by kernel_rfl) ?_
      simp only [List.take_succ_cons, List.take_zero, List.drop_succ_cons, List.drop_zero]
      repeat still_step
      try refine wpStill_nil ?_
      change wpList _ _ _ _ _ w5.drew
      go_wp2_with fail
      go_at_call 40
      refine HEn.out.mono ?_
      rintro e w6 ⟨rfl, g6', n6, _, hL6⟩
      have g6 : Nw w2 w6 := Below.trans (HL5.out.2.trans HN5.out) g6'
      have hR := HRr.out
      rw [if_neg he, hB] at hR
      clear m2 m3 hgl5 HEn HN5 g6' HUq hB
      cases B
      · simp only [Bool.false_eq_true, if_true, if_false] at hL6 hR
        have hch := HCh.out (fun x => ⟨x.id, x.txn, x.md, wn, W + 1⟩)
        simp only at hch
        rw [hch] at hR
        subst hR
        have HL7 := Lib.hid hL6
        have hpl := hlt hL6.obj
        have e0 := hcell (j := 0) hL6.obj
        have e1 := hcell (j := 1) hL6.obj
        have e2 := hcell (j := 2) hL6.obj
        have e3 := hcell (j := 3) hL6.obj
        have hq7 := g6.at' HQ2.out.2
        have HN7 := Lib.hid (HN2.out.trans g6)
        have HS := Lib.hid (hlt HQ2.out.2)
        have d0 := hcell (j := 0) hq7
        have d1 := hcell (j := 1) hq7
        have d2 := hcell (j := 2) hq7
        have d3 := hcell (j := 3) hq7
        have fz := fun k => hfz (j := k) hq7
        have hsl2 := hlt hq7
        clear hL6 g6 hq7 HL5 HL3 HQk HRr HSl HCh HCq HAw hch
        go_wp2
        exact bodyPost_ret (v := .tuple #[.agg #[.int .i64 t, .int .i64 r, .slice (some ⟨g, 0, none⟩) q.length cap, .int .i64 (W + 1)], .bool false, .int .i64 0]) (by simp only [results, Try.results10]; simp [go_sem, *]) rfl ⟨_, rfl, fill_nw HN7.out (Nat.le_succ _) _ _ _ _, (HL7.out.done HS.out _ _ _ _).1, HL7.out.own.cap, HL7.out.own.fresh HN2.out.sz⟩
      · simp only [Bool.false_eq_true, if_true, if_false] at hL6 hR
        have hch := HCh.out (fun x => ⟨x.id, x.txn, wn, wn, 0⟩)
        simp only at hch
        rw [hch] at hR
        subst hR
        have HL7 := Lib.hid hL6
        have hpl := hlt hL6.obj
        have e0 := hcell (j := 0) hL6.obj
        have e1 := hcell (j := 1) hL6.obj
        have e2 := hcell (j := 2) hL6.obj
        have e3 := hcell (j := 3) hL6.obj
        have hq7 := g6.at' HQ2.out.2
        have HN7 := Lib.hid (HN2.out.trans g6)
        have HS := Lib.hid (hlt HQ2.out.2)
        have d0 := hcell (j := 0) hq7
        have d1 := hcell (j := 1) hq7
        have d2 := hcell (j := 2) hq7
        have d3 := hcell (j := 3) hq7
        have fz := fun k => hfz (j := k) hq7
        have hsl2 := hlt hq7
        clear hL6 g6 hq7 HL5 HL3 HQk HRr HSl HCh HCq HAw hch
        go_wp2
        exact bodyPost_ret (v := .tuple #[.agg #[.int .i64 t, .int .i64 r, .slice (some ⟨g, 0, none⟩) q.length cap, .int .i64 W], .bool true, .int .i64 0]) (by simp only [results, Try.results10]; simp [go_sem, *]) rfl ⟨_, rfl, fill_nw HN7.out (Nat.le_succ _) _ _ _ _, (HL7.out.done HS.out _ _ _ _).1, HL7.out.own.cap, HL7.out.own.fresh HN2.out.sz⟩
end Go.Proofs.Ytmciiobncfchlaa
end
