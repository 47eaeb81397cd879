
/- The developers' package queue: DeleteFunc of requests; without. -/
import Derived.Test.YtmciiobncfchlaaQvB
import Derived.Test.YtmciiobncfchlaaQvC
import Derived.Test.YtmciiobncfchlaaQvE
import Derived.Test.YtmciiobncfchlaaQuK
import Derived.Lib.SliceRun
import Derived.Deep.Upon
namespace Go.Proofs.Ytmciiobncfchlaa
open Go.RowKit
set_option linter.unusedVariables false      -- a contract need not use every name

abbrev zQ : Value := .agg #[.int .i64 0, .int .i64 0, .int .i64 0, .int .i64 0, .int .i64 0]
theorem zeroQ (w : World) : (zeroValue 41).run Try.prog w = .ok zQ w := by kernel_rfl
theorem clear_rqs (w : World) (g o n c : Nat) (hn : 0 < n) (hc : ∀ j, j < n * 5 → (w.cell? ⟨g, o + j, none⟩).isSome = true) (hf : ∀ j, w.frozen? ⟨g, j, none⟩ = false) :
    ∃ vs, ∀ ty, (Builtin.clear_ #[25] ty #[.slice (some ⟨g, o, none⟩) n c]).run Try.prog w = .ok (.tuple #[]) (w.setCells g o vs) := by
  obtain ⟨m, rfl⟩ : ∃ m, n = m + 1 := ⟨n - 1, by omega⟩
  refine ⟨(Builtin.zeroCells zQ.cells (m + 1)).toList, fun ty => ?_⟩
  have hlen : (Builtin.zeroCells zQ.cells (m + 1)).toList.length = (m + 1) * 5 := by simp [Builtin.zeroCells, Value.cells]
  have hst := run_storeCells_cells (P := Try.prog) g o (Builtin.zeroCells zQ.cells (m + 1)).toList 0 w (by rw [hlen]; simpa using hc) (by intro j _; exact hf _) (by
    intro v hv
    obtain ⟨i, hi, rfl⟩ := List.getElem_of_mem hv
    simp only [Builtin.zeroCells, Array.toList_map, List.getElem_map]
    have h5 : ∀ i : Nat, i < 5 → (zQ.cells[i]!).oneCell' = true := by decide
    exact h5 _ (Nat.mod_lt _ (by decide)))
  simp only [Nat.add_zero] at hst
  simp [Builtin.clear_, run_underlying Try.underlying25, zeroQ, hst]
theorem Nw.rls {a b : World} (h : Nw a b) : (∀ k o, k < a.heap.size → b.cell? ⟨k, o, none⟩ = a.cell? ⟨k, o, none⟩) ∧ (∀ k o, k < a.heap.size → b.frozen? ⟨k, o, none⟩ = a.frozen? ⟨k, o, none⟩) := ⟨fun _ _ h1 => h.cell h1, fun _ _ h1 => h.froz h1⟩
theorem rq_there {w : World} {g0 g n cap : Nat} {l : List Rq} (h : RqOwn w g0 (.slice (some ⟨g, 0, none⟩) n cap) l) (hn : n = l.length) (j : Nat) (hj : j < l.length * 5) : (w.cell? ⟨g, j, none⟩).isSome = true := by
  subst hn
  have e : w.cell? ⟨g, j, none⟩ = (rowsOf rqrow l)[j]? := World.ownsRow.cellAt h j hj
  rw [e, List.getElem?_eq_getElem (by rw [rows_len (sz := 5) (fun _ => rfl)]; exact hj)]; rfl
theorem tch_cells (g : Nat) : ∀ (vs : List Value) (o : Nat) (w : World), Tch (fun k => k = g) w (w.setCells g o vs)
  | [], _, w => Tch.refl _ w
  | v :: r, o, w => by
    rw [World.setCells]
    exact (setCell_at w ⟨g, o, none⟩ v).trans (tch_cells g r (o + 1) _)
def putQ (w : World) (g a : Nat) (s : Rq) : World := ((((w.setCell ⟨g, a * 5, none⟩ (.int .i64 s.id)).setCell ⟨g, a * 5 + 1, none⟩ (.int .i64 s.txn)).setCell ⟨g, a * 5 + 2, none⟩ (.int .i64 s.md)).setCell ⟨g, a * 5 + 3, none⟩ (.int .i64 s.wt)).setCell ⟨g, a * 5 + 4, none⟩ (.int .i64 s.sn)
theorem own_putQ {w : World} {g0 g n cap a : Nat} {R : List Rq} (h : RqOwn w g0 (.slice (some ⟨g, 0, none⟩) n cap) R) (hn : n = R.length) (ha : a < R.length) (s : Rq) : RqOwn (putQ w g a s) g0 (.slice (some ⟨g, 0, none⟩) n cap) (R.set a s) := by
  have l1 : ∀ x : Rq, n = (R.set a x).length := fun x => by rw [List.length_set]; exact hn
  have k1 : ∀ x : Rq, a < (R.set a x).length := fun x => by rw [List.length_set]; exact ha
  have h0 := own_upd h hn a ha 0 (by decide) (.int .i64 s.id) ⟨s.id, R[a].txn, R[a].md, R[a].wt, R[a].sn⟩ rfl
  have h1 := own_upd h0 (l1 _) a (k1 _) 1 (by decide) (.int .i64 s.txn) ⟨s.id, s.txn, R[a].md, R[a].wt, R[a].sn⟩ (by rw [List.getElem_set_self]; rfl)
  rw [List.set_set] at h1
  have h2 := own_upd h1 (l1 _) a (k1 _) 2 (by decide) (.int .i64 s.md) ⟨s.id, s.txn, s.md, R[a].wt, R[a].sn⟩ (by rw [List.getElem_set_self]; rfl)
  rw [List.set_set] at h2
  have h3 := own_upd h2 (l1 _) a (k1 _) 3 (by decide) (.int .i64 s.wt) ⟨s.id, s.txn, s.md, s.wt, R[a].sn⟩ (by rw [List.getElem_set_self]; rfl)
  rw [List.set_set] at h3
  have h4 := own_upd h3 (l1 _) a (k1 _) 4 (by decide) (.int .i64 s.sn) s (by rw [List.getElem_set_self]; rfl)
  rw [List.set_set] at h4
  exact h4
theorem putQ_tch (w : World) (g a : Nat) (s : Rq) : Tch (fun k => k = g) w (putQ w g a s) := by
  unfold putQ
  exact (((((Tch.refl (fun k => k = g) w).set (p := ⟨g, a * 5, none⟩) (.inl rfl) _).set (p := ⟨g, a * 5 + 1, none⟩) (.inl rfl) _).set (p := ⟨g, a * 5 + 2, none⟩) (.inl rfl) _).set (p := ⟨g, a * 5 + 3, none⟩) (.inl rfl) _).set (p := ⟨g, a * 5 + 4, none⟩) (.inl rfl) _
abbrev outQ (p : Rq → Bool) (l : List Rq) : List Rq := l.filter fun s => !p s
/-- What the loop of DeleteFunc keeps: a requests moved to the front, b looked at. -/
structure Del (p : Rq → Bool) (w wr : World) (g0 g n cap a b : Nat) (l R : List Rq) : Prop where
  ab : a < b
  bn : b ≤ l.length
  len : R.length = l.length
  front : R.take a = outQ p (l.take b)
  rest : R.drop b = l.drop b
  row : RqOwn wr g0 (.slice (some ⟨g, 0, none⟩) n cap) R
  tch : Tch (fun k => k = g) w wr
theorem taken {α : Type} {l : List α} {b : Nat} (h : b < l.length) : l.take (b + 1) = l.take b ++ [l[b]] := by
  rw [List.take_add_one, List.getElem?_eq_getElem h]; rfl
theorem out_end {p : Rq → Bool} {L : List Rq} {s : Rq} (h : p s = true) : outQ p (L ++ [s]) = outQ p L := by
  simp only [outQ, List.filter_append, List.filter_cons, h, Bool.not_true, Bool.false_eq_true, if_false, List.filter_nil, List.append_nil]
theorem out_on {p : Rq → Bool} {L : List Rq} {s : Rq} (h : p s = false) : outQ p (L ++ [s]) = outQ p L ++ [s] := by
  simp only [outQ, List.filter_append, List.filter_cons, h, Bool.not_false, if_true, List.filter_nil]
theorem drops_at {α : Type} {R l : List α} {b : Nat} (h : R.drop b = l.drop b) (hb : b < l.length) (hR : R.length = l.length) : ∃ hr : b < R.length, R[b] = l[b] := by
  refine ⟨by omega, ?_⟩
  have := congrArg (fun x => x[0]?) h
  simp only [List.getElem?_drop, Nat.add_zero] at this
  rw [List.getElem?_eq_getElem hb, List.getElem?_eq_getElem (by omega)] at this
  exact Option.some.inj this
theorem drops_up {α : Type} {R l : List α} {b : Nat} (h : R.drop b = l.drop b) : R.drop (b + 1) = l.drop (b + 1) := by
  rw [← List.drop_drop, ← List.drop_drop, h]
section
variable {p : Rq → Bool} {w wr wr' : World} {g0 g n cap a b : Nat} {l R : List Rq}
theorem Del.skip (h : Del p w wr g0 g n cap a b l R) (hb : b < l.length) (he : p l[b] = true) (g' : Nw wr wr') : Del p w wr' g0 g n cap a (b + 1) l R :=
  ⟨by have := h.ab; omega, hb, h.len, by rw [h.front, taken hb, out_end he], drops_up h.rest, onw h.row g', h.tch.trans (Tch.nw g')⟩
theorem Del.move (h : Del p w wr g0 g n cap a b l R) (hn : n = l.length) (hb : b < l.length) (he : p l[b] = false) (g' : Nw wr wr') : Del p w (putQ wr' g a l[b]) g0 g n cap (a + 1) (b + 1) l (R.set a l[b]) := by
  have hab := h.ab
  have hR := h.len
  have ha : a < R.length := by omega
  refine ⟨by omega, hb, by simp [hR], ?_, ?_, ?_, ?_⟩
  · rw [taken (by simpa using ha), taken hb]
    have e1 : (R.set a l[b]).take a = R.take a := List.take_set_of_le (Nat.le_refl a)
    rw [e1, h.front, out_on he]
    simp
  · rw [List.drop_set_of_lt (by omega)]; exact drops_up h.rest
  · exact own_putQ (onw h.row g') (by omega) ha _
  · exact (h.tch.trans (Tch.nw g')).trans (putQ_tch _ _ _ _)
end
theorem takes_filter {p : Rq → Bool} {l : List Rq} {j : Nat} (hj : j < l.length) (he : p l[j] = true) (hF : ∀ i (hi : i < l.length), i < j → p l[i] = false) : l.take j = outQ p (l.take (j + 1)) := by
  rw [taken hj, out_end he]
  symm
  rw [outQ, List.filter_eq_self]
  intro s hs
  obtain ⟨i, hi, rfl⟩ := List.getElem_of_mem hs
  simp at hi
  simp [hF i (by omega) (by omega)]
theorem out_all {p : Rq → Bool} {l : List Rq} (h : ∀ s ∈ l, p s = false) : outQ p l = l := by
  rw [outQ, List.filter_eq_self]
  intro s hs
  simp [h s hs]
set_option maxRecDepth 100000 in
set_option maxHeartbeats 4000000 in
theorem dDelete (p : Rq → Bool) (f : Value) (g0 : Nat) (v : Value) (l : List Rq) (w : World) (hl : l.length ≤ 1000) (h : RqOwn w g0 v l) (hf : Tells w f p) (hfr : ∀ w1, Tch (fun k => v.ownBlock = some k) w w1 → Tells w1 f p) :
    Calls Try.prog 76 #[v, f] w fun e w' => ∃ v', e = .returned v' ∧ RqAt w' v' (outQ p l) ∧ capOk v' ∧ (∀ b o n c, v' = .slice (some ⟨b, o, none⟩) n c → v.ownBlock = some b ∨ (outQ p l) = []) ∧ Tch (fun k => v.ownBlock = some k) w w' := by
  have HI0 := dIndex v f p l w hl (RqOwn.rd h) hf
  have hf' := hf
  obtain ⟨gf, lb, rfl, eg, _⟩ := hf'
  obtain ⟨hfo, -⟩ : True ∧ True := ⟨trivial, trivial⟩
  obtain ⟨px, hpx⟩ : ∃ px, plc p l = px := ⟨_, rfl⟩
  rw [hpx] at HI0
  have HI := Lib.hid HI0
  clear HI0
  rcases plc_form p l with ⟨h1, h2⟩ | ⟨j, h1, hj, he, hF⟩
  · obtain rfl := hpx.symm.trans h1
    obtain ⟨a, c, rfl⟩ := (RqOwn.rd h).form
    have HR := Lib.hid h
    clear h hfr hf
    go_enter Try.func76, Try.ntmps76
    go_wp2_with (go_at_call 70; refine HI.out.mono ?_; rintro e w1 ⟨rfl, g1⟩)
    go_ret
    exact ⟨_, rfl, by rw [out_all h2]; exact RqOwn.rd (onw HR.out g1), RqOwn.cap HR.out, fun b o n k e => by
      rcases oform HR.out with ⟨e2, z⟩ | ⟨g, cap, e2⟩
      · exact .inr (by rw [out_all h2]; exact List.length_eq_zero_iff.1 z)
      · have e3 := e2.symm.trans e
        simp only [Value.slice.injEq, Option.some.injEq, Addr.mk.injEq] at e3
        refine .inl ?_
        rw [e2, ← e3.1.1]; rfl, Tch.nw g1⟩
  obtain rfl := hpx.symm.trans h1
  obtain ⟨g, cap, rfl, hg0, hgl, _⟩ := RqOwn.at h hj
  have hcap := RqOwn.cap h
  have hcap : l.length ≤ cap := hcap
  have d0 : ((j : Int) == -1) = false := by simp
  have HX := Lib.hid (And.intro he hF)
  have HFr := Lib.hid hfr
  have H := Lib.hid h
  clear he hF hfr hf h
  go_enter Try.func76, Try.ntmps76
  go_wp2_with (go_at_call 70; refine HI.out.mono ?_; rintro e w1 ⟨rfl, g1⟩)
  have HD : Hid (Del p w w1 g0 g l.length cap j (j + 1) l l) := Lib.hid ⟨by omega, hj, rfl, takes_filter hj HX.out.1 HX.out.2, rfl, onw H.out g1, Tch.nw g1⟩
  clear HX H HI g1
  case _ =>
    go_loopw [5, 6] (fun i k wr => ∃ (a b : Nat) (R : List Rq), i = .int .i64 a ∧ k = .int .i64 b ∧ Del p w wr g0 g l.length cap a b l R) (fun _ k _ => l.length - (intOf k).toNat)
    case atStart => exact ⟨j, j + 1, l, rfl, by go_num, HD.out⟩
    case round =>
      obtain ⟨a, b, R, rfl, rfl, hD⟩ := hrel
      have hab := hD.ab
      have hbn := hD.bn
      by_cases hlt : b < l.length
      · obtain ⟨hrb, hRb⟩ := drops_at hD.rest hlt hD.len
        obtain ⟨s, hs⟩ : ∃ s, l[b] = s := ⟨_, rfl⟩
        rw [hs] at hRb
        have hcell : ∀ c u, (rqrow s)[c]? = some u → wr.cell? ⟨g, b * 5 + c, none⟩ = some u := fun c u hu => own_cell hD.row hD.len.symm b hrb c u (by rw [hRb]; exact hu)
        have c0 := hcell 0 _ rfl
        have c1 := hcell 1 _ rfl
        have c2 := hcell 2 _ rfl
        have c3 := hcell 3 _ rfl
        have c4 := hcell 4 _ rfl
        simp only [Nat.add_zero] at c0
        have hgl := olt hD.row rfl
        have hT := HFr.out wr (hD.tch.mono fun i _ e => by rw [e]; rfl)
        obtain ⟨gf', lb', eqf, _, hTT⟩ := hT
        simp only [Value.func.injEq, Fn.func.injEq, true_and] at eqf
        obtain ⟨rfl, rfl⟩ := eqf
        have HE := Lib.hid (hTT s)
        obtain ⟨B, hB⟩ : ∃ B, p s = B := ⟨_, rfl⟩
        rw [hB] at HE
        have HB := Lib.hid (show p l[b] = B by rw [hs]; exact hB)
        have HS := Lib.hid hs
        have HR := Lib.hid hD
        clear hB hcell hs hRb hTT
        have g6 : Nw wr (wr.alloc (.cells #[.int .i64 s.id, .int .i64 s.txn, .int .i64 s.md, .int .i64 s.wt, .int .i64 s.sn] 41)) := (Nw.refl wr).alloc _
        have hq6 := Lib.hid (RqB.made wr s.id s.txn s.md s.wt s.sn 41)
        cases B
        case true =>
          clear hD
          go_wp2_with (go_at_fn gf; refine (HE.out _ g6).mono ?_; rintro e w1 ⟨rfl, g1⟩)
          go_roundw
          case rel => exact ⟨a, b + 1, R, rfl, by go_num, HR.out.skip hlt HB.out (g6.trans g1)⟩
          case measure => simp [intOf]; omega
        case false =>
          have har : a < R.length := by have := hD.len; omega
          have k0 : ∀ c, c < 5 → ∃ u, wr.cell? ⟨g, a * 5 + c, none⟩ = some u := fun c hc => by
            have : c < (rqrow R[a]).length := hc
            exact ⟨_, own_cell hD.row hD.len.symm a har c _ (List.getElem?_eq_getElem this)⟩
          obtain ⟨y0, a0⟩ := k0 0 (by omega)
          obtain ⟨y1, a1⟩ := k0 1 (by omega)
          obtain ⟨y2, a2⟩ := k0 2 (by omega)
          obtain ⟨y3, a3⟩ := k0 3 (by omega)
          obtain ⟨y4, a4⟩ := k0 4 (by omega)
          simp only [Nat.add_zero] at a0
          have fz := fun c => own_frz hD.row hD.len.symm c
          have z0 := fz (a * 5)
          have z1 := fz (a * 5 + 1)
          have z2 := fz (a * 5 + 2)
          have z3 := fz (a * 5 + 3)
          have z4 := fz (a * 5 + 4)
          have hRl := hD.len
          have hai : (a : Int) < (l.length : Int) := by omega
          clear k0 fz hD
          go_wp2_with (go_at_fn gf; refine (HE.out _ g6).mono ?_; rintro e w1 ⟨rfl, g1⟩; obtain ⟨hc1, hf1⟩ := g1.rls)
          go_roundw
          case rel => exact ⟨a + 1, b + 1, _, by go_num, by go_num, by have := HR.out.move rfl hlt HB.out (g6.trans g1); rw [HS.out] at this; exact this⟩
          case measure => simp [intOf]; omega
      · have hbe : b = l.length := by omega
        subst hbe
        have HR := Lib.hid hD
        have hlen := hD.len
        have hcc : ∀ q, q < (l.length - a) * 5 → (wr.cell? ⟨g, a * 5 + q, none⟩).isSome = true := fun q hq => rq_there hD.row hlen.symm (a * 5 + q) (by omega)
        obtain ⟨vs, hvs⟩ := clear_rqs wr g (a * 5) (l.length - a) (cap - a) (by omega) hcc (fun q => own_frz hD.row hlen.symm q)
        have e1 : ((l.length : Int) - (a : Int)).toNat = l.length - a := by omega
        have hne : ¬ cap = a := by omega
        clear hD hcc
        go_wp2
        go_ret
        have hfr := HR.out.front
        rw [List.take_length] at hfr
        have hpl : (outQ p l).length = a := by rw [← hfr, List.length_take]; omega
        have hT := tch_cells g vs (a * 5) wr
        refine ⟨_, rfl, ⟨_, cap, by rw [hpl]; rfl, .inr ⟨g, 0, rfl, Nat.lt_of_lt_of_le (olt HR.out.row rfl) hT.size, fun i hi c u hu => ?_⟩⟩, by show a ≤ cap; omega, fun b o n c e => by
          injection e with e _ _
          injection e with e
          injection e with e _ _
          rw [← e]; exact .inl rfl, (HR.out.tch.trans hT).mono fun i _ e => by rw [e]; rfl⟩
        have hc : c < 5 := by have := (List.getElem?_eq_some_iff.1 hu).1; simpa [rqrow] using this
        rw [Nat.zero_add, World.cell?_setCells_out g vs _ wr _ (fun _ _ => .inl (show i * 5 + c < a * 5 by omega))]
        have hiR : i < R.length := by omega
        refine own_cell HR.out.row hlen.symm i hiR c u ?_
        have hx : (outQ p l)[i] = R[i] := by
          have : ∀ (M : List Rq) (e : R.take a = M) (h : i < M.length), M[i] = R[i] := fun M e h => by subst e; simp
          exact this _ hfr hi
        rw [← hx]; exact hu
end Go.Proofs.Ytmciiobncfchlaa
