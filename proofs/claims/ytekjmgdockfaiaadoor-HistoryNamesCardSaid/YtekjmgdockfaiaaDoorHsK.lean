
/- DeleteFunc: the pending spans; Pending. -/
import Derived.Test.YtekjmgdockfaiaaDoorHsJ
namespace Go.Proofs.YtekjmgdockfaiaaDoor
open Go.RowKit
set_option linter.unusedVariables false      -- a contract need not use every name

theorem SRow.there {w : World} {g0 g n cap : Nat} {l : List Sp} (h : SRow w g0 (.slice (some ⟨g, 0, none⟩) n cap) l) (q : Nat) (hq : q < l.length * 10) : (w.cell? ⟨g, q, none⟩).isSome = true := by
  have e : n = l.length := by
    rcases own_form h with ⟨q, _⟩ | ⟨_, _, q⟩
    · simp at q
    · simp at q; exact q.2.1
  subst e
  have e : w.cell? ⟨g, q, none⟩ = (srows l)[q]? := World.ownsRow.cellAt h q hq
  rw [e, List.getElem?_eq_getElem (by rw [srows_len]; exact hq)]; rfl
theorem Tch.setCells (g : Nat) : ∀ (vs : List Value) (o : Nat) (w : World), Tch (fun k => k = g) w (w.setCells g o vs)
  | [], _, w => Tch.refl _ w
  | v :: r, o, w => by
    rw [World.setCells]
    exact (setCell_at w ⟨g, o, none⟩ v).trans (Tch.setCells g r (o + 1) _)
def putS (w : World) (g a : Nat) (s : Sp) : World := ((((((((((w).setCell ⟨g, a * 10, none⟩ (.int .i64 s.call)).setCell ⟨g, a * 10 + 1, none⟩ (.int .i64 s.thread)).setCell ⟨g, a * 10 + 2, none⟩ (.int .i64 s.fr)).setCell ⟨g, a * 10 + 3, none⟩ (.int .i64 s.to)).setCell ⟨g, a * 10 + 4, none⟩ (.int .i64 s.act.kind)).setCell ⟨g, a * 10 + 5, none⟩ (.int .i64 s.act.txn)).setCell ⟨g, a * 10 + 6, none⟩ (.int .i64 s.act.tab)).setCell ⟨g, a * 10 + 7, none⟩ (.int .i64 s.act.rcd)).setCell ⟨g, a * 10 + 8, none⟩ (.int .i64 s.act.mode)).setCell ⟨g, a * 10 + 9, none⟩ (.int .i64 s.act.code)
theorem srows_put (s : Sp) : ∀ (R : List Sp) (a : Nat), a < R.length → srows (R.set a s) = ((((((((((srows R).set (a * 10) (.int .i64 s.call)).set (a * 10 + 1) (.int .i64 s.thread)).set (a * 10 + 2) (.int .i64 s.fr)).set (a * 10 + 3) (.int .i64 s.to)).set (a * 10 + 4) (.int .i64 s.act.kind)).set (a * 10 + 5) (.int .i64 s.act.txn)).set (a * 10 + 6) (.int .i64 s.act.tab)).set (a * 10 + 7) (.int .i64 s.act.rcd)).set (a * 10 + 8) (.int .i64 s.act.mode)).set (a * 10 + 9) (.int .i64 s.act.code)
  | x :: r, 0, _ => by
    show srow s ++ srows r = _
    rfl
  | x :: r, a + 1, hj => by
    have hj' : a < r.length := by simpa using hj
    show srow x ++ srows (r.set a s) = _
    rw [srows_put s r a hj']
    have key : ∀ (L : List Value) (i : Nat) (u : Value), srow x ++ L.set i u = (srow x ++ L).set (10 + i) u := fun L i u => by
      rw [List.set_append_right _ _ (by rw [srow_len]; omega), srow_len, Nat.add_sub_cancel_left]
    rw [key, key, key, key, key, key, key, key, key, key]
    have e : (a + 1) * 10 = 10 + a * 10 := by omega
    rw [e]
    rfl
theorem grown_set {w w' : World} {g i : Nat} (h : w.grownBy w' (some g)) (u : Value) : w.grownBy (w'.setCell ⟨g, i, none⟩ u) (some g) :=
  ⟨h.os, h.tape, h.output, by simp only [World.setCell, Array.size_modify]; exact h.size, fun k hk hne => by rw [Below.heap_setCell _ _ _ _ (fun q => hne (by rw [q]))]; exact h.block k hk hne⟩
theorem putS_grown {w : World} {g a : Nat} {s : Sp} : w.grownBy (putS w g a s) (some g) := by
  unfold putS
  exact grown_set (grown_set (grown_set (grown_set (grown_set (grown_set (grown_set (grown_set (grown_set (grown_set ⟨rfl, rfl, rfl, Nat.le_refl _, fun _ _ _ => rfl⟩ _) _) _) _) _) _) _) _) _) _
theorem SRow.put {w : World} {g0 g n cap a : Nat} {R : List Sp} (h : SRow w g0 (.slice (some ⟨g, 0, none⟩) n cap) R) (ha : a < R.length) (s : Sp) : SRow (putS w g a s) g0 (.slice (some ⟨g, 0, none⟩) n cap) (R.set a s) := by
  unfold SRow
  rw [srows_put s R a ha, List.length_set]
  exact own_store (own_store (own_store (own_store (own_store (own_store (own_store (own_store (own_store (own_store h (a * 10) _) (a * 10 + 1) _) (a * 10 + 2) _) (a * 10 + 3) _) (a * 10 + 4) _) (a * 10 + 5) _) (a * 10 + 6) _) (a * 10 + 7) _) (a * 10 + 8) _) (a * 10 + 9) _

/-- What the loop of DeleteFunc keeps: a spans moved to the front, b looked at. -/
structure Del (w wr : World) (g0 g n cap a b : Nat) (l R : List Sp) : Prop where
  ab : a < b
  bn : b ≤ l.length
  len : R.length = l.length
  front : R.take a = pendL (l.take b)
  rest : R.drop b = l.drop b
  row : SRow wr g0 (.slice (some ⟨g, 0, none⟩) n cap) R
  tch : Tch (fun k => k = g) w wr
theorem take_snoc {α : Type} {l : List α} {b : Nat} (h : b < l.length) : l.take (b + 1) = l.take b ++ [l[b]] := by
  rw [List.take_add_one, List.getElem?_eq_getElem h]; rfl
theorem pend_end {L : List Sp} {s : Sp} (h : endB s = true) : pendL (L ++ [s]) = pendL L := by
  simp only [pendL, List.filter_append, List.filter_cons, h, Bool.not_true, Bool.false_eq_true, if_false, List.filter_nil, List.append_nil]
theorem pend_on {L : List Sp} {s : Sp} (h : endB s = false) : pendL (L ++ [s]) = pendL L ++ [s] := by
  simp only [pendL, List.filter_append, List.filter_cons, h, Bool.not_false, if_true, List.filter_nil]
theorem drop_eq_at {α : Type} {R l : List α} {b : Nat} (h : R.drop b = l.drop b) (hb : b < l.length) (hR : R.length = l.length) : ∃ hr : b < R.length, R[b] = l[b] := by
  refine ⟨by omega, ?_⟩
  have := congrArg (fun x => x[0]?) h
  simp only [List.getElem?_drop, Nat.add_zero] at this
  rw [List.getElem?_eq_getElem hb, List.getElem?_eq_getElem (by omega)] at this
  exact Option.some.inj this
theorem drop_up {α : Type} {R l : List α} {b : Nat} (h : R.drop b = l.drop b) : R.drop (b + 1) = l.drop (b + 1) := by
  rw [← List.drop_drop, ← List.drop_drop, h]
section
variable {w wr wr' : World} {g0 g n cap a b : Nat} {l R : List Sp}
theorem Del.skip (h : Del w wr g0 g n cap a b l R) (hb : b < l.length) (he : endB l[b] = true) (g' : Nw wr wr') : Del w wr' g0 g n cap a (b + 1) l R :=
  ⟨by have := h.ab; omega, hb, h.len, by rw [h.front, take_snoc hb, pend_end he], drop_up h.rest, own_keep h.row (g'.grownBy none) (fun _ _ => by simp), h.tch.trans (Tch.nw g')⟩
theorem Del.move (h : Del w wr g0 g n cap a b l R) (hb : b < l.length) (he : endB l[b] = false) (g' : Nw wr wr') : Del w (putS wr' g a l[b]) g0 g n cap (a + 1) (b + 1) l (R.set a l[b]) := by
  have hab := h.ab
  have hR := h.len
  have ha : a < R.length := by omega
  refine ⟨by omega, hb, by simp [hR], ?_, ?_, ?_, ?_⟩
  · rw [take_snoc (by simpa using ha), take_snoc hb]
    have e1 : (R.set a l[b]).take a = R.take a := List.take_set_of_le (Nat.le_refl a)
    rw [e1, h.front, pend_on he]
    simp
  · rw [List.drop_set_of_lt (by omega)]; exact drop_up h.rest
  · exact SRow.put (own_keep h.row (g'.grownBy none) (fun _ _ => by simp)) ha _
  · exact (h.tch.trans (Tch.nw g')).grown putS_grown (fun k hk => .inl (Option.some.inj hk).symm)
end
theorem take_filter {l : List Sp} {j : Nat} (hj : j < l.length) (he : endB l[j] = true) (hF : ∀ i (hi : i < l.length), i < j → endB l[i] = false) : l.take j = pendL (l.take (j + 1)) := by
  rw [take_snoc hj]
  simp only [pendL, List.filter_append, List.filter_cons, he]
  symm
  simp only [Bool.not_true, Bool.false_eq_true, if_false, List.filter_nil, List.append_nil]
  rw [List.filter_eq_self]
  intro s hs
  obtain ⟨i, hi, rfl⟩ := List.getElem_of_mem hs
  simp at hi
  simp [hF i (by omega) (by omega)]
theorem pend_all {l : List Sp} (h : ∀ s ∈ l, endB s = false) : pendL l = l := by
  rw [List.filter_eq_self]
  intro s hs
  simp [h s hs]
theorem first_end : ∀ l : List Sp, (∀ s ∈ l, endB s = false) ∨ ∃ j, ∃ h : j < l.length, endB l[j] = true ∧ ∀ i (hi : i < l.length), i < j → endB l[i] = false
  | [] => .inl (by simp)
  | s :: r => by
    cases q : endB s with
    | true => exact .inr ⟨0, by simp, q, fun i _ hi => by omega⟩
    | false =>
      rcases first_end r with h | ⟨j, h, h1, h2⟩
      · refine .inl fun x hx => ?_
        rcases List.mem_cons.1 hx with rfl | hx
        · exact q
        · exact h x hx
      · refine .inr ⟨j + 1, by simpa using h, h1, fun i hi hij => ?_⟩
        cases i with
        | zero => exact q
        | succ i => exact h2 i (by simpa using hi) (by omega)
set_option maxRecDepth 100000 in
set_option maxHeartbeats 4000000 in
theorem delete_rows (g0 g cap : Nat) (l : List Sp) (w : World) (hl : l.length ≤ 1000) (h : SRow w g0 (.slice (some ⟨g, 0, none⟩) l.length cap) l) :
    Calls Tryd.prog 30 #[.slice (some ⟨g, 0, none⟩) l.length cap, .func (.func 20) #[] #[]] w fun e w' => ∃ v', e = .returned v' ∧ SpAt w' v' (pendL l) ∧ Tch (fun k => k = g) w w' := by
  have HI0 := index_any _ l w hl h.at
  have hcap : l.length ≤ cap := by
    rcases h.2 with ⟨q, _⟩ | ⟨g', cap', cur, q, _, _, h1, _⟩
    · simp at q
    · simp at q; rw [q.2]; exact h1
  have H := Lib.hid h
  clear h
  rcases first_end l with hr | ⟨j, hj, he, hF⟩
  · have HI : Hid (Calls Tryd.prog 37 #[.slice (some ⟨g, 0, none⟩) l.length cap, .func (.func 20) #[] #[]] w fun e w' => e = .returned (.int .i64 (-1)) ∧ Nw w w') :=
      Lib.hid (HI0.mono fun e w' ⟨r, e1, e2, e3⟩ => by
        rcases e2 with ⟨q, _⟩ | ⟨j, _, hj, q, _⟩
        · exact ⟨by rw [e1, q], e3⟩
        · rw [hr _ (List.getElem_mem hj)] at q; cases q)
    clear HI0
    go_enter Tryd.func30, Tryd.ntmps30
    go_wp2_with (go_at_call 37; refine HI.out.mono ?_; rintro e w1 ⟨rfl, g1⟩)
    go_ret
    have H1 : SRow w1 g0 (.slice (some ⟨g, 0, none⟩) l.length cap) l := own_keep H.out (g1.grownBy none) (fun _ _ => by simp)
    exact ⟨_, rfl, by rw [pend_all hr]; exact H1.at, Tch.nw g1⟩
  have HI : Hid (Calls Tryd.prog 37 #[.slice (some ⟨g, 0, none⟩) l.length cap, .func (.func 20) #[] #[]] w fun e w' => e = .returned (.int .i64 j) ∧ Nw w w') :=
    Lib.hid (HI0.mono fun e w' ⟨r, e1, e2, e3⟩ => by
      rcases e2 with ⟨_, q⟩ | ⟨i, q0, hi, q, q'⟩
      · rw [q _ (List.getElem_mem hj)] at he; cases he
      · have : i = j := by
          rcases Nat.lt_trichotomy i j with r | r | r
          · rw [hF i hi r] at q; cases q
          · exact r
          · rw [q' j hj r] at he; cases he
        exact ⟨by rw [e1, q0, this], e3⟩)
  clear HI0
  have d0 : ((j : Int) == -1) = false := by simp
  have HX := Lib.hid (And.intro he hF)
  clear he hF
  go_enter Tryd.func30, Tryd.ntmps30
  go_wp2_with (go_at_call 37; refine HI.out.mono ?_; rintro e w1 ⟨rfl, g1⟩)
  have HD : Hid (Del w w1 g0 g l.length cap j (j + 1) l l) := Lib.hid ⟨by omega, hj, rfl, take_filter hj HX.out.1 HX.out.2, rfl, own_keep H.out (g1.grownBy none) (fun _ _ => by simp), Tch.nw g1⟩
  clear HX H HI g1
  case _ =>
    go_loopw [5, 6] (fun i k wr => ∃ (a b : Nat) (R : List Sp), i = .int .i64 a ∧ k = .int .i64 b ∧ Del w wr g0 g l.length cap a b l R) (fun _ k _ => l.length - (intOf k).toNat)
    case atStart => exact ⟨j, j + 1, l, rfl, by go_num, HD.out⟩
    case round =>
      obtain ⟨a, b, R, rfl, rfl, hD⟩ := hrel
      have hab := hD.ab
      have hbn := hD.bn
      by_cases hlt : b < l.length
      · obtain ⟨hrb, hRb⟩ := drop_eq_at hD.rest hlt hD.len
        obtain ⟨s, hs⟩ : ∃ s, l[b] = s := ⟨_, rfl⟩
        rw [hs] at hRb
        have hcell : ∀ c u, c < 10 → (srow s)[c]? = some u → wr.cell? ⟨g, b * 10 + c, none⟩ = some u := fun c u hc hu => hD.row.cell hrb hc (by rw [hRb]; exact hu)
        have c0 := hcell 0 _ (by omega) rfl
        have c1 := hcell 1 _ (by omega) rfl
        have c2 := hcell 2 _ (by omega) rfl
        have c3 := hcell 3 _ (by omega) rfl
        have c4 := hcell 4 _ (by omega) rfl
        have c5 := hcell 5 _ (by omega) rfl
        have c6 := hcell 6 _ (by omega) rfl
        have c7 := hcell 7 _ (by omega) rfl
        have c8 := hcell 8 _ (by omega) rfl
        have c9 := hcell 9 _ (by omega) rfl
        simp only [Nat.add_zero] at c0
        have hgl := own_lt hD.row rfl
        have HE := Lib.hid (ended_any s)
        obtain ⟨B, hB⟩ : ∃ B, decide (0 ≤ s.to) = B := ⟨_, rfl⟩
        rw [hB] at HE
        have HB := Lib.hid (show endB l[b] = B by rw [hs]; exact hB)
        have HS := Lib.hid hs
        have HR := Lib.hid hD
        clear hB hcell hs hRb
        cases B
        case true =>
          clear hD
          go_wp2_with (go_at_call 20; refine (HE.out _).mono ?_; rintro e w1 ⟨rfl, g1⟩)
          go_roundw
          case rel => exact ⟨a, b + 1, R, rfl, by go_num, HR.out.skip hlt HB.out (((Nw.refl wr).alloc _).trans g1)⟩
          case measure => simp [intOf]; omega
        case false =>
          have har : a < R.length := by have := hD.len; omega
          have k0 : ∀ c, c < 10 → ∃ u, wr.cell? ⟨g, a * 10 + c, none⟩ = some u := fun c hc => by
            have : c < (srow R[a]).length := hc
            exact ⟨_, hD.row.cell har hc (List.getElem?_eq_getElem this)⟩
          obtain ⟨y0, a0⟩ := k0 0 (by omega)
          obtain ⟨y1, a1⟩ := k0 1 (by omega)
          obtain ⟨y2, a2⟩ := k0 2 (by omega)
          obtain ⟨y3, a3⟩ := k0 3 (by omega)
          obtain ⟨y4, a4⟩ := k0 4 (by omega)
          obtain ⟨y5, a5⟩ := k0 5 (by omega)
          obtain ⟨y6, a6⟩ := k0 6 (by omega)
          obtain ⟨y7, a7⟩ := k0 7 (by omega)
          obtain ⟨y8, a8⟩ := k0 8 (by omega)
          obtain ⟨y9, a9⟩ := k0 9 (by omega)
          simp only [Nat.add_zero] at a0
          have fz := fun c => hD.row.frozen c
          have z0 := fz (a * 10)
          have z1 := fz (a * 10 + 1)
          have z2 := fz (a * 10 + 2)
          have z3 := fz (a * 10 + 3)
          have z4 := fz (a * 10 + 4)
          have z5 := fz (a * 10 + 5)
          have z6 := fz (a * 10 + 6)
          have z7 := fz (a * 10 + 7)
          have z8 := fz (a * 10 + 8)
          have z9 := fz (a * 10 + 9)
          clear k0 fz hD
          go_wp2_with (go_at_call 20; refine (HE.out _).mono ?_; rintro e w1 ⟨rfl, g1⟩; obtain ⟨hc1, hf1⟩ := g1.rl)
          go_roundw
          case rel => exact ⟨a + 1, b + 1, _, by go_num, by go_num, by have := HR.out.move hlt HB.out (((Nw.refl wr).alloc _).trans g1); rw [HS.out] at this; exact this⟩
          case measure => simp [intOf]; omega
      · have hbe : b = l.length := by omega
        subst hbe
        have HR := Lib.hid hD
        have hne : ¬ cap = a := by omega
        have hlen := hD.len
        have hcc : ∀ q, q < (l.length - a) * 10 → (wr.cell? ⟨g, a * 10 + q, none⟩).isSome = true := fun q hq => hD.row.there (a * 10 + q) (by omega)
        obtain ⟨vs, hvs⟩ := clear_spans wr g (a * 10) (l.length - a) (cap - a) (by omega) hcc (fun q => hD.row.frozen q)
        have e1 : ((l.length : Int) - (a : Int)).toNat = l.length - a := by omega
        clear hD hcc
        go_wp2
        go_ret
        have hfr := HR.out.front
        rw [List.take_length] at hfr
        have hpl : (pendL l).length = a := by rw [← hfr, List.length_take]; omega
        have hT := Tch.setCells g vs (a * 10) wr
        refine ⟨_, rfl, ⟨_, cap, by rw [hpl]; rfl, .inr ⟨g, 0, rfl, Nat.lt_of_lt_of_le (own_lt HR.out.row rfl) hT.size, fun i hi c u hu => ?_⟩⟩, HR.out.tch.trans hT⟩
        have hc : c < 10 := by have := (List.getElem?_eq_some_iff.1 hu).1; simpa [srow] using this
        rw [Nat.zero_add, World.cell?_setCells_out g vs _ wr _ (fun _ _ => .inl (show i * 10 + c < a * 10 by omega))]
        have hiR : i < R.length := by omega
        refine HR.out.row.cell hiR hc ?_
        have hx : (pendL l)[i] = R[i] := by
          have : ∀ (M : List Sp) (e : R.take a = M) (h : i < M.length), M[i] = R[i] := fun M e h => by subst e; simp
          exact this _ hfr hi
        rw [← hx]; exact hu
theorem none_pend {l : List Sp} (h : l = []) : pendL l = [] := by subst h; rfl
theorem delete_any (g0 : Nat) (v : Value) (l : List Sp) (w : World) (hl : l.length ≤ 1000) (h : SRow w g0 v l) :
    Calls Tryd.prog 30 #[v, .func (.func 20) #[] #[]] w fun e w' => ∃ v', e = .returned v' ∧ SpAt w' v' (pendL l) ∧ Tch (fun k => v.ownBlock = some k) w w' := by
  rcases own_form h with ⟨rfl, q⟩ | ⟨g, cap, rfl⟩
  · obtain rfl := List.length_eq_zero_iff.1 q
    have HI := Lib.hid (index_any _ [] w (by simp) h.at)
    have HI' : Hid (Calls Tryd.prog 37 #[.slice none 0 0, .func (.func 20) #[] #[]] w fun e w' => e = .returned (.int .i64 (-1)) ∧ Nw w w') :=
      Lib.hid (HI.out.mono fun e w' ⟨r, e1, e2, e3⟩ => by
        rcases e2 with ⟨q, _⟩ | ⟨j, _, hj, _⟩
        · exact ⟨by rw [e1, q], e3⟩
        · simp at hj)
    clear HI h
    go_enter Tryd.func30, Tryd.ntmps30
    go_wp2_with (go_at_call 37; refine HI'.out.mono ?_; rintro e w1 ⟨rfl, g1⟩)
    go_ret
    exact ⟨_, rfl, ⟨none, 0, rfl, .inl rfl⟩, Tch.nw g1⟩
  · refine (delete_rows g0 g cap l w hl h).mono fun e w' ⟨v', h1, h2, h3⟩ => ⟨v', h1, h2, h3.mono fun i _ q => by rw [q]; rfl⟩
/-- pendingSpans(l). -/
theorem pendingSpans_any (v : Value) (l : List Ev) (w : World) (hl : l.length ≤ 800) (hfit : ∀ e ∈ l, fitE e) (h : EvAt w v l) (hs : (trk l 0 []).1.length ≤ 1000) :
    Calls Tryd.prog 19 #[v] w fun e w' => ∃ v', e = .returned v' ∧ Nw w w' ∧ SpAt w' v' (pendL (trk l 0 []).1) := by
  have HT := Lib.hid (spans_any v l w hl hfit h)
  have HD := Lib.hid (fun (v : Value) (w1 : World) (h : SRow w1 w.heap.size v (trk l 0 []).1) => delete_any w.heap.size v (trk l 0 []).1 w1 hs h)
  clear h hfit
  go_enter Tryd.func19, Tryd.ntmps19
  go_wp2_with (first | (go_at_call 7; refine HT.out.mono ?_; rintro e w1 ⟨v1, rfl, g1, r1⟩) | (go_at_call 30; refine (HD.out v1 w1 r1).mono ?_; rintro e w2 ⟨v2, rfl, s2, t2⟩))
  go_ret
  exact ⟨_, rfl, nw_tch g1 t2 (fun k hk => own_ge r1 hk), s2⟩
end Go.Proofs.YtekjmgdockfaiaaDoor
