
/- Of; the map of threads that have come. -/
import Derived.Test.YtekjmgdockfaiaaDoorHsO
import Derived.Test.YtekjmgdockfaiaaDoorHsS
namespace Go.Proofs.YtekjmgdockfaiaaDoor
open Go.RowKit Go.Maps Go.ChangeMaps
set_option linter.unusedVariables false      -- a contract need not use every name

abbrev ERow (w : World) (g0 : Nat) (v : Value) (l : List Ev) : Prop := w.ownsRow g0 31 9 v l.length (l.flatMap erow)
theorem ERow.at {w : World} {g0 : Nat} {v : Value} {l : List Ev} (h : ERow w g0 v l) : EvAt w v l := by
  rcases own_form h with ⟨rfl, q⟩ | ⟨g, cap, rfl⟩
  · exact ⟨none, 0, by rw [q], .inl (List.length_eq_zero_iff.1 q)⟩
  · refine ⟨_, cap, rfl, .inr ⟨g, 0, rfl, own_lt h rfl, fun i hi c u hu => ?_⟩⟩
    have hc : c < 9 := by have := (List.getElem?_eq_some_iff.1 hu).1; simpa [erow] using this
    rw [Nat.zero_add]
    refine (World.ownsRow.cellAt h (i * 9 + c) (by omega)).trans ?_
    rw [erows_at l i c hi hc]; exact hu
theorem erow_cells (w : World) (e : Ev) : ∀ j u, (erow e)[j]? = some u → (w.alloc (.cells #[.int .i64 e.call, .int .i64 e.thread, .bool e.inv, .int .i64 e.act.kind, .int .i64 e.act.txn, .int .i64 e.act.tab, .int .i64 e.act.rcd, .int .i64 e.act.mode, .int .i64 e.act.code] 31)).cell? ((⟨w.heap.size, 0, none⟩ : Addr).add j) = some u := by
  intro j u hu
  rw [Addr.add_lit, Nat.zero_add, heap_cell (j := j) (alloc_at w #[.int .i64 e.call, .int .i64 e.thread, .bool e.inv, .int .i64 e.act.kind, .int .i64 e.act.txn, .int .i64 e.act.tab, .int .i64 e.act.rcd, .int .i64 e.act.mode, .int .i64 e.act.code] 31), ← hu, ← Array.getElem?_toList]
  rfl
theorem erow_one (e : Ev) : ∀ u ∈ erow e, u.oneCell' = true := by
  intro u hu
  simp [erow] at hu
  rcases hu with rfl | rfl | rfl | rfl | rfl | rfl | rfl | rfl | rfl <;> rfl
theorem ERow.push {w : World} {g0 : Nat} {v : Value} {l : List Ev} (h : ERow w g0 v l) (e : Ev) (hsm : l.length ≤ 10000) (hg0 : g0 ≤ w.heap.size) :
    ∃ v' w1, (Builtin.append_ #[23, 23] 23 #[v, .slice (some ⟨w.heap.size, 0, none⟩) 1 1]).run Tryd.prog (w.alloc (.cells #[.int .i64 e.call, .int .i64 e.thread, .bool e.inv, .int .i64 e.act.kind, .int .i64 e.act.txn, .int .i64 e.act.tab, .int .i64 e.act.rcd, .int .i64 e.act.mode, .int .i64 e.act.code] 31)) = .ok v' w1 ∧ ERow w1 g0 v' (l ++ [e]) ∧ (w.alloc (.cells #[.int .i64 e.call, .int .i64 e.thread, .bool e.inv, .int .i64 e.act.kind, .int .i64 e.act.txn, .int .i64 e.act.tab, .int .i64 e.act.rcd, .int .i64 e.act.mode, .int .i64 e.act.code] 31)).grownBy w1 v.ownBlock ∧ (∃ g cap, v' = .slice (some ⟨g, 0, none⟩) (l.length + 1) cap) := by
  obtain ⟨i0, hi, hz0, hz1, hz2⟩ := info_parts infoE
  have hc := erow_cells w e
  have hn : Nw w (w.alloc (.cells #[.int .i64 e.call, .int .i64 e.thread, .bool e.inv, .int .i64 e.act.kind, .int .i64 e.act.txn, .int .i64 e.act.tab, .int .i64 e.act.rcd, .int .i64 e.act.mode, .int .i64 e.act.code] 31)) := (Nw.refl w).alloc _
  have ha : ERow (w.alloc (.cells #[.int .i64 e.call, .int .i64 e.thread, .bool e.inv, .int .i64 e.act.kind, .int .i64 e.act.txn, .int .i64 e.act.tab, .int .i64 e.act.rcd, .int .i64 e.act.mode, .int .i64 e.act.code] 31)) g0 v l := own_keep h (hn.grownBy none) (fun _ _ => by simp)
  obtain ⟨v', w1, hrun, ho, hg, hp⟩ := run_append_fresh (P := Tryd.prog) _ g0 23 23 31 i0 _ 9 72 Tryd.underlying23 hi hz0 hz1 hz2 rfl (by decide) v l.length _ ha
    ⟨w.heap.size, 0, none⟩ 1 1 (erow e) rfl hc (erow_one e) (by unfold maxLen; omega) (by omega) (by simp; omega)
  have ho' : ERow w1 g0 v' (l ++ [e]) := by
    unfold ERow
    rw [List.length_append, List.flatMap_append]
    simpa using ho
  refine ⟨v', w1, hrun, ho', hg, ?_⟩
  rcases own_form ho' with ⟨_, q⟩ | ⟨g, cap, rfl⟩
  · simp at q
  · exact ⟨g, cap, by simp⟩
theorem take_snoc' {α : Type} {l : List α} {b : Nat} (h : b < l.length) : l.take (b + 1) = l.take b ++ [l[b]] := by
  rw [List.take_add_one, List.getElem?_eq_getElem h]; rfl
theorem keepE_snoc {P : Int → Int → Bool} {L : List Ev} {e : Ev} : keepE P (L ++ [e]) = if P e.call e.thread = true then keepE P L ++ [e] else keepE P L := by
  simp only [keepE, List.filter_append, List.filter_cons, List.filter_nil]
  by_cases q : P e.call e.thread = true
  · rw [if_pos q, if_pos q]
  · rw [if_neg q, if_neg q, List.append_nil]
set_option maxRecDepth 100000 in
set_option maxHeartbeats 1000000 in
theorem of_rows (b o c : Nat) (l : List Ev) (t : Int) (w : World) (hl : l.length ≤ 900) (h : ECells w b o l) :
    Calls Tryd.prog 12 #[.slice (some ⟨b, o, none⟩) l.length c, .int .i64 t] w fun e w' => ∃ v', e = .returned v' ∧ Nw w w' ∧ EvAt w' v' (keepE (byT t) l) := by
  have H := Lib.hid h
  clear h
  go_enter Tryd.func12, Tryd.ntmps12
  go_wp2
  go_loopw [5, 10] (fun u i wr => ∃ k : Nat, k ≤ l.length ∧ i = .int .i64 k ∧ ERow wr w.heap.size u (keepE (byT t) (l.take k)) ∧ Nw w wr) (fun _ i _ => l.length - (intOf i).toNat)
  case atStart => exact ⟨0, Nat.zero_le _, rfl, World.ownsRow_nil _ _ _ _, Nw.refl _⟩
  case round =>
    obtain ⟨k, hk, rfl, hR, hN⟩ := hrel
    by_cases hlt : k < l.length
    · have hce := (H.out.nw hN).2 k hlt
      have hts : keepE (byT t) (l.take (k + 1)) = if byT t (l[k]).call (l[k]).thread = true then keepE (byT t) (l.take k) ++ [l[k]] else keepE (byT t) (l.take k) := by rw [take_snoc' hlt, keepE_snoc]
      generalize l[k] = e at *
      have hbl := (H.out.nw hN).1
      have hlen : (keepE (byT t) (l.take k)).length ≤ 900 := Nat.le_trans (List.length_filter_le _ _) (by simp; omega)
      obtain ⟨ua, uc, hu⟩ : ∃ a c, u5 = .slice a (keepE (byT t) (l.take k)).length c := by
        obtain ⟨a, c, q, _⟩ := hR.at
        exact ⟨a, c, q⟩
      have hsz := hN.sz
      obtain ⟨v', w2, hrun, hR2, hG2, g, cap, hv'⟩ := ERow.push (w := wr.alloc (.cells #[.int .i64 e.call, .int .i64 e.thread, .bool e.inv, .int .i64 e.act.kind, .int .i64 e.act.txn, .int .i64 e.act.tab, .int .i64 e.act.rcd, .int .i64 e.act.mode, .int .i64 e.act.code] 31)) (own_keep hR (((Nw.refl wr).alloc _).grownBy none) (fun _ _ => by simp)) e (by omega) (by simp; omega)
      rw [show (wr.alloc (.cells #[.int .i64 e.call, .int .i64 e.thread, .bool e.inv, .int .i64 e.act.kind, .int .i64 e.act.txn, .int .i64 e.act.tab, .int .i64 e.act.rcd, .int .i64 e.act.mode, .int .i64 e.act.code] 31)).heap.size = wr.heap.size + 1 by simp] at hrun
      have hN2 : Nw w w2 := Below.grown ((hN.alloc _).alloc _) hG2 (Nat.le_trans hN.sz (by simp; omega)) (fun k hk => own_ge hR hk)
      obtain ⟨ec, et, ei, ⟨k1, k2, k3, k4, k5, k6⟩⟩ := e
      have c0 := hce 0 _ rfl
      have c1 := hce 1 _ rfl
      have c2 := hce 2 _ rfl
      have c3 := hce 3 _ rfl
      have c4 := hce 4 _ rfl
      have c5 := hce 5 _ rfl
      have c6 := hce 6 _ rfl
      have c7 := hce 7 _ rfl
      have c8 := hce 8 _ rfl
      simp only [Nat.add_zero] at c0
      by_cases q : et = t
      · have d0 : (et == t) = true := by simpa using q
        rw [if_pos (show byT t ec et = true from d0)] at hts
        rw [← hts] at hR2
        have hl2 : (keepE (byT t) (l.take k)).length + 1 = (keepE (byT t) (l.take (k + 1))).length := by rw [hts]; simp
        rw [hl2] at hv'
        subst hv'
        subst hu
        have HR := Lib.hid hrun
        have HX := Lib.hid (And.intro hR2 hN2)
        subst q
        clear hce hR hN hrun hR2 hG2 hN2 hts hl2 d0
        obtain ⟨N, hNN⟩ : ∃ N, (keepE (byT et) (l.take (k + 1))).length = N := ⟨_, rfl⟩
        rw [hNN] at HR HX
        go_wp2_with (at_builtin; refine wpList_append_run rfl (.tmp 18) (.tmp 20) 23 rfl _ _ _ _ rfl rfl HR.out ?_)
        go_roundw
        case rel => exact ⟨k + 1, by omega, by go_num, HX.out.1, HX.out.2⟩
        case measure => simp [intOf]; omega
      · have d0 : (et == t) = false := by simpa using q
        rw [if_neg (show ¬ byT t ec et = true by show ¬ (et == t) = true; rw [d0]; simp)] at hts
        have HX := Lib.hid (And.intro (own_keep hR (((Nw.refl wr).alloc (.cells #[.int .i64 ec, .int .i64 et, .bool ei, .int .i64 k1, .int .i64 k2, .int .i64 k3, .int .i64 k4, .int .i64 k5, .int .i64 k6] 31)).grownBy none) (fun _ _ => by simp)) (hN.alloc (.cells #[.int .i64 ec, .int .i64 et, .bool ei, .int .i64 k1, .int .i64 k2, .int .i64 k3, .int .i64 k4, .int .i64 k5, .int .i64 k6] 31)))
        have HT := Lib.hid hts
        clear hce hR hN hrun hR2 hG2 hN2 hts hv' q
        go_wp2
        go_roundw
        case rel => exact ⟨k + 1, by omega, by go_num, by rw [HT.out]; exact HX.out.1, HX.out.2⟩
        case measure => simp [intOf]; omega
    · have hke : k = l.length := by omega
      subst hke
      rw [List.take_length] at hR
      have HX := Lib.hid (And.intro hR hN)
      clear hR hN
      go_wp2
      go_ret
      exact ⟨_, rfl, HX.out.2, HX.out.1.at⟩
theorem of_any (v : Value) (l : List Ev) (t : Int) (w : World) (hl : l.length ≤ 900) (h : EvAt w v l) :
    Calls Tryd.prog 12 #[v, .int .i64 t] w fun e w' => ∃ v', e = .returned v' ∧ Nw w w' ∧ EvAt w' v' (keepE (byT t) l) := by
  obtain ⟨a, c, rfl, rfl | ⟨b, o, rfl, hc⟩⟩ := h
  · go_enter Tryd.func12, Tryd.ntmps12
    go_wp2
    refine wp_loop_rounds 1 ?_
    repeat (rw [rounds_succ]; go_wp2)
    go_ret
    exact ⟨_, rfl, Nw.refl _, ⟨none, 0, rfl, .inl rfl⟩⟩
  · exact of_rows b o c l t w hl hc

/-- Threads that have come: 1, the others 0. -/
def SeenM (w : World) (b n : Nat) (T : List Int) : Prop :=
  ∃ D : DataW Unit, w.ownsMap Tryd.prog 3 (plainElem Tryd.prog 3) b n D ∧ ∀ k, D.atKey (.int .i64 k) (.lit (.int .i64 0)) = .lit (.int .i64 (if T.contains k = true then 1 else 0))
theorem SeenM.made (w : World) : SeenM (w.alloc (.map #[] 0)) w.heap.size 0 [] := ⟨_, World.ownsMap_made _ _ _ _, fun _ => rfl⟩
theorem SeenM.nw {w w' : World} {b n : Nat} {T : List Int} (h : SeenM w b n T) (g : Nw w w') : SeenM w' b n T := by
  obtain ⟨D, h1, h2⟩ := h
  exact ⟨D, h1.kept (g.grownBy none) (by simp), h2⟩
theorem SeenM.lt {w : World} {b n : Nat} {T : List Int} (h : SeenM w b n T) : b < w.heap.size := by obtain ⟨D, h1, _⟩ := h; exact h1.lt
theorem zeroN (w : World) : (zeroValue 3).run Tryd.prog w = .ok (.int .i64 0) w := by kernel_rfl
end Go.Proofs.YtekjmgdockfaiaaDoor
