
/- Events that are handed in; track, Check, Spans. -/
import Derived.Test.YtekjmgdockfaiaaDoorHsH
namespace Go.Proofs.YtekjmgdockfaiaaDoor
open Go.RowKit
set_option linter.unusedVariables false      -- a contract need not use every name

def RowAt {α : Type} (C : World → Nat → Nat → List α → Prop) (w : World) (v : Value) (l : List α) : Prop := ∃ a c, v = .slice a l.length c ∧ (l = [] ∨ ∃ b o, a = some ⟨b, o, none⟩ ∧ C w b o l)
theorem RowAt.nw' {α : Type} {C : World → Nat → Nat → List α → Prop} (hC : ∀ {w w' : World} {b o : Nat} {l : List α}, C w b o l → Nw w w' → C w' b o l) {w w' : World} {v : Value} {l : List α} (h : RowAt C w v l) (g : Nw w w') : RowAt C w' v l := by
  obtain ⟨a, c, rfl, h | ⟨b, o, rfl, h⟩⟩ := h
  · exact ⟨a, c, rfl, .inl h⟩
  · exact ⟨_, c, rfl, .inr ⟨b, o, rfl, hC h g⟩⟩
/-- Rows of cells in memory. -/
def Rows' {α : Type} (row : α → List Value) (sz : Nat) (w : World) (b o : Nat) (l : List α) : Prop := b < w.heap.size ∧ ∀ i (h : i < l.length) c u, (row l[i])[c]? = some u → w.cell? ⟨b, o + i * sz + c, none⟩ = some u
theorem Rows'.nw {α : Type} {row : α → List Value} {sz : Nat} {w w' : World} {b o : Nat} {l : List α} (h : Rows' row sz w b o l) (g : Nw w w') : Rows' row sz w' b o l :=
  ⟨Nat.lt_of_lt_of_le h.1 g.sz, fun i hi c u hu => (g.cell h.1).trans (h.2 i hi c u hu)⟩
abbrev ECells := Rows' erow 9
abbrev SCells := Rows' srow 10
abbrev EvAt := RowAt ECells
abbrev SpAt := RowAt SCells
theorem EvAt.nw {w w' : World} {v : Value} {l : List Ev} (h : EvAt w v l) (g : Nw w w') : EvAt w' v l := RowAt.nw' (C := ECells) (fun h g => Rows'.nw h g) h g
theorem SpAt.nw {w w' : World} {v : Value} {l : List Sp} (h : SpAt w v l) (g : Nw w w') : SpAt w' v l := RowAt.nw' (C := SCells) (fun h g => Rows'.nw h g) h g
/-- A row of the call's own can be read. -/
theorem SRow.at {w : World} {g0 : Nat} {v : Value} {l : List Sp} (h : SRow w g0 v l) : SpAt w v l := by
  rcases own_form h with ⟨rfl, q⟩ | ⟨g, cap, rfl⟩
  · exact ⟨none, 0, by rw [q], .inl (List.length_eq_zero_iff.1 q)⟩
  · refine ⟨_, cap, rfl, .inr ⟨g, 0, rfl, own_lt h rfl, fun i hi c u hu => ?_⟩⟩
    have hc : c < 10 := by have := (List.getElem?_eq_some_iff.1 hu).1; simpa [srow] using this
    rw [Nat.zero_add]
    exact h.cell hi hc hu

theorem drop_at {l : List Ev} {k : Nat} (h : k < l.length) : l.drop k = l[k] :: l.drop (k + 1) := List.drop_eq_getElem_cons h
theorem upd_len {l : List Sp} {i : Nat} {e : Ev} : (upd l i e).length ≤ l.length + 1 := by
  unfold upd
  by_cases h : e.inv = true
  · rw [if_pos h]; simp
  · rw [if_neg h]; simp
set_option maxRecDepth 100000 in
set_option maxHeartbeats 4000000 in
theorem track_rows (b o c : Nat) (l : List Ev) (w : World) (hl : l.length ≤ 800) (hfit : ∀ e ∈ l, fitE e) (h : ECells w b o l) :
    Calls Tryd.prog 18 #[.slice (some ⟨b, o, none⟩) l.length c] w fun e w' => ∃ v, e = .returned (.tuple #[v, .int .i64 (trk l 0 []).2.1, .int .i64 (trk l 0 []).2.2]) ∧ Nw w w' ∧ SRow w' w.heap.size v (trk l 0 []).1 := by
  have hmm := @run_makeMap Tryd.prog
  have H := Lib.hid h
  have HF := Lib.hid hfit
  clear h hfit
  go_enter Tryd.func18, Tryd.ntmps18
  go_wp2
  go_loopw [14] (fun i wr => ∃ (k : Nat) (s : List Sp) (v : Value), k ≤ l.length ∧ i = .int .i64 k ∧ s.length ≤ k ∧ Trk wr w.heap.size (w.heap.size + 2) v w.heap.size (w.heap.size + 1) s k ∧ trk (l.drop k) k s = trk l 0 [] ∧ Good s k ∧ Nw w wr) (fun i _ => l.length - (intOf i).toNat)
  case atStart =>
    have hn : Nw w (((w.alloc (.map #[] 0)).alloc (.map #[] 0)).alloc (.cells #[nilV, .map (some w.heap.size), .map (some (w.heap.size + 1))] 62)) := (((Nw.refl w).alloc _).alloc _).alloc _
    have e1 : (w.alloc (.map #[] 0)).heap.size = w.heap.size + 1 := by simp
    have e2 : ((w.alloc (.map #[] 0)).alloc (.map #[] 0)).heap.size = w.heap.size + 2 := by simp
    have hc := (CallsM.made w).nw (((Nw.refl _).alloc (.map #[] 0)).alloc (.cells #[nilV, .map (some w.heap.size), .map (some (w.heap.size + 1))] 62))
    have hb := (BusyM.made (w.alloc (.map #[] 0))).nw ((Nw.refl _).alloc (.cells #[nilV, .map (some w.heap.size), .map (some (w.heap.size + 1))] 62))
    have hx := alloc_at ((w.alloc (.map #[] 0)).alloc (.map #[] 0)) #[nilV, .map (some w.heap.size), .map (some (w.heap.size + 1))] 62
    rw [e1] at hb
    rw [e2] at hx
    exact ⟨0, [], nilV, Nat.zero_le _, rfl, Nat.le_refl _, ⟨⟨by omega, by omega, by omega⟩, by omega, hx, World.ownsRow_nil _ _ _ _, hc, hb⟩, rfl, Good.nil, hn⟩
  case round =>
    obtain ⟨k, s, v, hk, rfl, hs, hT, hE, hG, hN⟩ := hrel
    by_cases hlt : k < l.length
    · have hce := (H.out.nw hN).2 k hlt
      have he := HF.out _ (List.getElem_mem hlt)
      rw [drop_at hlt] at hE
      generalize l[k] = e at *
      have hW := Lib.hid (fun W (g : Nw wr W) => wrong_any (hT.nw g) hG.calls (fun s hs => by have := hG.to s hs; have := hG.fr s hs; omega) e he)
      have hA := Lib.hid (fun (hx : nxt s e = 0) W (g : Nw wr W) => add_any (hT.nw g) e hG.calls hG.busy hx he (by omega) (by omega) k)
      obtain ⟨ec, et, ei, ⟨k1, k2, k3, k4, k5, k6⟩⟩ := e
      have c0 := hce 0 _ rfl
      have c1 := hce 1 _ rfl
      have c2 := hce 2 _ rfl
      have c3 := hce 3 _ rfl
      have c4 := hce 4 _ rfl
      have c5 := hce 5 _ rfl
      have c6 := hce 6 _ rfl
      have c7 := hce 7 _ rfl
      have c8 := hce 8 _ rfl
      simp only [Nat.add_zero] at c0
      have hbl := (H.out.nw hN).1
      clear hce
      obtain ⟨ao, cap, rfl⟩ : ∃ a c, v = .slice a s.length c := by
        obtain ⟨a, c, q, _⟩ := hT.row.at
        exact ⟨a, c, q⟩
      have p0 : wr.cell? ⟨w.heap.size + 1 + 1, 0, none⟩ = _ := hT.c0
      have hpl : w.heap.size + 1 + 1 < wr.heap.size := hT.lt
      have HT := Lib.hid hT
      have HE := Lib.hid hE
      have HG := Lib.hid hG
      have HN := Lib.hid hN
      clear hT hE hG hN he
      obtain ⟨E, hEx⟩ : ∃ E, nxt s ⟨ec, et, ei, ⟨k1, k2, k3, k4, k5, k6⟩⟩ = E := ⟨_, rfl⟩
      rw [hEx] at hW hA
      by_cases hx : E = 0
      case neg =>
        have d0 : (E != 0) = true := by simpa using hx
        have hpl2 : w.heap.size + 1 < wr.heap.size := by omega
        have HX := Lib.hid (And.intro hEx hx)
        clear hA hEx hx
        go_wp2_with (go_at_call 28; refine (hW.out _ ((Nw.refl wr).alloc _)).mono ?_; rintro e w1 ⟨rfl, g1⟩; obtain ⟨hc1, hf1⟩ := g1.rl)
        exact bodyPost_ret (v := .tuple #[.slice ao s.length cap, .int .i64 k, .int .i64 E]) (by simp [results, Tryd.results18, go_sem, *]) rfl ⟨_, by rw [← HE.out, trk_no _ _ (by rw [HX.out.1]; exact HX.out.2), HX.out.1], (HN.out.alloc _).trans g1, by rw [← HE.out, trk_no _ _ (by rw [HX.out.1]; exact HX.out.2)]; exact (HT.out.nw (((Nw.refl wr).alloc _).trans g1)).row⟩
      case pos =>
        subst hx
        have hA' := Lib.hid (hA.out rfl)
        have HX := Lib.hid hEx
        clear hA hEx
        go_wp2_with (first | (go_at_call 28; refine (hW.out _ ((Nw.refl wr).alloc _)).mono ?_; rintro e w1 ⟨rfl, g1⟩; obtain ⟨hc1, hf1⟩ := g1.rl) | (go_at_call 29; refine (hA'.out _ (((Nw.refl wr).alloc _).trans g1)).mono ?_; rintro e w2 ⟨rfl, v2, hT2, hB2⟩; clear hc1 hf1))
        go_roundw
        case rel => exact ⟨k + 1, _, v2, by omega, by go_num, Nat.le_trans upd_len (by omega), hT2, by rw [← trk_ok _ _ HX.out]; exact HE.out, HG.out.step HX.out, Below.trans ((HN.out.alloc _).trans g1) hB2⟩
        case measure => simp [intOf]; omega
    · have hke : k = l.length := by omega
      subst hke
      rw [List.drop_length] at hE
      have HE := Lib.hid hE
      obtain ⟨ao, cap, rfl⟩ : ∃ a c, v = .slice a s.length c := by
        obtain ⟨a, c, q, _⟩ := hT.row.at
        exact ⟨a, c, q⟩
      have p0 : wr.cell? ⟨w.heap.size + 1 + 1, 0, none⟩ = _ := hT.c0
      have HT := Lib.hid hT
      have HN := Lib.hid hN
      clear hT hE hN hG
      go_wp2
      exact bodyPost_ret (v := .tuple #[.slice ao s.length cap, .int .i64 0, .int .i64 0]) (by simp [results, Tryd.results18, go_sem, *]) rfl ⟨_, by rw [← HE.out]; rfl, HN.out, by rw [← HE.out]; exact HT.out.row⟩
end Go.Proofs.YtekjmgdockfaiaaDoor
