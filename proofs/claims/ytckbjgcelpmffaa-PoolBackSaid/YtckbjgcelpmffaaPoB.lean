
/- A pool: Take, Give. -/
import Derived.Test.YtckbjgcelpmffaaPoA
namespace Go.Proofs.Ytckbjgcelpmffaa
open Go.RowKit
set_option linter.unusedVariables false

/-- Take's and Give's answers. -/
def tkR (L : List Bool) : Int × Int := if fre L < L.length then (fre L, 0) else (0, 8)
def gvR (L : List Bool) (n : Int) : Int := if hsL L n = true then 0 else 5
theorem tkL_full {L : List Bool} (h : ¬ fre L < L.length) : tkL L = L := if_neg h
theorem gvL_bad {L : List Bool} {n : Int} (h : hsL L n = false) : gvL L n = L := by
  unfold gvL
  rw [if_neg]
  rintro ⟨a, b⟩
  simp only [hsL, a, b, decide_true, Bool.and_self] at h
  cases h
theorem hsL_at {L : List Bool} {n : Int} (h : hsL L n = true) : ∃ i : Nat, n = i ∧ ∃ hi : i < L.length, L[i] = true := by
  unfold hsL at h
  simp only [Bool.and_eq_true, decide_eq_true_eq] at h
  obtain ⟨a, b⟩ := h
  obtain ⟨i, rfl⟩ := Int.eq_ofNat_of_zero_le a
  exact ⟨i, rfl, getD_lt (by simpa using b)⟩
theorem hsL_nat {L : List Bool} {i : Nat} (h : i < L.length) : hsL L i = L[i] := by simp [hsL, h]

theorem take_nil (w : World) : Calls Try.prog 10 #[.pointer none] w fun e w' => e = .returned (.tuple #[.int .i64 0, .int .i64 1]) ∧ w = w' := by
  go_enter Try.func10, Try.ntmps10
  go_wp2_with (go_at_call 26; refine (pmade_nil _).mono ?_; rintro e w' ⟨rfl, rfl⟩)
  exact bodyPost_ret (v := .tuple #[.int .i64 0, .int .i64 1]) (by simp [results, Try.results10, go_sem]) rfl ⟨rfl, rfl⟩
theorem take_full {p g : Nat} {v : Value} {l : List Int} {L : List Bool} {w : World} (h : Po w p g v l L) (q : ¬ fre L < L.length) : Calls Try.prog 10 #[.pointer (some ⟨p, 0, none⟩)] w fun e w' => e = .returned (.tuple #[.int .i64 0, .int .i64 8]) ∧ w = w' := by
  have HM := Lib.hid (pmade_yes p w h.self)
  have hl : l.length = 0 := by
    rw [h.hs.len, frI_none (by have := fre_le L; omega)]; rfl
  have hd := h.hv.hd
  have hvf := h.hv.form
  clear h q
  rcases hvf with ⟨rfl, _⟩ | ⟨g2, cap, rfl, _⟩
  · go_enter Try.func10, Try.ntmps10
    go_wp2_with (first | (go_at_call 26; refine HM.out.mono ?_; rintro e w' ⟨rfl, rfl⟩) | (go_at_call 27; refine (ilen_any _ _ _ _).mono ?_; rintro e w' ⟨rfl, rfl⟩))
    exact bodyPost_ret (v := .tuple #[.int .i64 0, .int .i64 8]) (by simp [results, Try.results10, go_sem]) rfl ⟨rfl, rfl⟩
  · rw [hl] at hd
    go_enter Try.func10, Try.ntmps10
    go_wp2_with (first | (go_at_call 26; refine HM.out.mono ?_; rintro e w' ⟨rfl, rfl⟩) | (go_at_call 27; refine (ilen_any _ _ _ _).mono ?_; rintro e w' ⟨rfl, rfl⟩))
    exact bodyPost_ret (v := .tuple #[.int .i64 0, .int .i64 8]) (by simp [results, Try.results10, go_sem]) rfl ⟨rfl, rfl⟩
theorem passert_int (y : Value) (w : World) : Sem.run Try.prog (Instr.typeAssert (.iface 3 y) 20 3 false) w = .ok y w := iassert_t y w
/-- What Pop leaves, and the store behind it. -/
theorem Po.popped {p g g2 cap : Nat} {l : List Int} {L : List Bool} {w w1 : World} (h : Po w p g (.slice (some ⟨g2, 0, none⟩) l.length cap) l L) (q : fre L < L.length) (hp : IPopH w p 2 g2 cap (frI (tkL L)) w1) :
    PolTo w p (PoF p g (.slice (some ⟨g2, 0, none⟩) l.length cap)) (tkL L) (w1.setCell ⟨g, fre L, none⟩ (.bool true)) ∧ w1.cell? ⟨p, 1, none⟩ = some (.slice (some ⟨g, 0, none⟩) L.length L.length) ∧ w1.cell? ⟨g, fre L, none⟩ = some (.bool false) ∧ w1.frozen? ⟨g, fre L, none⟩ = false ∧ g < w1.heap.size := by
  obtain ⟨l', hp, hs, ht, hsd⟩ := hp
  have hg2 : g ≠ g2 := fun e => h.gv (by simp [Value.ownBlock, e])
  have hgS : ¬ (g = p ∨ g = g2) := fun e => e.elim h.gp hg2
  have hsz := ht.size
  have hgl := h.gl
  have hfr := fre_free L q
  have c1 := (hsd 1 (by omega)).1.trans h.row
  have cg := fun i hi => And.intro ((ht.cell (o := i) hgl hgS).trans (h.cells i hi).1) ((ht.froz (o := i) hgl hgS).trans (h.cells i hi).2)
  have t2 := setCell_at w1 ⟨g, fre L, none⟩ (.bool true)
  refine ⟨⟨PoF p g (.slice (some ⟨g2, 0, none⟩) l'.length cap), ⟨g, _, l', ?_, rfl⟩, ?_, ?_⟩, c1, ?_, (cg _ q).2, by omega⟩
  · have hv := hp.v.tch t2 (fun e => h.gp e.symm) (fun b e => by simp [Value.ownBlock] at e; subst e; exact fun e => hg2 e.symm)
    refine ⟨?_, ?_, fun i hi => ?_, by simp; omega, hv, hs, h.gp, by simpa [Value.ownBlock] using (fun e => hg2 e.symm), by rw [tkL_len]; exact h.sz⟩
    · rw [t2.cell hp.lt (fun e => h.gp e.symm)]
      exact (hsd 0 (by omega)).1.trans h.self
    · rw [t2.cell hp.lt (fun e => h.gp e.symm), tkL_len]
      exact c1
    · rw [tkL_len] at hi
      refine ⟨?_, by rw [World.frozen?_setCell]; exact (cg i hi).2⟩
      unfold tkL
      rw [if_pos q]
      by_cases e : fre L = i
      · subst e
        rw [getD_at (by simpa using hi), List.getElem_set_self]
        exact World.cell?_setCell_same _ _ _ (cg _ hi).1
      · rw [getD_at (by simpa using hi), List.getElem_set_ne e, ← getD_at hi]
        exact (World.cell?_setCell_other _ _ _ _ (fun q => e (congrArg Addr.off q))).trans (cg i hi).1
  · intro k e
    rcases e with e | e | e
    · exact .inl (.inl e)
    · exact .inl (.inr (.inl e))
    · exact .inl (.inr (.inr e))
  · refine (ht.mono (fun k _ e => ?_)).trans (t2.mono (fun k _ e => .inr (.inl e)))
    rcases e with e | e
    · exact .inl e
    · exact .inr (.inr (by rw [e]; rfl))
  · rw [(cg _ q).1, getD_at q, hfr]
theorem take_some {p g : Nat} {v : Value} {l : List Int} {L : List Bool} {w : World} (h : Po w p g v l L) (q : fre L < L.length) : Calls Try.prog 10 #[.pointer (some ⟨p, 0, none⟩)] w fun e w' => e = .returned (.tuple #[.int .i64 (fre L), .int .i64 0]) ∧ PolTo w p (PoF p g v) (tkL L) w' := by
  have HM := Lib.hid (pmade_yes p w h.self)
  have hll := h.llen
  have hsz := h.sz
  have hq : liv L < L.length := by
    rcases Nat.lt_or_ge (liv L) L.length with a | a
    · exact a
    · have := liv_le L
      have := (liv_full (L := L)).1 (by omega)
      omega
  rcases h.hv.form with ⟨rfl, rfl⟩ | ⟨g2, cap, rfl, hp⟩
  · simp at hll; omega
  · have hs := h.hs
    rw [frI_take q] at hs
    have HP := Lib.hid (ihpop_any p 2 g2 cap l (frI (tkL L)) (fre L) w hp hs (by omega))
    have HQ := Lib.hid (fun w1 k => h.popped q (w1 := w1) k)
    have hd := h.hv.hd
    have ta := passert_int
    have hm : decide ((l.length : Int) = 0) = false := by simp; intro e; subst e; simp at hll; omega
    have hm2 : ((l.length : Int) == 0) = false := by simp; intro e; subst e; simp at hll; omega
    have hne : l.length ≠ 0 := by omega
    have hlt := h.lt
    have qi : (fre L : Int) < (L.length : Int) := by omega
    clear h hp hs
    generalize fre L = i at *
    generalize L.length = N at *
    generalize l.length = M at *
    go_enter Try.func10, Try.ntmps10
    go_wp2_with (first | (go_at_call 26; refine HM.out.mono ?_; rintro e w' ⟨rfl, rfl⟩) | (go_at_call 27; refine (ilen_any _ _ _ _).mono ?_; rintro e w' ⟨rfl, rfl⟩))
    refine HP.out.mono ?_
    rintro e w1 ⟨rfl, hw1⟩
    obtain ⟨a1, a2, a3, a4, a5⟩ := HQ.out w1 hw1
    have HA := Lib.hid a1
    clear a1 hw1
    go_wp2
    exact bodyPost_ret (v := .tuple #[.int .i64 i, .int .i64 0]) (by simp [results, Try.results10, go_sem]) rfl ⟨rfl, HA.out⟩
theorem take_any {p : Nat} {L : List Bool} {F : Nat → Prop} {w : World} (h : Pol w p L F) : Calls Try.prog 10 #[.pointer (some ⟨p, 0, none⟩)] w fun e w' => e = .returned (.tuple #[.int .i64 (tkR L).1, .int .i64 (tkR L).2]) ∧ PolTo w p F (tkL L) w' := by
  by_cases q : fre L < L.length
  · rw [show tkR L = (↑(fre L), 0) from if_pos q]
    obtain ⟨g, v, l, h, rfl⟩ := h
    exact take_some h q
  · rw [show tkR L = (0, 8) from if_neg q, tkL_full q]
    have h2 := h
    obtain ⟨g, v, l, h, rfl⟩ := h
    refine (take_full h q).mono ?_
    rintro e w' ⟨rfl, rfl⟩
    exact ⟨rfl, h2.to (Nw.refl _)⟩

/-! ### Give -/
theorem give_nil (n : Int) (w : World) : Calls Try.prog 11 #[.pointer none, .int .i64 n] w fun e w' => e = .returned (.int .i64 1) ∧ w = w' := by
  go_enter Try.func11, Try.ntmps11
  go_wp2_with (go_at_call 26; refine (pmade_nil _).mono ?_; rintro e w' ⟨rfl, rfl⟩)
  go_ret
  exact ⟨rfl, rfl⟩
/-- The store of Give, and what Push leaves. -/
theorem Po.stored {p g : Nat} {v : Value} {l : List Int} {L : List Bool} {w : World} (h : Po w p g v l L) (i : Nat) : IHv (w.setCell ⟨g, i, none⟩ (.bool false)) p 2 v l :=
  h.hv.tch (setCell_at w ⟨g, i, none⟩ (.bool false)) (fun e => h.gp e.symm) (fun b e => by intro q; exact h.gv (by rw [e, q]))
theorem Po.pushed {p g : Nat} {v : Value} {l : List Int} {L : List Bool} {w w2 : World} (h : Po w p g v l L) {i : Nat} (hi : i < L.length) (e : L[i] = true) (hp : IPushH (w.setCell ⟨g, i, none⟩ (.bool false)) p 2 v (frI (L.set i false)) w2) :
    PolTo w p (PoF p g v) (L.set i false) w2 := by
  obtain ⟨g', cap', l', hp, hs, hor, ht, hsd⟩ := hp
  have t1 := setCell_at w ⟨g, i, none⟩ (.bool false)
  have hgS : ¬ IOf p v g := fun e => e.elim h.gp (fun q => h.gv q)
  have hgl := h.gl
  have hs1 : (w.setCell ⟨g, i, none⟩ (.bool false)).heap.size = w.heap.size := by simp
  have hgg : g ≠ g' := by
    rintro rfl
    rcases hor with q | q
    · exact h.gv q.symm
    · omega
  have cp : ∀ o, o ≠ 2 → w2.cell? ⟨p, o, none⟩ = w.cell? ⟨p, o, none⟩ := fun o ho => (hsd o ho).1.trans (t1.cell h.lt (fun q => h.gp q.symm))
  refine ⟨PoF p g (.slice (some ⟨g', 0, none⟩) l'.length cap'), ⟨g, _, l', ?_, rfl⟩, ?_, ?_⟩
  · refine ⟨(cp 0 (by omega)).trans h.self, by rw [List.length_set]; exact (cp 1 (by omega)).trans h.row, fun j hj => ?_, by have := ht.size; omega, hp.v, hs, h.gp, by simpa [Value.ownBlock] using (fun q => hgg q.symm), by rw [List.length_set]; exact h.sz⟩
    rw [List.length_set] at hj
    refine ⟨(ht.cell (by omega) hgS).trans ?_, ((ht.froz (by omega) hgS).trans (World.frozen?_setCell _ _ _ _)).trans (h.cells j hj).2⟩
    by_cases q : i = j
    · subst q
      rw [getD_at (by simpa using hj), List.getElem_set_self]
      exact World.cell?_setCell_same _ _ _ (h.cells _ hj).1
    · rw [getD_at (by simpa using hj), List.getElem_set_ne q, ← getD_at hj]
      exact (World.cell?_setCell_other _ _ _ _ (fun r => q (congrArg Addr.off r))).trans (h.cells j hj).1
  · rintro k (e | e | e)
    · exact .inl (.inl e)
    · exact .inl (.inr (.inl e))
    · simp [Value.ownBlock] at e
      subst e
      rcases hor with q | q
      · exact .inl (.inr (.inr q.symm))
      · exact .inr (by omega)
  · refine (t1.mono (fun k _ e => .inr (.inl e))).trans (ht.mono (fun k _ e => ?_))
    rcases e with e | e
    · exact .inl e
    · exact .inr (.inr e)
theorem give_bad {p g : Nat} {v : Value} {l : List Int} {L : List Bool} {w : World} (h : Po w p g v l L) (n : Int) (q : hsL L n = false) : Calls Try.prog 11 #[.pointer (some ⟨p, 0, none⟩), .int .i64 n] w fun e w' => e = .returned (.int .i64 5) ∧ w = w' := by
  have HM := Lib.hid (pmade_yes p w h.self)
  have hh := has_at h n
  rw [q] at hh
  have HH := Lib.hid hh
  clear h hh q
  go_enter Try.func11, Try.ntmps11
  go_wp2_with (first | (go_at_call 26; refine HM.out.mono ?_; rintro e w' ⟨rfl, rfl⟩) | (go_at_call 13; refine HH.out.mono ?_; rintro e w' ⟨rfl, rfl⟩))
  go_ret
  exact ⟨rfl, rfl⟩
theorem give_ok {p g : Nat} {v : Value} {l : List Int} {L : List Bool} {w : World} (h : Po w p g v l L) (i : Nat) (hi : i < L.length) (e : L[i] = true) : Calls Try.prog 11 #[.pointer (some ⟨p, 0, none⟩), .int .i64 i] w fun e w' => e = .returned (.int .i64 0) ∧ PolTo w p (PoF p g v) (L.set i false) w' := by
  have HM := Lib.hid (pmade_yes p w h.self)
  have hh := has_at h i
  rw [hsL_nat hi, e] at hh
  have HH := Lib.hid hh
  have hp := ihpush_any p 2 v l (frI L) i _ (h.stored i) h.hs (by have := h.llen; have := h.sz; omega)
  rw [frI_give hi e] at hp
  have HP := Lib.hid hp
  have HQ := Lib.hid (fun w2 k => h.pushed hi e (w2 := w2) k)
  have hr := h.row
  have hf := (h.cells i hi).2
  have hc := (h.cells i hi).1
  have hgl := h.gl
  have hpl := h.lt
  have hsz := h.sz
  clear h hh hp e
  generalize L.getD i false = b at *
  generalize L.length = N at *
  go_enter Try.func11, Try.ntmps11
  go_wp2_with (first | (go_at_call 26; refine HM.out.mono ?_; rintro e w' ⟨rfl, rfl⟩) | (go_at_call 13; refine HH.out.mono ?_; rintro e w' ⟨rfl, rfl⟩))
  refine HP.out.mono ?_
  rintro e w1 ⟨rfl, hw1⟩
  have HA := Lib.hid (HQ.out w1 hw1)
  clear hw1
  go_wp2
  go_ret
  exact ⟨rfl, HA.out⟩
theorem give_any {p : Nat} {L : List Bool} {F : Nat → Prop} {w : World} (h : Pol w p L F) (n : Int) : Calls Try.prog 11 #[.pointer (some ⟨p, 0, none⟩), .int .i64 n] w fun e w' => e = .returned (.int .i64 (gvR L n)) ∧ PolTo w p F (gvL L n) w' := by
  have h2 := h
  obtain ⟨g, v, l, h, rfl⟩ := h
  rcases q : hsL L n with _ | _
  · rw [gvL_bad q, show gvR L n = 5 by simp [gvR, q]]
    refine (give_bad h n q).mono ?_
    rintro e w' ⟨rfl, rfl⟩
    exact ⟨rfl, h2.to (Nw.refl _)⟩
  · rw [show gvR L n = 0 by simp [gvR, q]]
    obtain ⟨i, rfl, hi, e⟩ := hsL_at q
    rw [gvL_nat L i (by rw [getD_at hi]; exact e)]
    exact give_ok h i hi e
end Go.Proofs.Ytckbjgcelpmffaa
