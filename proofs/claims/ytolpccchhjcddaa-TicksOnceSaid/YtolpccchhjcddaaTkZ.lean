
/- TicksOnce: the walk's facts. -/
import Derived.Test.YtolpccchhjcddaaTkY
namespace Go.Proofs.Ytolpccchhjcddaa
open Go.RowKit Go.Shelf

theorem Once.len {want : List Int} {s : List Tm} {now : Int} {last : Tm} (h : Once want s now last) : s.length = pos want := h.pm.length_eq.trans (act_pos 0 want)
theorem Once.small {want : List Int} {s : List Tm} {now : Int} {last : Tm} (h : Once want s now last) : s.length ≤ want.length := by
  rw [h.len]; exact pos_le want
theorem Once.late {want : List Int} {s : List Tm} {T T' : Int} {last : Tm} (h : Once want s T last) (hl : ∀ x ∈ s, T' < x.1) : Once want s T' last := ⟨h.pm, h.srt, h.uq, hl, h.bf, h.nn⟩
theorem once_nil : Once [] [] 0 (0, 0, 0) :=
  ⟨List.Perm.refl _, List.Pairwise.nil, List.nodup_nil, by simp, by simp, by simp⟩
theorem Once.set {want : List Int} {s : List Tm} {v : Int} (h : Once want s 0 (0, 0, 0)) (hv : 0 < v) {k : Nat} (hk : want.length = k) :
    setE 0 s v (k : Int) 7 = 0 ∧ setS 0 s v (k : Int) 7 = ins (v, (k : Int), 7) s ∧ Once (want ++ [v]) (ins (v, (k : Int), 7) s) 0 (0, 0, 0) := by
  subst hk
  obtain ⟨h1, h2⟩ := h.add hv
  refine ⟨?_, ?_, h2⟩
  · unfold setE
    rw [if_neg (by omega), if_neg (by rw [h1]; simp)]
  · unfold setS
    rw [if_neg (by omega), if_neg (by rw [h1]; simp)]
theorem getD_push (l : List Int) (v : Int) (h : ∀ i, i < l.length → 0 < l.getD i 0) (hv : 0 < v) : ∀ i, i < (l ++ [v]).length → 0 < (l ++ [v]).getD i 0 := fun i hi => by
  rw [List.length_append] at hi
  by_cases e : i < l.length
  · have : (l ++ [v]).getD i 0 = l.getD i 0 := by simp [List.getD, List.getElem?_append_left e]
    rw [this]; exact h i e
  · have : i = l.length := by simp at hi; omega
    subst this
    simp [List.getD]
    exact hv
theorem push_state {w0 W : World} {c : Nat} {t : Int} {s : List Tm} {F : Nat → Prop} {v : Value} {want : List Int} (ha : Acc w0 W c t s F) (hw : Wt w0 W v want F) (x : Int) (hsm : want.length ≤ 1000) :
    ∃ v' w1, (Builtin.append_ #[51, 51] 51 #[v, .slice (some ⟨W.heap.size, 0, none⟩) 1 1]).run Try.prog (W.alloc (.cells #[.int .i64 x] 2)) = .ok v' w1 ∧ Acc w0 w1 c t s F ∧ Wt w0 w1 v' (want ++ [x]) F := by
  obtain ⟨v', w1, hr, h1, h2, h3⟩ := WS.push W v want x hw.ws (by omega)
  exact ⟨v', w1, hr, ha.other h2 (fun i e => (hw.new i e).1) (fun i e q => (hw.new i q).2 e), h1, fun k e => (h3 k e).elim (fun e => hw.new k e) (fun q => ⟨Nat.le_trans ha.nw.sz q, fun e => by have := ha.ck.own k e; omega⟩)⟩
theorem WS.row {w : World} {v : Value} {l : List Int} (h : WS w v l) : ∃ ao cap, v = .slice ao l.length cap ∧ (0 < l.length → ∃ g, ao = some ⟨g, 0, none⟩) := by
  rcases h.form with ⟨rfl, rfl⟩ | ⟨g, cap, rfl⟩
  · exact ⟨none, 0, rfl, fun h => by simp at h⟩
  · exact ⟨_, cap, rfl, fun _ => ⟨g, rfl⟩⟩
theorem TS.row {w : World} {v : Value} {l : List Tm} (h : TS w v l) : ∃ ao cap, v = .slice ao l.length cap ∧ (0 < l.length → ∃ g, ao = some ⟨g, 0, none⟩) := by
  rcases h.form with ⟨rfl, rfl⟩ | ⟨g, cap, rfl, _⟩
  · exact ⟨none, 0, rfl, fun h => by simp at h⟩
  · exact ⟨_, cap, rfl, fun _ => ⟨g, rfl⟩⟩
theorem drop_state {w0 W W' : World} {c : Nat} {t : Int} {s' : List Tm} {F F' : Nat → Prop} {g n cap : Nat} {want : List Int} (hw : Wt w0 W (.slice (some ⟨g, 0, none⟩) n cap) want F) (ha : Acc w0 W' c t s' F') (hf : ∀ k, F' k → F k ∨ W.heap.size ≤ k) (ht : Tch F W W') (hn : want.length = n) (i : Nat) (hi : i < n) :
    W'.cell? ⟨g, i, none⟩ = some (.int .i64 (want.getD i 0)) ∧ W'.frozen? ⟨g, i, none⟩ = false ∧ Acc w0 (W'.setCell ⟨g, i, none⟩ (.int .i64 0)) c t s' F' ∧ Wt w0 (W'.setCell ⟨g, i, none⟩ (.int .i64 0)) (.slice (some ⟨g, 0, none⟩) n cap) (want.set i 0) F' := by
  subst hn
  have hw' := hw.tch ht hf
  have t1 : Tch (fun k => k = g) W' (W'.setCell ⟨g, i, none⟩ (.int .i64 0)) := Tch.set (S := fun k => k = g) (Tch.refl _ W') (.inl rfl) _
  have hg := hw'.new g rfl
  exact ⟨hw'.ws.cell i hi, hw'.ws.frozen rfl i, ha.other t1 (fun i e => e ▸ hg.1) (fun i e q => hg.2 (q ▸ e)), hw'.ws.set i 0, fun k e => hw'.new k e⟩

/-- What the walk is told of a slice of truths that came in. -/
def IsBits (w : World) (a : Option Addr) (len cap : Nat) (B : Nat → Bool) : Prop :=
  (a = none ∧ len = 0 ∧ cap = 0) ∨ ∃ x, a = some x ∧ len ≤ cap ∧ cap ≤ maxLen ∧ ∀ i, i < cap → w.cell? (x.add i) = some (.bool (B i))
theorem IsBits.at {w : World} {a : Option Addr} {len cap : Nat} {B : Nat → Bool} (h : IsBits w a len cap B) (hl : 0 < len) : ∃ b o, a = some ⟨b, o, none⟩ ∧ len ≤ maxLen ∧ b < w.heap.size ∧ (∀ i, i < len → w.cell? ⟨b, o + i, none⟩ = some (.bool (B i))) := by
  rcases h with ⟨_, h0, _⟩ | ⟨x, rfl, h1, h2, h4⟩
  · omega
  · obtain ⟨b, o, spot⟩ := x
    have hs : spot = none := by simpa [Addr.add] using World.cell?_spot (h4 0 (by omega))
    subst hs
    have hc : ∀ i, i < len → w.cell? ⟨b, o + i, none⟩ = some (.bool (B i)) := fun i hi => by
      have := h4 i (by omega)
      rwa [Addr.add_lit] at this
    exact ⟨b, o, rfl, by omega, World.block_lt_of_cell? _ _ (hc 0 hl), hc⟩
/-- The next one of a Pass: what the law asks of it. -/
theorem Once.next {want : List Int} {d s' : List Tm} {T T' : Int} {last : Tm} {j : Nat} (h : Once want (d.drop j ++ s') T last) (hj : j < d.length) (hd : ∀ x ∈ d, x.1 ≤ T') :
    ∃ (i : Nat) (X : Int), i < want.length ∧ at' d j = (X, (i : Int), 7) ∧ want.getD i 0 = X ∧ T < X ∧ X ≤ T' ∧ (last.1 < X ∨ (last.1 = X ∧ last.2.1 < (i : Int))) ∧ Once (want.set i 0) (d.drop (j + 1) ++ s') T (X, (i : Int), 7) := by
  have e : d.drop j = at' d j :: d.drop (j + 1) := by
    rw [List.drop_eq_getElem_cons hj]
    simp [at', hj]
  rw [e, List.cons_append] at h
  obtain ⟨i, h1, h2, h3, h4, h5, h6⟩ := h.fire
  have hm : at' d j ∈ d := List.mem_of_mem_drop (by rw [e]; exact List.mem_cons_self ..)
  have h7 := hd _ hm
  rw [h2] at h4 h5 h6 h7
  exact ⟨i, want.getD i 0, h1, h2, rfl, h4, h7, h5, h6⟩
/-- What is left is later than now. -/
theorem Once.left {want : List Int} {s : List Tm} {now : Int} {last : Tm} (h : Once want s now last) {i : Nat} (hi : i < want.length) (hv : 0 < want.getD i 0) : now < want.getD i 0 := by
  have := act_in 0 want i hi hv
  exact h.later _ (h.pm.mem_iff.2 this)
end Go.Proofs.Ytolpccchhjcddaa
