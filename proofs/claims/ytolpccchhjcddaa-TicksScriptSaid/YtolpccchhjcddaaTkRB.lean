
/- The document's own clock: what it builds: Set, Drop, Each. -/
import Derived.Test.YtolpccchhjcddaaTkRA
namespace Go.Proofs.Ytolpccchhjcddaa
open Go.RowKit Go.Shelf

theorem trows_take (l : List Tm) (i j : Nat) (u : Value) (h : (trows (l.take i))[j]? = some u) : (trows l)[j]? = some u := by
  have e : trows l = trows (l.take i) ++ trows (l.drop i) := by rw [← trows_app, List.take_append_drop]
  have hj : j < (trows (l.take i)).length := (List.getElem?_eq_some_iff.1 h).1
  rw [e, List.getElem?_append_left hj]
  exact h
theorem trows_drop (l : List Tm) (i j : Nat) (u : Value) (hi : i ≤ l.length) (h : (trows (l.drop i))[j]? = some u) : (trows l)[i * 3 + j]? = some u := by
  have e : trows l = trows (l.take i) ++ trows (l.drop i) := by rw [← trows_app, List.take_append_drop]
  have hn : (trows (l.take i)).length = i * 3 := by rw [trows_len, List.length_take, Nat.min_eq_left hi]
  rw [e, List.getElem?_append_right (by omega), hn, Nat.add_sub_cancel_left]
  exact h
/-- Timers in a row that is new, where nothing that was there has changed. -/
structure Fr (w W : World) (v : Value) (l : List Tm) : Prop where
  ts : TS W v l
  new : ∀ k, v.ownBlock = some k → w.heap.size ≤ k
  nw : Nw w W
theorem Fr.start {w W : World} (h : Nw w W) : Fr w (W.alloc (.cells #[] 28)) (.slice (some ⟨W.heap.size, 0, none⟩) 0 0) [] :=
  ⟨empty_row W, fun k e => by simp [Value.ownBlock] at e; have := h.sz; omega, h.alloc _⟩
theorem Fr.app {w W : World} {vx : Value} {l1 : List Tm} (h : Fr w W vx l1) (ao : Option Addr) (m cc : Nat) (l2 : List Tm) (hm : l2.length = m) (h0 : ao = none → m = 0 ∧ cc = 0) (hc : ∀ a, ao = some a → ∀ j u, (trows l2)[j]? = some u → W.cell? (a.add j) = some u) (hsm : l1.length + m ≤ 100000) :
    ∃ v' w1, (Builtin.append_ #[31, 31] 31 #[vx, .slice ao m cc]).run Try.prog W = .ok v' w1 ∧ Fr w w1 v' (l1 ++ l2) := by
  obtain ⟨i0, hi, hz0, hz1, hz2⟩ := info_parts infoT
  subst hm
  cases ao with
  | none =>
    obtain ⟨h1, rfl⟩ := h0 rfl
    have h2 : l2 = [] := List.length_eq_zero_iff.1 h1
    subst h2
    exact ⟨vx, W, run_append_owned_none W 0 _ _ _ i0 3 Try.underlying31 hi vx l1.length (trows l1) h.ts, by rw [List.append_nil]; exact h⟩
  | some a =>
    obtain ⟨v', w1, hrun, ho, hg, hp⟩ := run_append_fresh (P := Try.prog) W 0 31 31 28 i0 _ 3 24 Try.underlying31 hi hz0 hz1 hz2 rfl (by decide) vx l1.length (trows l1) h.ts
      a l2.length cc (trows l2) (trows_len l2) (hc a rfl) (by
        intro u hu
        obtain ⟨x, _, hx⟩ := List.mem_flatMap.1 hu
        simp [trow] at hx
        rcases hx with rfl | rfl | rfl <;> rfl) (by unfold maxLen; omega) (by omega) (Nat.zero_le _)
    refine ⟨v', w1, hrun, ⟨?_, fun k e => ?_, nw_tch h.nw ((Tch.refl (fun k => vx.ownBlock = some k) W).grown hg (fun k e => .inl e)) h.new⟩⟩
    · unfold TS
      rw [List.length_append, trows_app]
      exact ho
    · rcases hp with q | q
      · exact h.new k (q ▸ e)
      · rw [q] at e; simp at e; have := h.nw.sz; omega
theorem wpList_append_ex {P : Program} {w : World} {ops : Array Oper} {rest : List Oper} {o : Oper} {a : Act} {Q : Exit → Act → World → Prop}
    (hg : o.guard = none) (s x : Operand) (t : TypeId) (hop : o.op = Op.call { callee := Callee.builtin Builtin.append, args := #[s, x], argTypes := #[t, t] })
    (v u : Value) (hs : a.eval s = v) (hx : a.eval x = u) (Φ : Value → World → Prop) (hr : ∃ v' w', (Builtin.append_ #[t, t] o.type #[v, u]).run P w = .ok v' w' ∧ Φ v' w') (h : ∀ v' w', Φ v' w' → wpList P ops Q rest (a.put o.dst v') w') : wpList P ops Q (o :: rest) a w := by
  obtain ⟨v', w', h1, h2⟩ := hr
  exact wpList_append_run hg s x t hop v u v' w' hs hx h1 (h v' w' h2)

theorem ins_split (x : Tm) : ∀ (s : List Tm) (i : Nat), i ≤ s.length → (∀ k, k < i → tlt (at' s k) x = true) → (i < s.length → tlt (at' s i) x = false) → ins x s = s.take i ++ x :: s.drop i
  | [], i, hi, _, _ => by
    obtain rfl : i = 0 := by simpa using hi
    rfl
  | a :: s, 0, _, _, h2 => by
    have h := h2 (by simp)
    have e : at' (a :: s) 0 = a := rfl
    rw [e] at h
    show (if tlt a x = true then a :: ins x s else x :: a :: s) = _
    rw [if_neg (by rw [h]; simp)]
    rfl
  | a :: s, i + 1, hi, h1, h2 => by
    have h := h1 0 (by omega)
    have e : at' (a :: s) 0 = a := rfl
    rw [e] at h
    show (if tlt a x = true then a :: ins x s else x :: a :: s) = _
    rw [if_pos h, ins_split x s i (by simpa using hi) (fun k hk => by have := h1 (k + 1) (by omega); simpa [at'] using this) (fun hk => by have := h2 (by simpa using hk); simpa [at'] using this)]
    rfl
theorem drp_split (who mark : Int) : ∀ (s : List Tm) (i : Nat), i < s.length → (s.map (·.2)).Nodup → keyB who mark (at' s i) = true → drp s who mark = s.take i ++ s.drop (i + 1)
  | [], i, hi, _, _ => by simp at hi
  | a :: s, 0, _, hu, hk => by
    have e : at' (a :: s) 0 = a := rfl
    rw [e] at hk
    have hn := List.nodup_cons.1 (show (a.2 :: s.map (·.2)).Nodup from hu)
    have hno : s.any (keyB who mark) = false := by
      rw [List.any_eq_false]
      intro y hy hky
      exact hn.1 (List.mem_map.2 ⟨y, hy, by rw [(keyB_iff _ _ y).1 hky, (keyB_iff _ _ a).1 hk]⟩)
    have h2 := drp_none s who mark hno
    unfold drp at h2 ⊢
    rw [List.filter_cons, hk]
    simpa using h2
  | a :: s, i + 1, hi, hu, hk => by
    have hn := List.nodup_cons.1 (show (a.2 :: s.map (·.2)).Nodup from hu)
    have hk' : keyB who mark (at' s i) = true := by simpa [at'] using hk
    have hi' : i < s.length := by simpa using hi
    have hka : keyB who mark a = false := by
      cases hb : keyB who mark a with
      | false => rfl
      | true =>
        refine absurd (List.mem_map.2 ⟨at' s i, ?_, by rw [(keyB_iff _ _ a).1 hb, (keyB_iff _ _ _).1 hk']⟩) hn.1
        rw [at_lt s hi']; exact List.getElem_mem hi'
    have ih := drp_split who mark s i hi' hn.2 hk'
    unfold drp at ih ⊢
    rw [List.filter_cons, hka]
    simpa using ih
/-- The list is another one now. -/
theorem Rc.put {w W : World} {c : Nat} {t : Int} {v v' : Value} {s s' : List Tm} (h : Rc w c t v s) (hf : Fr w W v' s') : Rc (W.setCell ⟨c, 1, none⟩ v') c t v' s' ∧ Tch (fun k => k = c) w (W.setCell ⟨c, 1, none⟩ v') := by
  have h2 := h.nw hf.nw
  have t1 : Tch (fun k => k = c) W (W.setCell ⟨c, 1, none⟩ v') := Tch.set (S := fun k => k = c) (Tch.refl _ W) (.inl rfl) _
  have hne : ∀ k, v'.ownBlock = some k → k ≠ c := fun k e q => by have := hf.new k e; have := h.lt; omega
  refine ⟨⟨?_, World.cell?_setCell_same _ _ _ h2.lst, fun j => ?_, Nat.lt_of_lt_of_le h2.lt t1.size, hf.ts.tch t1 hne, hne⟩, (Tch.nw hf.nw).trans t1⟩
  · rw [World.cell?_setCell_other _ _ _ _ (by simp)]; exact h2.now
  · have := h2.fz j; simpa [go_sem] using this
end Go.Proofs.Ytolpccchhjcddaa
