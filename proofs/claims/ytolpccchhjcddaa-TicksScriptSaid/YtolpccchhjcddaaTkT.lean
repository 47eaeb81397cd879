
/- Clone, Each and its iterator. -/
import Derived.Test.YtolpccchhjcddaaTkS
namespace Go.Proofs.Ytolpccchhjcddaa
open Go.RowKit Go.Shelf
attribute [local go_sem] Oper.semAt_some

theorem wpList_append_run {P : Program} {w : World} {ops : Array Oper} {rest : List Oper} {o : Oper} {a : Act} {Q : Exit → Act → World → Prop}
    (hg : o.guard = none) (s x : Operand) (t : TypeId) (hop : o.op = Op.call { callee := Callee.builtin Builtin.append, args := #[s, x], argTypes := #[t, t] })
    (v u v' : Value) (w' : World) (hs : a.eval s = v) (hx : a.eval x = u) (hr : (Builtin.append_ #[t, t] o.type #[v, u]).run P w = .ok v' w') (h : wpList P ops Q rest (a.put o.dst v') w') : wpList P ops Q (o :: rest) a w := by
  refine wpList_plain hg fun K hK' => ?_
  unfold Oper.wp execOp
  simp only [hop, resolve, invoke, builtin, Sem.run_bind, Sem.run_pure, Result.andThen_ok, List.map_toArray, List.map_cons, List.map_nil, hs, hx, hr]
  exact hK' _ _ h
theorem eql_nil (a : Option Addr) (n c : Nat) (w : World) : Sem.run Try.prog (binOp .eql 55 (.slice a n c) (.slice none 0 0)) w = .ok (.bool a.isNone) w := by
  have h : ∀ d : Nat, (Op.equalIn (d + 1) 55 (.slice a n c) (.slice none 0 0)).run Try.prog w = .ok a.isNone w := fun d => by
    cases a <;> simp [Op.equalIn, run_underlying Try.underlying55]
  simp only [binOp]
  simp [Op.equal, Op.maxDepth, h 9999]
theorem empty_row (w : World) : (w.alloc (.cells #[] 28)).ownsRow 0 28 3 (.slice (some ⟨w.heap.size, 0, none⟩) 0 0) 0 [] :=
  World.ownsRow_lit w #[] 0 (Nat.zero_le _) (Nat.zero_le _) rfl
/-- The copy of a row that append makes of an empty slice. -/
theorem clone_run (g cap : Nat) (l : List Tm) (w : World) (h : TRow w g cap l) (hsm : l.length ≤ 100000) :
    ∃ v' w1, (Builtin.append_ #[55, 55] 55 #[.slice (some ⟨w.heap.size, 0, none⟩) 0 0, .slice (some ⟨g, 0, none⟩) l.length cap]).run Try.prog (w.alloc (.cells #[] 28)) = .ok v' w1 ∧
      TS w1 v' l ∧ (∀ k, v'.ownBlock = some k → w.heap.size ≤ k) ∧ Nw w w1 := by
  obtain ⟨i0, hi, hz0, hz1, hz2⟩ := info_parts infoT
  have hr := h.kept ((Nw.refl w).alloc (.cells #[] 28) |>.block g h.lt)
  have c : ∀ j u, (trows l)[j]? = some u → (w.alloc (.cells #[] 28)).cell? ((⟨g, 0, none⟩ : Addr).add j) = some u := World.ownsRow.cells hr rfl
  obtain ⟨v', w1, hrun, ho, hg, hp⟩ := run_append_fresh (P := Try.prog) (w.alloc (.cells #[] 28)) 0 55 55 28 i0 _ 3 24 Try.underlying55 hi hz0 hz1 hz2 rfl (by decide) _ 0 [] (empty_row w)
    ⟨g, 0, none⟩ l.length cap (trows l) (trows_len l) c (by
      intro u hu
      obtain ⟨x, _, hx⟩ := List.mem_flatMap.1 hu
      simp [trow] at hx
      rcases hx with rfl | rfl | rfl <;> rfl) (by unfold maxLen; omega) (by omega) (Nat.zero_le _)
  rw [Nat.zero_add, List.nil_append] at ho
  refine ⟨v', w1, hrun, ho, fun k e => ?_, ?_⟩
  · rcases hp with q | q
    · rw [q] at e; simp [Value.ownBlock] at e; omega
    · rw [q] at e; simp at e; omega
  · exact (Tch.grown (S := fun _ => False) (Tch.nw ((Nw.refl w).alloc _)) hg (fun k e => by simp [Value.ownBlock] at e; exact .inr (by omega))).toNw
theorem clone_any (hb ho : Nat) (v : Value) (l : List Tm) (w : World) (h : Hv w hb ho v l) (hsm : l.length ≤ 100000) :
    Calls Try.prog 43 #[v] w fun e W => ∃ v', e = .returned v' ∧ TS W v' l ∧ (∀ k, v'.ownBlock = some k → w.heap.size ≤ k) ∧ Nw w W := by
  have en := eql_nil
  rcases h.form with ⟨rfl, rfl⟩ | ⟨g, cap, rfl, hp⟩
  · go_enter Try.func43, Try.ntmps43
    go_wp2
    go_ret
    exact ⟨_, rfl, World.ownsRow_nil _ _ _ _, fun k e => by simp [Value.ownBlock] at e, Nw.refl _⟩
  · obtain ⟨v', w1, hr, q1, q2, q3⟩ := clone_run g cap l w hp.row hsm
    have HR := Lib.hid hr
    have HQ := Lib.hid (And.intro q1 (And.intro q2 q3))
    clear hr q1 q2 q3 h hp
    go_enter Try.func43, Try.ntmps43
    go_wp2_with (at_builtin; refine wpList_append_run rfl (.tmp 5) (.tmp 6) 55 rfl _ _ _ _ rfl rfl HR.out ?_)
    go_ret
    exact ⟨v', rfl, HQ.out⟩
theorem each_any (c : Nat) (w : World) : Calls Try.prog 34 #[.pointer (some ⟨c, 0, none⟩)] w fun e w' =>
    e = .returned (.func (.func 42) #[] #[.pointer (some ⟨w.heap.size, 0, none⟩)]) ∧ w' = w.alloc (.cells #[.pointer (some ⟨c, 0, none⟩)] 23) := by
  go_enter Try.func34, Try.ntmps34
  go_wp2
  go_ret
  exact ⟨rfl, rfl⟩
theorem due_all (s : List Tm) (h : ∀ x ∈ s, x.1 ≤ 9223372036854775807) : due 9223372036854775807 s = s ∧ late 9223372036854775807 s = [] := by
  unfold due late
  have : ∀ s : List Tm, (∀ x ∈ s, x.1 ≤ 9223372036854775807) → s.takeWhile (fun x => decide (x.1 ≤ 9223372036854775807)) = s ∧ s.dropWhile (fun x => decide (x.1 ≤ 9223372036854775807)) = [] := by
    intro s
    induction s with
    | nil => intro _; exact ⟨rfl, rfl⟩
    | cons a s ih =>
      intro h
      have ha := h a (List.mem_cons_self ..)
      have ih := ih fun x hx => h x (List.mem_cons_of_mem _ hx)
      rw [List.takeWhile_cons, List.dropWhile_cons, if_pos (by simpa using ha), if_pos (by simpa using ha)]
      exact ⟨by rw [ih.1], ih.2⟩
  exact this s h

/-- What Each holds between two rounds: of the outer loop's J, and of its own. -/
structure EaI (w : World) (S0 : Nat → Prop) (n₀ Y L : Nat) (J : (Nat → Prop) → List Tm → World → Prop) (S' : Nat → Prop) (pre : List Tm) (A : World) (S : Nat → Prop) : Prop where
  j : J S pre A
  sub0 : ∀ k, S0 k → S k
  sub : ∀ k, S' k → S k
  bound : ∀ k, S k → k < A.heap.size
  book : ∀ k, (k = n₀ ∨ k = n₀ + 1) → k < A.heap.size → S k
  y : S Y ∧ ¬ S' Y ∧ Y ≠ n₀ ∧ Y ≠ n₀ + 1
  cell : A.cell? ⟨Y, 0, none⟩ = some (.func (.yield L) #[] #[])
  same : ∀ k, S0 k → A.heap[k]? = w.heap[k]?
  apart : ∀ k, S0 k → ¬ S' k ∧ k ≠ n₀ ∧ k ≠ n₀ + 1
theorem EaI.step {w : World} {S0 : Nat → Prop} {n₀ Y L : Nat} {J : (Nat → Prop) → List Tm → World → Prop} {S' S'' S : Nat → Prop} {pre : List Tm} {A B : World} (h : EaI w S0 n₀ Y L J S' pre A S)
    (hJ : ∀ S S' pre A B, J S pre A → Tch S A B → (∀ k, S k → S' k) → (∀ k, S' k → S k ∨ A.heap.size ≤ k) → (∀ k, S' k → k < B.heap.size) → J S' pre B) (hc : Ch' n₀ S' A B) (h1 : ∀ k, S' k → S'' k) (h2 : ∀ k, S'' k → S' k ∨ A.heap.size ≤ k) (h3 : ∀ k, S'' k → k < B.heap.size) :
    EaI w S0 n₀ Y L J S'' pre B (New A B S) := by
  have ht : Tch S A B := ⟨hc.os, hc.tape, hc.output, hc.size, fun k hk hn => by
    rcases hc.block k hk (fun e => hn (h.sub k e)) with e | ⟨e, _⟩
    · exact e
    · exact absurd (h.book k e hk) hn⟩
  have hY := h.bound Y h.y.1
  have yb : B.heap[Y]? = A.heap[Y]? := by
    rcases hc.block Y hY h.y.2.1 with e | ⟨e, _⟩
    · exact e
    · rcases e with e | e
      · exact absurd e h.y.2.2.1
      · exact absurd e h.y.2.2.2
  refine ⟨hJ S _ pre A B h.j ht (fun k e => .inl e) (fun k e => e.elim .inl (fun e => .inr e.1)) (fun k e => e.elim (fun e => Nat.lt_of_lt_of_le (h.bound k e) hc.size) (fun e => e.2)), fun k e => .inl (h.sub0 k e), fun k e => ?_, fun k e => ?_, fun k e hk => ?_, ⟨.inl h.y.1, fun e => ?_, h.y.2.2⟩, (World.cell?_of_block yb).trans h.cell, fun k e => ?_, fun k e => ⟨fun q => ?_, (h.apart k e).2⟩⟩
  · rcases h2 k e with q | q
    · exact .inl (h.sub k q)
    · exact .inr ⟨q, h3 k e⟩
  · rcases e with e | e
    · exact Nat.lt_of_lt_of_le (h.bound k e) hc.size
    · exact e.2
  · by_cases q : k < A.heap.size
    · exact .inl (h.book k e q)
    · exact .inr ⟨by omega, hk⟩
  · rcases h2 Y e with q | q
    · exact h.y.2.1 q
    · omega
  · have hk := h.bound k (h.sub0 k e)
    obtain ⟨a1, a2, a3⟩ := h.apart k e
    rcases hc.block k hk a1 with q | ⟨q, _⟩
    · exact q.trans (h.same k e)
    · rcases q with q | q
      · exact absurd q a2
      · exact absurd q a3
  · rcases h2 k q with q | q
    · exact (h.apart k e).1 q
    · have := h.bound k (h.sub0 k e); omega
/-- The same behind a round of the outer loop. -/
theorem EaI.round {w : World} {S0 : Nat → Prop} {n₀ Y L : Nat} {J J' : (Nat → Prop) → List Tm → World → Prop} {S' S : Nat → Prop} {pre pre' : List Tm} {A B : World} (h : EaI w S0 n₀ Y L J S' pre A S) (j : J' S pre' B) (k : KpS S A B)
    (hb : ∀ i, (i = n₀ ∨ i = n₀ + 1) → i < A.heap.size) : EaI w S0 n₀ Y L J' S' pre' B S :=
  ⟨j, h.sub0, h.sub, fun i e => Nat.lt_of_lt_of_le (h.bound i e) k.size, fun i e _ => h.book i e (hb i e), h.y, (k.cell h.y.1).trans h.cell, fun i e => (k.same i (h.sub0 i e)).trans (h.same i e), h.apart⟩
end Go.Proofs.Ytolpccchhjcddaa
