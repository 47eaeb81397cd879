
/- What the law's own loop over Each collects; lives. -/
import Derived.Test.YtckbjgcelpmffaaPoG
namespace Go.Proofs.Ytckbjgcelpmffaa
open Go.RowKit Go.Shelf
set_option linter.unusedVariables false
attribute [local go_sem] Oper.semAt_some

theorem pe_each1 : ∀ args w, (callFunc 32 args).run Try.prog w = .ok (.enter 32 args) w := enters_of Try.func32 (by kernel_rfl) rfl
theorem peql_fn (f : Fn) (a b : Array Value) (w : World) : Sem.run Try.prog (binOp .eql 54 (.func f a b) .nilFunc) w = .ok (.bool false) w := by
  have h : ∀ d : Nat, (Op.equalIn (d + 1) 54 (.func f a b) .nilFunc).run Try.prog w = .ok false w := fun d => by
    simp [Op.equalIn, run_underlying Try.underlying54]
  simp only [binOp]
  simp [Op.equal, Op.maxDepth, h 9999]
theorem pwpListIn_append_run {F : Fence} {n : Nat} {P : Program} {w : World} {ops : Array Oper} {rest : List Oper} {o : Oper} {a : Act} {Q : Exit → Act → World → Prop}
    (hg : o.guard = none) (s x : Operand) (t : TypeId) (hop : o.op = Op.call { callee := Callee.builtin Builtin.append, args := #[s, x], argTypes := #[t, t] })
    (v u v' : Value) (w' : World) (hs : a.eval s = v) (hx : a.eval x = u) (hr : (Builtin.append_ #[t, t] o.type #[v, u]).run P w = .ok v' w') (h : wpListIn F n P ops Q rest (a.put o.dst v') w') : wpListIn F n P ops Q (o :: rest) a w := by
  refine wpListIn_plain hg fun K hK' => ?_
  unfold Oper.wpIn
  refine ⟨?_, ?_⟩
  · simp [Oper.about, hop, resolve, Target.leads, Sem.run_pure]
  · rw [Oper.semAt_plain F _ _ (by rw [hop]; intro c hc'; cases hc')]
    simp [execOp, hop, resolve, invoke, builtin, hs, hx, hr, Result.andThen]
    exact hK' _ _ h
theorem tch_put {S : Nat → Prop} {A : World} {D : Nat} (o : Obj) (h : S D) : Tch S A (A.putObj D o) := ⟨rfl, rfl, rfl, by simp, fun k _ hk => World.putObj_heap_other (fun e => hk (e ▸ h))⟩

/-- The answer of the law's own lent. -/
def LentP (w : World) (l : List Int) (e : Ending) (W : World) : Prop := ∃ v, e = .returned (.tuple #[v, .bool true]) ∧ IS W v l ∧ (∀ k, v.ownBlock = some k → w.heap.size ≤ k) ∧ Nw w W
/-- Between two rounds: s is the size of the heap at the law's start. -/
structure LnI (w : World) (S : Nat → Prop) (pre : List Int) (A : World) (v : Value) : Prop where
  nw : Nw w A
  is : IS A v pre
  own : ∀ k, v.ownBlock = some k → w.heap.size + 6 ≤ k ∧ ¬ S k
  out : A.cell? ⟨w.heap.size + 3, 0, none⟩ = some v ∧ A.frozen? ⟨w.heap.size + 3, 0, none⟩ = false
  r1 : A.cell? ⟨w.heap.size, 0, none⟩ = some (.slice none 0 0) ∧ A.frozen? ⟨w.heap.size, 0, none⟩ = false
  r2 : A.cell? ⟨w.heap.size + 1, 0, none⟩ = some (.bool false) ∧ A.frozen? ⟨w.heap.size + 1, 0, none⟩ = false
  sb : ∀ k, S k → w.heap.size + 4 ≤ k ∧ k < A.heap.size
theorem LnI.tch {w A B : World} {S T : Nat → Prop} {pre : List Int} {v : Value} (h : LnI w S pre A v) (k : Tch T A B) (hT : ∀ i, T i → w.heap.size + 4 ≤ i ∧ v.ownBlock ≠ some i) : LnI w S pre B v := by
  have hlt : w.heap.size + 3 < A.heap.size := World.block_lt_of_cell? _ _ h.out.1
  have n3 : ¬ T (w.heap.size + 3) := fun e => by have := (hT _ e).1; omega
  have n1 : ¬ T (w.heap.size + 1) := fun e => by have := (hT _ e).1; omega
  have n0 : ¬ T w.heap.size := fun e => by have := (hT _ e).1; omega
  exact ⟨nw_tch h.nw k (fun i e => by have := (hT _ e).1; omega), h.is.tch k (fun g e q => (hT _ q).2 e), h.own, ⟨(k.cell hlt n3).trans h.out.1, (k.froz hlt n3).trans h.out.2⟩,
    ⟨(k.cell (by omega) n0).trans h.r1.1, (k.froz (by omega) n0).trans h.r1.2⟩, ⟨(k.cell (by omega) n1).trans h.r2.1, (k.froz (by omega) n1).trans h.r2.2⟩, fun i e => ⟨(h.sb i e).1, Nat.lt_of_lt_of_le (h.sb i e).2 k.size⟩⟩
theorem LnI.push {w A w1 : World} {S : Nat → Prop} {pre : List Int} {v : Value} {x : Int} {g cap : Nat} (h : LnI w S pre A v) (hA : w.heap.size + 6 ≤ A.heap.size) (q1 : IS w1 (.slice (some ⟨g, 0, none⟩) (pre.length + 1) cap) (pre ++ [x])) (q2 : Tch (fun k => v.ownBlock = some k) A w1)
    (q3 : ∀ k, (Value.slice (some ⟨g, 0, none⟩) (pre.length + 1) cap).ownBlock = some k → v.ownBlock = some k ∨ A.heap.size ≤ k) :
    LnI w S (pre ++ [x]) (w1.setCell ⟨w.heap.size + 3, 0, none⟩ (.slice (some ⟨g, 0, none⟩) (pre.length + 1) cap)) (.slice (some ⟨g, 0, none⟩) (pre.length + 1) cap) ∧
    KpI S A (w1.setCell ⟨w.heap.size + 3, 0, none⟩ (.slice (some ⟨g, 0, none⟩) (pre.length + 1) cap)) ∧
    (∀ k, (k = w.heap.size + 4 ∨ k = w.heap.size + 5) → (w1.setCell ⟨w.heap.size + 3, 0, none⟩ (.slice (some ⟨g, 0, none⟩) (pre.length + 1) cap)).heap[k]? = A.heap[k]?) ∧
    w1.cell? ⟨w.heap.size + 3, 0, none⟩ = some v ∧ w1.frozen? ⟨w.heap.size + 3, 0, none⟩ = false := by
  have hg := q3 g rfl
  have hgo : w.heap.size + 6 ≤ g ∧ ¬ S g := by
    rcases hg with e | e
    · exact h.own g e
    · exact ⟨by omega, fun q => by have := (h.sb g q).2; omega⟩
  have no : ∀ i, i < w.heap.size + 6 → ¬ (v.ownBlock = some i) := fun i hi e => by have := (h.own i e).1; omega
  have t2 := setCell_at w1 ⟨w.heap.size + 3, 0, none⟩ (.slice (some ⟨g, 0, none⟩) (pre.length + 1) cap)
  have c3 := (q2.cell (o := 0) (show w.heap.size + 3 < A.heap.size by omega) (no _ (by omega))).trans h.out.1
  have f3 := (q2.froz (o := 0) (show w.heap.size + 3 < A.heap.size by omega) (no _ (by omega))).trans h.out.2
  have sz := q2.size
  have c : ∀ b, b < w.heap.size + 6 → b ≠ w.heap.size + 3 → (w1.setCell ⟨w.heap.size + 3, 0, none⟩ (.slice (some ⟨g, 0, none⟩) (pre.length + 1) cap)).heap[b]? = A.heap[b]? := fun b hb hn =>
    (t2.block b (by omega) hn).trans (q2.block b (by omega) (no _ hb))
  refine ⟨⟨nw_tch (nw_tch h.nw q2 (fun i e => by have := (h.own i e).1; omega)) t2 (fun i e => by simp at e; omega), q1.tch t2 (fun b e => by simp [Value.ownBlock] at e; subst e; simp; omega), fun k e => by simp [Value.ownBlock] at e; subst e; exact hgo, ⟨World.cell?_setCell_same _ _ _ c3, by rw [World.frozen?_setCell]; exact f3⟩, ?_, ?_, fun i e => ⟨(h.sb i e).1, by have := (h.sb i e).2; simp; omega⟩⟩, ⟨by simp; omega, fun k e => ?_⟩, fun k e => ?_, c3, f3⟩
  · exact ⟨(World.cell?_of_block (c w.heap.size (by omega) (by omega))).trans h.r1.1, (World.frozen?_of_block (c w.heap.size (by omega) (by omega))).trans h.r1.2⟩
  · exact ⟨(World.cell?_of_block (c (w.heap.size + 1) (by omega) (by omega))).trans h.r2.1, (World.frozen?_of_block (c (w.heap.size + 1) (by omega) (by omega))).trans h.r2.2⟩
  · have hk := h.sb k e
    exact (t2.block k (by omega) (by simp; omega)).trans (q2.block k hk.2 (fun q => (h.own k q).2 e))
  · rcases e with rfl | rfl
    · exact c _ (by omega) (by omega)
    · exact c _ (by omega) (by omega)
theorem LnI.done {w A : World} {S : Nat → Prop} {pre : List Int} {v : Value} (h : LnI w S pre A v) (hK : A.heap[w.heap.size + 4]? = some (.deferred (some []))) :
    LentP w pre (.returned (.tuple #[v, .bool true])) (((A.setCell ⟨w.heap.size, 0, none⟩ v).setCell ⟨w.heap.size + 1, 0, none⟩ (.bool true)).putObj (w.heap.size + 4) (.deferred none)) ∧
    (((A.setCell ⟨w.heap.size, 0, none⟩ v).setCell ⟨w.heap.size + 1, 0, none⟩ (.bool true)).putObj (w.heap.size + 4) (.deferred none)).cell? ⟨w.heap.size, 0, none⟩ = some v ∧
    (((A.setCell ⟨w.heap.size, 0, none⟩ v).setCell ⟨w.heap.size + 1, 0, none⟩ (.bool true)).putObj (w.heap.size + 4) (.deferred none)).cell? ⟨w.heap.size + 1, 0, none⟩ = some (.bool true) ∧
    ((A.setCell ⟨w.heap.size, 0, none⟩ v).setCell ⟨w.heap.size + 1, 0, none⟩ (.bool true)).heap[w.heap.size + 4]? = some (.deferred (some [])) := by
  have hlt : w.heap.size + 4 < A.heap.size := (Array.getElem?_eq_some_iff.1 hK).1
  have t1 : Tch (fun k => k = w.heap.size ∨ k = w.heap.size + 1) A ((A.setCell ⟨w.heap.size, 0, none⟩ v).setCell ⟨w.heap.size + 1, 0, none⟩ (.bool true)) :=
    Tch.set (S := fun k => k = w.heap.size ∨ k = w.heap.size + 1) (p := ⟨w.heap.size + 1, 0, none⟩) (Tch.set (S := fun k => k = w.heap.size ∨ k = w.heap.size + 1) (p := ⟨w.heap.size, 0, none⟩) (Tch.refl _ A) (.inl (.inl rfl)) v) (.inl (.inr rfl)) _
  have t2 : Tch (fun k => k = w.heap.size + 4) _ (((A.setCell ⟨w.heap.size, 0, none⟩ v).setCell ⟨w.heap.size + 1, 0, none⟩ (.bool true)).putObj (w.heap.size + 4) (.deferred none)) := tch_put _ rfl
  have t3 := (t1.mono (S' := fun k => k = w.heap.size ∨ k = w.heap.size + 1 ∨ k = w.heap.size + 4) (fun k _ e => by omega)).trans (t2.mono (fun k _ e => by omega))
  have hs : A.heap.size ≤ ((A.setCell ⟨w.heap.size, 0, none⟩ v).setCell ⟨w.heap.size + 1, 0, none⟩ (.bool true)).heap.size := t1.size
  refine ⟨⟨v, rfl, h.is.tch t3 (fun g e q => by have := (h.own g e).1; omega), fun k e => by have := (h.own k e).1; omega, nw_tch h.nw t3 (fun i e => by omega)⟩, ?_, ?_, ?_⟩
  · rw [t2.cell (by omega) (by omega), World.cell?_setCell_other _ _ _ _ (by simp)]
    exact World.cell?_setCell_same _ _ _ h.r1.1
  · rw [t2.cell (by omega) (by omega)]
    exact World.cell?_setCell_same _ _ _ (by rw [World.cell?_setCell_other _ _ _ _ (by simp)]; exact h.r2.1)
  · exact (t1.block _ hlt (by omega)).trans hK
theorem ln_start (w : World) (p : Nat) (T U V X : TypeId) (w0 : World) (h0 : (((w.alloc (.cells #[.slice none 0 0] T)).alloc (.cells #[.bool false] U)).alloc (.cells #[.pointer (some ⟨p, 0, none⟩)] V)).alloc (.cells #[.slice none 0 0] X) = w0) :
    Nw w w0 ∧ w0.heap.size = w.heap.size + 4 ∧ w0.cell? ⟨w.heap.size + 2, 0, none⟩ = some (.pointer (some ⟨p, 0, none⟩)) ∧
    (∀ S W, Nw w0 W → (∀ k, S k → w0.heap.size ≤ k ∧ k < W.heap.size) → LnI w S [] W (.slice none 0 0)) := by
  have nw : Nw w w0 := by rw [← h0]; exact ((((Nw.refl w).alloc _).alloc _).alloc _).alloc _
  have sz : w0.heap.size = w.heap.size + 4 := by rw [← h0]; simp
  refine ⟨nw, sz, by rw [← h0]; simp [go_sem], fun S W g hS => ?_⟩
  refine ⟨nw.trans g, IS.nil _, fun k e => by simp [Value.ownBlock] at e, ⟨(g.cell (by omega)).trans ?_, (World.frozen?_of_block (g.block (w.heap.size + 3) (by omega))).trans ?_⟩, ⟨(g.cell (by omega)).trans ?_, (World.frozen?_of_block (g.block w.heap.size (by omega))).trans ?_⟩, ⟨(g.cell (by omega)).trans ?_, (World.frozen?_of_block (g.block (w.heap.size + 1) (by omega))).trans ?_⟩, fun k e => by have := hS k e; omega⟩
  all_goals (rw [← h0]; simp [go_sem])
set_option maxRecDepth 100000 in
set_option maxHeartbeats 4000000 in
theorem lent_in (n : Nat) (hn : 8 ≤ n) (p : Nat) (L : List Bool) (F : Nat → Prop) (w : World) (h : Pol w p L F) :
    CallsIn Fence.wide n Try.prog 12 #[.pointer (some ⟨p, 0, none⟩)] w (LentP w (castL (lnt L))) := by
  have h1 : 1 ≤ n := by omega
  have en := peql_fn
  have HL := Lib.hid (show (castL (lnt L)).length ≤ 128 by rw [castL_len, liv_lnt]; have := liv_le L; have := h.sz; omega)
  refine callsIn_of_wp_marks Try.func12 rfl trivial ?_ rfl
  simp only [Try.ntmps12, List.size_toArray, List.length_cons, List.length_nil, Nat.reduceAdd, Nat.reduceSub, Array.replicate_succ, Array.replicate_zero, List.push_toArray, List.append_toArray, List.nil_append, List.cons_append]
  gi_wp2_with fail
  refine ⟨trivial, (callsIn_wide.2 (peach_any (some ⟨p, 0, none⟩) _)).mono ?_⟩
  rintro e w1 ⟨rfl, rfl⟩
  gi_wp2
  obtain ⟨w0, hw0⟩ : ∃ w0, (((w.alloc (.cells #[.slice none 0 0] 30)).alloc (.cells #[.bool false] 4)).alloc (.cells #[.pointer (some ⟨p, 0, none⟩)] 23)).alloc (.cells #[.slice none 0 0] 30) = w0 := ⟨_, rfl⟩
  rw [hw0]
  obtain ⟨b1, b2, b3, b4⟩ := ln_start w p _ _ _ _ w0 hw0
  have hsq := peach1_in (n - 1) (by omega) (w.heap.size + 2) p L F w0 b3 (h.nw b1)
  have HB := Lib.hid b4
  have H2 := Lib.hid b2
  clear hw0 b1 b3 b4 h
  refine ri_law rfl h1 (gf := 32) (lb := #[.pointer (some ⟨w.heap.size + 2, 0, none⟩)]) rfl trivial pe_each1 hsq rfl
    (fun S pre A => ∃ v, LnI w S pre A v) (fun _ _ _ _ => False)
    (fun S pre A lp o o' hi hl ho hc => by
      obtain ⟨v, hi⟩ := hi
      refine ⟨v, hi.tch (tch_put (S := fun k => k = lp) o' rfl) (fun i e => ?_)⟩
      subst e
      exact ⟨by omega, fun q => by have := (hi.own _ q).1; omega⟩) (fun _ _ _ _ _ _ _ h _ _ _ => h) (fun S W g hS => ⟨_, HB.out S W g hS⟩)
    (fun x => { tmps := #[.pointer (some ⟨p, 0, none⟩), undef, .pointer (some ⟨w.heap.size, 0, none⟩), .pointer (some ⟨w.heap.size + 1, 0, none⟩), .func (.func 32) #[] #[.pointer (some ⟨w.heap.size + 2, 0, none⟩)], .pointer (some ⟨w.heap.size + 3, 0, none⟩), .int .i64 x, .pointer (some ⟨p, 0, none⟩),
      .func (.func 32) #[] #[.pointer (some ⟨w.heap.size + 2, 0, none⟩)], .func (.func 32) #[] #[.pointer (some ⟨w.heap.size + 2, 0, none⟩)], .bool false, .func (.func 32) #[] #[.pointer (some ⟨w.heap.size + 2, 0, none⟩)], .int .i64 x, undef, undef, undef, undef, undef, undef, undef, undef], defers := [] }) ?assign ?body ?done ?stop
  case assign =>
    intro lp x A K hK
    gi_wp2
    exact hK
  case body =>
    intro lp S pre x A hi hnc hpre
    obtain ⟨v, hi⟩ := hi
    have hln : pre.length ≤ 128 := by have q := hpre.length_le; have := HL.out; rw [List.length_append] at q; simp only [List.length_cons, List.length_nil] at q; omega
    have hA6 : w.heap.size + 6 ≤ A.heap.size := by
      obtain ⟨o, ho, _⟩ := hnc _ (.inr rfl)
      have := (Array.getElem?_eq_some_iff.1 ho).1
      omega
    obtain ⟨v', w1, hrun, q1, q2, q3, g, cap, rfl⟩ := IS.push A v pre x hi.is (by omega)
    obtain ⟨a1, a2, a3, a4, a5⟩ := hi.push hA6 q1 q2 q3
    have HE := Lib.hid (And.intro a1 (And.intro a2 a3))
    have hd := hi.out.1
    have hlt := World.block_lt_of_cell? _ _ hd
    have hgt : decide (200 < pre.length) = false := by simp; omega
    have hgt2 : ¬ (200 : Int) < (pre.length : Int) := by omega
    have HR := Lib.hid hrun
    obtain ⟨ao, cp, rfl, _⟩ := hi.is.box
    clear hi hnc hpre hrun q1 q2 q3 a1 a2 a3 hsq
    generalize hNN : pre.length = M at *
    gi_wp2_with (gi_at_builtin; refine pwpListIn_append_run rfl (.tmp 16) (.tmp 18) 30 rfl _ _ _ _ rfl rfl HR.out ?_)
    exact ⟨fun k e => HE.out.2.2 k (by have := H2.out; omega), HE.out.2.1, _, HE.out.1⟩
  case done =>
    intro D S W hD hi hK
    obtain ⟨v, hi⟩ := hi
    obtain rfl : D = w.heap.size + 4 := by have := H2.out; omega
    obtain ⟨t1, t2, t3, t4⟩ := hi.done hK
    have HT := Lib.hid (And.intro t1 (And.intro t2 (And.intro t3 t4)))
    obtain ⟨o1, o2⟩ := hi.out
    obtain ⟨r1, f1⟩ := hi.r1
    obtain ⟨r2, f2⟩ := hi.r2
    have hlt := World.block_lt_of_cell? _ _ o1
    obtain ⟨ao, cp, rfl, _⟩ := hi.is.box
    clear hi hK hsq t1 t2 t3 t4 hD
    generalize hNN : (castL (lnt L)).length = M at *
    gi_wp2
    obtain ⟨t1, t2, t3, t4⟩ := HT.out
    refine ⟨by simp, .inl ⟨_, _, rfl, run_takeDeferred t4, ?_⟩⟩
    exact ⟨.tuple #[.slice ao M cp, .bool true], by simp [results, Try.results12, go_sem, t2, t3], t1⟩
  case stop =>
    intro D cd S pre W _ _ h _
    exact h.elim
theorem lent_any (p : Nat) (L : List Bool) (F : Nat → Prop) (w : World) (h : Pol w p L F) : Calls Try.prog 12 #[.pointer (some ⟨p, 0, none⟩)] w (LentP w (castL (lnt L))) :=
  callsIn_wide.1 (lent_in 8 (by omega) p L F w h)
end Go.Proofs.Ytckbjgcelpmffaa
