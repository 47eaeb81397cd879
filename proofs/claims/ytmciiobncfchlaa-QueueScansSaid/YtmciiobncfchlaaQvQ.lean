
/- AppendSeq, Collect of ints. -/
import Derived.Test.YtmciiobncfchlaaRf
import Derived.Test.YtmciiobncfchlaaInts
import Derived.Shelf.Abstract
namespace Go.Proofs.Ytmciiobncfchlaa
open Go.RowKit Go.Shelf
attribute [local go_sem] Oper.semAt_some

theorem cell_isCells {w : World} {a : Addr} {v : Value} (h : w.cell? a = some v) : ∃ o : Obj, w.heap[a.block]? = some o ∧ o.isCells = true := by
  unfold World.cell? at h
  cases ho : w.heap[a.block]? with
  | none => simp [ho] at h
  | some o => exact ⟨o, rfl, by cases o <;> simp_all [Obj.isCells]⟩
theorem Ch'.same {n₀ : Nat} {S : Nat → Prop} {A B : World} {a : Addr} {v : Value} (h : Ch' n₀ S A B) (hc : A.cell? a = some v) (hn : ¬ S a.block) : B.heap[a.block]? = A.heap[a.block]? := by
  obtain ⟨o, ho, hco⟩ := cell_isCells hc
  rcases h.block a.block (Array.getElem?_eq_some_iff.1 ho).1 hn with e | ⟨_, o', ho', hc'⟩
  · exact e
  · rw [ho] at ho'; cases ho'; rw [hco] at hc'; cases hc'
theorem SeqH.later {F : Fence} {n : Nat} {P : Program} {g : Nat} {fa lb : Array Value} {xs : List Int} {S0 : Nat → Prop} {End : World → Prop} {w w' : World} (h : SeqH F n P g fa lb xs S0 End w) (k : Nw w w') : SeqH F n P g fa lb xs S0 End w' :=
  fun l J Jx W hW => h l J Jx W (k.trans hW)
theorem wpListIn_append_run {F : Fence} {n : Nat} {P : Program} {w : World} {ops : Array Oper} {rest : List Oper} {o : Oper} {a : Act} {Q : Exit → Act → World → Prop}
    (hg : o.guard = none) (s x : Operand) (t : TypeId) (hop : o.op = Op.call { callee := Callee.builtin Builtin.append, args := #[s, x], argTypes := #[t, t] })
    (v u v' : Value) (w' : World) (hs : a.eval s = v) (hx : a.eval x = u) (hr : (Builtin.append_ #[t, t] o.type #[v, u]).run P w = .ok v' w') (h : wpListIn F n P ops Q rest (a.put o.dst v') w') : wpListIn F n P ops Q (o :: rest) a w := by
  refine wpListIn_plain hg fun K hK' => ?_
  unfold Oper.wpIn
  refine ⟨?_, ?_⟩
  · simp [Oper.about, hop, resolve, Target.leads, Sem.run_pure]
  · rw [Oper.semAt_plain F _ _ (by rw [hop]; intro c hc'; cases hc')]
    simp [execOp, hop, resolve, invoke, builtin, hs, hx, hr, Result.andThen]
    exact hK' _ _ h
theorem keepsD {a n₀ : Nat} {A B : World} (h : KeepsFrom a A B) (k : a ≤ n₀) (hn : ∀ k, (k = n₀ ∨ k = n₀ + 1) → ∃ o, A.heap[k]? = some o ∧ o.isCells = false) : KpD n₀ A B := fun i hi => by
  obtain ⟨o, ho, hc⟩ := hn i hi
  exact (h.same i o (by omega) ho hc).trans ho.symm
/-- What AppendSeq holds between two rounds. -/
def AsI (w : World) (S0 : Nat → Prop) (S : Nat → Prop) (pre : List Int) (A : World) : Prop :=
  ∃ v, A.cell? ⟨w.heap.size, 0, none⟩ = some v ∧ A.frozen? ⟨w.heap.size, 0, none⟩ = false ∧ IS A v pre ∧ (∀ k, v.ownBlock = some k → w.heap.size < k ∧ ¬ S k) ∧ ¬ S w.heap.size ∧ (∀ k, S k → S0 k ∨ w.heap.size ≤ k) ∧ Tch S0 w A
theorem AsI.step {w : World} {n₀ : Nat} {S0 S S' : Nat → Prop} {pre : List Int} {A B : World} (hn : w.heap.size ≤ n₀) (h : AsI w S0 S pre A) (k : Ch' n₀ S A B) (_h1 : ∀ k, S k → S' k) (h2 : ∀ k, S' k → S k ∨ A.heap.size ≤ k) : AsI w S0 S' pre B := by
  obtain ⟨v, a0, af, a1, a2, a3, a4, a5⟩ := h
  have e := k.same a0 a3
  refine ⟨v, (World.cell?_of_block e).trans a0, (World.frozen?_of_block e).trans af, k.row a1 (fun g e => (a2 g e).2), fun g e => ⟨(a2 g e).1, fun hs => ?_⟩, fun hs => ?_, fun i hs => ?_, k.tch a5 hn (fun i hi hs => (a4 i hs).resolve_right (by omega))⟩
  · rcases h2 g hs with h | h
    · exact (a2 g e).2 h
    · have := a1.lt e; omega
  · rcases h2 _ hs with h | h
    · exact a3 h
    · have := World.block_lt_of_cell? _ _ a0; simp only at this; omega
  · rcases h2 i hs with h | h
    · exact a4 i h
    · exact .inr (Nat.le_trans a5.size h)
/-- An append in a round. -/
theorem AsI.push {w : World} {S0 S : Nat → Prop} {pre : List Int} {x : Int} {A w1 : World} {v v' : Value} (a0 : A.cell? ⟨w.heap.size, 0, none⟩ = some v) (af : A.frozen? ⟨w.heap.size, 0, none⟩ = false) (a1 : IS A v pre) (a2 : ∀ k, v.ownBlock = some k → w.heap.size < k ∧ ¬ S k) (a3 : ¬ S w.heap.size) (a4 : ∀ k, S k → S0 k ∨ w.heap.size ≤ k) (a5 : Tch S0 w A)
    (hex : ∀ k, S k → k < A.heap.size) (p1 : IS w1 v' (pre ++ [x])) (p2 : Tch (fun k => v.ownBlock = some k) A w1) (p3 : ∀ k, v'.ownBlock = some k → v.ownBlock = some k ∨ A.heap.size ≤ k) :
    w1.cell? ⟨w.heap.size, 0, none⟩ = some v ∧ w1.frozen? ⟨w.heap.size, 0, none⟩ = false ∧ AsI w S0 S (pre ++ [x]) (w1.setCell ⟨w.heap.size, 0, none⟩ v') ∧ KpS S A (w1.setCell ⟨w.heap.size, 0, none⟩ v') ∧ KeepsFrom w.heap.size A (w1.setCell ⟨w.heap.size, 0, none⟩ v') := by
  have hbl := World.block_lt_of_cell? _ _ a0
  simp only at hbl
  have hnv : v.ownBlock ≠ some w.heap.size := fun e => by have := (a2 _ e).1; omega
  have c1 : w1.cell? ⟨w.heap.size, 0, none⟩ = some v := (p2.cell hbl hnv).trans a0
  have f1 : w1.frozen? ⟨w.heap.size, 0, none⟩ = false := (p2.froz hbl hnv).trans af
  have p4 : Tch (fun k => v.ownBlock = some k ∨ k = w.heap.size) A (w1.setCell ⟨w.heap.size, 0, none⟩ v') := (p2.mono (fun _ _ e => .inl e)).set (p := ⟨w.heap.size, 0, none⟩) (.inl (.inr rfl)) v'
  have hne : ∀ k, v'.ownBlock = some k → k ≠ w.heap.size := fun k e q => by
    rcases p3 k e with h | h
    · have := (a2 k h).1; omega
    · omega
  have hI : IS (w1.setCell ⟨w.heap.size, 0, none⟩ v') v' (pre ++ [x]) := p1.tch (setCell_at w1 ⟨w.heap.size, 0, none⟩ v') (fun g e q => hne g e q)
  refine ⟨c1, f1, ⟨v', ?_, ?_, hI, fun k e => ?_, a3, a4, a5.trans' p4 fun i hi e => ?_⟩, KpS.tch p4 fun k e => ⟨hex k e, fun q => ?_⟩, ⟨p4.size, fun k o hk h0 ho => ?_⟩⟩
  · exact World.cell?_setCell_same _ _ _ c1
  · rw [World.frozen?_setCell]; exact f1
  · rcases p3 k e with h | h
    · exact a2 k h
    · exact ⟨by omega, fun q => by have := hex k q; omega⟩
  · rcases e with e | rfl
    · have := (a2 i e).1; omega
    · omega
  · rcases q with q | rfl
    · exact (a2 k q).2 e
    · exact a3 e
  · refine (p4.block k (Array.getElem?_eq_some_iff.1 h0).1 ?_).trans h0
    rintro (e | rfl)
    · rcases a1.form with ⟨rfl, _⟩ | ⟨g, cap, rfl⟩
      · simp [Value.ownBlock] at e
      · rcases a1.2 with ⟨h', _⟩ | ⟨g2, cap2, cur, h', _, hg, _⟩
        · simp at h'
        · simp only [Value.slice.injEq, Option.some.injEq, Addr.mk.injEq, and_true, true_and] at h'
          obtain ⟨rfl, rfl⟩ := h'
          simp [Value.ownBlock] at e
          subst e
          rw [h0] at hg; cases hg; cases ho
    · obtain ⟨o', ho', hc'⟩ := cell_isCells a0
      rw [h0] at ho'; cases ho'; rw [ho] at hc'; cases hc'
def AsPost (w : World) (S0 : Nat → Prop) (End : World → Prop) (xs : List Int) (e : Ending) (W : World) : Prop :=
  ∃ v, e = .returned v ∧ IS W v xs ∧ (∀ k, v.ownBlock = some k → w.heap.size ≤ k) ∧ End W ∧ Tch S0 w W
set_option maxRecDepth 100000 in
set_option maxHeartbeats 4000000 in
theorem appendSeq_in (n : Nat) (hn : 3 ≤ n) (gf : Nat) (fa lb : Array Value) (eg : ∀ args w, (callFunc gf args).run Try.prog w = .ok (.enter gf args) w) (xs : List Int) (S0 : Nat → Prop) (End : World → Prop) (w : World) (hsm : xs.length ≤ 100000)
    (hS0 : ∀ k, S0 k → k < w.heap.size) (hseq : SeqH Fence.wide (n - 1) Try.prog gf fa lb xs S0 End w) (hEnd : ∀ (A : World) (l : Nat) (o o' : Obj), w.heap.size ≤ l → A.heap[l]? = some o → o.isCells = false → End A → End (A.putObj l o')) :
    CallsIn Fence.wide n Try.prog 77 #[.slice none 0 0, .func (.func gf) fa lb] w (AsPost w S0 End xs) := by
  have h1 : 1 ≤ n := by omega
  refine callsIn_of_wp_marks Try.func77 rfl trivial ?_ rfl
  simp only [Try.ntmps77, List.size_toArray, List.length_cons, List.length_nil, Nat.reduceAdd, Nat.reduceSub, Array.replicate_succ, Array.replicate_zero, List.push_toArray, List.append_toArray, List.nil_append, List.cons_append]
  gi_wp2
  have hA0 : AsI w S0 S0 [] (w.alloc (.cells #[.slice none 0 0] 36)) :=
    ⟨.slice none 0 0, by simp [go_sem], by simp [go_sem], World.ownsRow_nil _ _ _ _, fun k e => by simp [Value.ownBlock] at e, fun e => by have := hS0 _ e; omega, fun k e => .inl e, (Tch.refl _ _).alloc _⟩
  have hsz : (w.alloc (.cells #[.slice none 0 0] 36)).heap.size = w.heap.size + 1 := by simp
  have hnw : Nw w (w.alloc (.cells #[.slice none 0 0] 36)) := (Nw.refl w).alloc _
  obtain ⟨W0, hW0⟩ : ∃ W0, w.alloc (.cells #[.slice none 0 0] 36) = W0 := ⟨_, rfl⟩
  rw [hW0] at hA0 hsz hnw ⊢
  clear hW0
  refine rf_law rfl h1 (gf := gf) (fa := fa) (lb := lb) rfl trivial eg (S0 := S0) (End := End) (xs := xs) (fun k e => by have := hS0 k e; omega) (hseq.later hnw) rfl (fun A l o o' hl => hEnd A l o o' (by omega))
    (AsI w S0) (fun _ _ _ _ => False) (fun S S' pre A B hi hc e1 e2 _ => hi.step (by omega) hc e1 e2) (fun _ _ _ _ _ _ h _ _ _ _ => h) hA0
    (fun x => { tmps := #[.slice none 0 0, .func (.func gf) fa lb, .pointer (some ⟨w.heap.size, 0, none⟩), undef, .slice none 0 0, .int .i64 x, .func (.func gf) fa lb, .int .i64 x, undef, undef, undef, undef, undef], defers := [] }) ?assign ?body ?done ?stop
  case assign =>
    intro l x A K hK
    gi_wp2
    exact hK
  case body =>
    intro l S pre x A hi hsub hex hnc hpre
    obtain ⟨v, a0, af, a1, a2, a3, a4, a5⟩ := hi
    have hln : pre.length + 1 ≤ xs.length := by have := hpre.length_le; simpa using this
    obtain ⟨v', w1, hr, q1, q2, q3, ⟨g', cap', hv'⟩⟩ := IS.push A v pre x a1 (by omega)
    have HR := Lib.hid hr
    have HE0 := AsI.push a0 af a1 a2 a3 a4 a5 hex q1 q2 q3
    have hlt := World.block_lt_of_cell? _ _ a0
    have hf := a1.form
    have HN := Lib.hid hnc
    have c1 := HE0.1
    have f1 := HE0.2.1
    have HE := Lib.hid HE0.2.2
    have hlt1 := World.block_lt_of_cell? _ _ c1
    subst hv'
    clear hr q1 q2 q3 af a1 a2 a3 a4 a5 hex hsub hnc hpre hseq hEnd hA0 HE0
    have HSZ := Lib.hid hsz
    clear hsz
    rcases hf with ⟨rfl, hp0⟩ | ⟨g, cap, rfl⟩
    all_goals
      try clear hp0
      gi_wp2_with (gi_at_builtin; refine wpListIn_append_run rfl (.tmp 8) (.tmp 10) 36 rfl _ _ _ _ rfl rfl HR.out ?_)
      exact ⟨keepsD HE.out.2.2 (by have := HSZ.out; omega) (fun k e => (HN.out k e).2), HE.out.2.1, HE.out.1⟩
  case done =>
    intro D S W hD _ hi hE hK
    obtain ⟨v, a0, af, a1, a2, a3, a4, a5⟩ := hi
    have hlt := World.block_lt_of_cell? _ _ a0
    have HE : Hid (AsPost w S0 End xs (.returned v) (W.putObj D (.deferred none))) := by
      have hc : Ch' D (fun _ => False) W (W.putObj D (.deferred none)) := Ch'.put _ (.inl rfl) hK rfl
      exact ⟨v, rfl, hc.row a1 (fun _ _ e => e), fun k e => Nat.le_of_lt (a2 k e).1, hEnd W D _ _ (by omega) hK rfl hE, hc.tch a5 (by omega) (fun _ _ e => e.elim)⟩
    have hf := a1.form
    clear hseq hEnd hA0 a1 a2 a3 a4 a5 hE hS0 hD
    have HSZ := Lib.hid hsz
    clear hsz
    rcases hf with ⟨rfl, hp0⟩ | ⟨g, cap, rfl⟩
    all_goals
      try clear hp0
      gi_wp2
      refine ⟨by simp, .inl ⟨_, _, rfl, run_takeDeferred hK, ?_⟩⟩
      exact ⟨_, results_tmp (t := 4) rfl _ _ _, HE.out⟩
  case stop =>
    intro D c S pre W _ _ h _
    exact h.elim
theorem collect_any (gf : Nat) (fa lb : Array Value) (eg : ∀ args w, (callFunc gf args).run Try.prog w = .ok (.enter gf args) w) (xs : List Int) (S0 : Nat → Prop) (End : World → Prop) (w : World) (hsm : xs.length ≤ 100000)
    (hS0 : ∀ k, S0 k → k < w.heap.size) (hseq : SeqH Fence.wide 4 Try.prog gf fa lb xs S0 End w) (hEnd : ∀ (A : World) (l : Nat) (o o' : Obj), w.heap.size ≤ l → A.heap[l]? = some o → o.isCells = false → End A → End (A.putObj l o')) :
    Calls Try.prog 45 #[.func (.func gf) fa lb] w (AsPost w S0 End xs) := by
  have H := Lib.hid (callsIn_wide.1 (appendSeq_in 5 (by omega) gf fa lb eg xs S0 End w hsm hS0 hseq hEnd))
  clear hseq hEnd hS0
  go_enter Try.func45, Try.ntmps45
  go_wp2_with fail
  refine H.out.mono ?_
  rintro e w1 h
  obtain ⟨v, rfl, h⟩ := h
  have HP := Lib.hid h
  clear h
  go_wp2
  go_ret
  exact ⟨v, rfl, HP.out⟩
end Go.Proofs.Ytmciiobncfchlaa
