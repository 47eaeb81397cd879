
/- popUntil, AppendSeq, Collect. -/
import Derived.Test.YtolpccchhjcddaaTkO
namespace Go.Proofs.Ytolpccchhjcddaa
open Go.RowKit Go.Shelf
attribute [local go_sem] Oper.semAt_some

theorem cell_isCells {w : World} {a : Addr} {v : Value} (h : w.cell? a = some v) : ∃ o : Obj, w.heap[a.block]? = some o ∧ o.isCells = true := by
  unfold World.cell? at h
  cases ho : w.heap[a.block]? with
  | none => simp [ho] at h
  | some o => exact ⟨o, rfl, by cases o <;> simp_all [Obj.isCells]⟩
theorem Ch'.same {n₀ : Nat} {S : Nat → Prop} {A B : World} {a : Addr} {v : Value} (h : Ch' n₀ S A B) (hc : A.cell? a = some v) (hn : ¬ S a.block) : B.heap[a.block]? = A.heap[a.block]? := by
  obtain ⟨o, ho, hco⟩ := cell_isCells hc
  rcases h.block a.block (Array.getElem?_eq_some_iff.1 ho).1 hn with e | ⟨_, o', ho', hc'⟩
  · exact e
  · rw [ho] at ho'; cases ho'; rw [hco] at hc'; cases hc'
theorem Ch'.hv {n₀ : Nat} {S : Nat → Prop} {A B : World} {hb ho : Nat} {v : Value} {l : List Tm} (h : Ch' n₀ S A B) (k : Hv A hb ho v l) (h1 : ¬ S hb) (h2 : ∀ g, v.ownBlock = some g → ¬ S g) : Hv B hb ho v l := by
  have e := h.same k.hd h1
  exact ⟨(World.cell?_of_block e).trans k.hd, (World.frozen?_of_block e).trans k.hf, h.row k.row h2, k.ne⟩
theorem SeqH.later {F : Fence} {n : Nat} {P : Program} {g : Nat} {lb : Array Value} {xs : List Tm} {S0 : Nat → Prop} {End : World → Prop} {w w' : World} (h : SeqH F n P g lb xs S0 End w) (k : Nw w w') : SeqH F n P g lb xs S0 End w' :=
  fun l J Jx W hW => h l J Jx W (k.trans hW)

theorem popUntil_any (hb ho : Nat) (t : Int) (w : World) : Calls Try.prog 30 #[.pointer (some ⟨hb, ho, none⟩), .int .i64 t] w fun e w' =>
    e = .returned (.func (.func 39) #[] #[.pointer (some ⟨w.heap.size, 0, none⟩), .pointer (some ⟨w.heap.size + 1, 0, none⟩)]) ∧ w' = (w.alloc (.cells #[.pointer (some ⟨hb, ho, none⟩)] 59)).alloc (.cells #[.int .i64 t] 2) := by
  go_enter Try.func30, Try.ntmps30
  go_wp2
  go_ret
  exact ⟨rfl, rfl⟩

theorem wpListIn_append_run {F : Fence} {n : Nat} {P : Program} {w : World} {ops : Array Oper} {rest : List Oper} {o : Oper} {a : Act} {Q : Exit → Act → World → Prop}
    (hg : o.guard = none) (s x : Operand) (t : TypeId) (hop : o.op = Op.call { callee := Callee.builtin Builtin.append, args := #[s, x], argTypes := #[t, t] })
    (v u v' : Value) (w' : World) (hs : a.eval s = v) (hx : a.eval x = u) (hr : (Builtin.append_ #[t, t] o.type #[v, u]).run P w = .ok v' w') (h : wpListIn F n P ops Q rest (a.put o.dst v') w') : wpListIn F n P ops Q (o :: rest) a w := by
  refine wpListIn_plain hg fun K hK' => ?_
  unfold Oper.wpIn
  refine ⟨?_, ?_⟩
  · simp [Oper.about, hop, resolve, Target.leads, Sem.run_pure]
  · rw [Oper.semAt_plain F _ _ (by rw [hop]; intro c hc'; cases hc')]
    simp [execOp, hop, resolve, invoke, builtin, hs, hx, hr, Result.andThen]
    exact hK' _ _ h
theorem keepsD {a n₀ : Nat} {A B : World} (h : KeepsFrom a A B) (k : a ≤ n₀) (hn : ∀ k, (k = n₀ ∨ k = n₀ + 1) → ∃ o, A.heap[k]? = some o ∧ o.isCells = false) : KpD n₀ A B := fun i hi => by
  obtain ⟨o, ho, hc⟩ := hn i hi
  exact (h.same i o (by omega) ho hc).trans ho.symm
/-- What AppendSeq holds between two rounds. -/
def AsI (w : World) (S0 : Nat → Prop) (S : Nat → Prop) (pre : List Tm) (A : World) : Prop :=
  ∃ v, Hv A w.heap.size 0 v pre ∧ (∀ k, v.ownBlock = some k → w.heap.size ≤ k ∧ ¬ S k) ∧ ¬ S w.heap.size ∧ (∀ k, S k → S0 k ∨ w.heap.size ≤ k) ∧ Tch S0 w A
theorem AsI.step {w : World} {n₀ : Nat} {S0 S S' : Nat → Prop} {pre : List Tm} {A B : World} (hn : w.heap.size ≤ n₀) (h : AsI w S0 S pre A) (k : Ch' n₀ S A B) (_h1 : ∀ k, S k → S' k) (h2 : ∀ k, S' k → S k ∨ A.heap.size ≤ k) : AsI w S0 S' pre B := by
  obtain ⟨v, a1, a2, a3, a4, a5⟩ := h
  refine ⟨v, k.hv a1 a3 (fun g e => (a2 g e).2), fun g e => ⟨(a2 g e).1, fun hs => ?_⟩, fun hs => ?_, fun i hs => ?_, k.tch a5 hn (fun i hi hs => (a4 i hs).resolve_right (by omega))⟩
  · rcases h2 g hs with h | h
    · exact (a2 g e).2 h
    · have := (World.ownsRow.lt a1.row g e).2; omega
  · rcases h2 _ hs with h | h
    · exact a3 h
    · have := a1.lt; omega
  · rcases h2 i hs with h | h
    · exact a4 i h
    · exact .inr (Nat.le_trans a5.size h)
/-- An append in a round. -/
theorem AsI.push {w : World} {S0 S : Nat → Prop} {pre : List Tm} {x : Tm} {A B : World} {v : Value} (a1 : Hv A w.heap.size 0 v pre) (a2 : ∀ k, v.ownBlock = some k → w.heap.size ≤ k ∧ ¬ S k) (a3 : ¬ S w.heap.size) (a4 : ∀ k, S k → S0 k ∨ w.heap.size ≤ k) (a5 : Tch S0 w A)
    (hex : ∀ k, S k → k < A.heap.size) (hp : PushM A w.heap.size 0 v (pre ++ [x]) B) : AsI w S0 S (pre ++ [x]) B ∧ KpS S A B ∧ KeepsFrom w.heap.size A B := by
  obtain ⟨g', cap', p1, p2, p3, p4⟩ := hp
  have hne : ∀ k, Of w.heap.size v k → ¬ S k := by
    rintro k (rfl | e)
    · exact a3
    · exact (a2 k e).2
  refine ⟨⟨_, p1.v, fun k e => ?_, a3, a4, a5.trans' p3 fun i hi e => ?_⟩, KpS.tch p3 fun k e => ⟨hex k e, fun q => hne k q e⟩, ⟨p3.size, fun k o hk h0 ho => ?_⟩⟩
  · simp [Value.ownBlock] at e
    subst e
    rcases p2 with e | e
    · exact a2 _ e.symm
    · exact ⟨Nat.le_trans a5.size e, fun q => by have := hex _ q; omega⟩
  · rcases e with rfl | e
    · omega
    · have := (a2 i e).1; omega
  · refine (p3.block k (Array.getElem?_eq_some_iff.1 h0).1 ?_).trans h0
    rintro (rfl | e)
    · obtain ⟨o', ho', hc'⟩ := cell_isCells a1.hd
      rw [h0] at ho'; cases ho'; rw [ho] at hc'; cases hc'
    · rcases a1.form with ⟨rfl, _⟩ | ⟨g, cap, rfl, hp⟩
      · simp [Value.ownBlock] at e
      · rcases hp.row.2 with ⟨h', _⟩ | ⟨g2, cap2, cur, h', _, hg, _⟩
        · simp at h'
        · simp only [Value.slice.injEq, Option.some.injEq, Addr.mk.injEq, and_true, true_and] at h'
          obtain ⟨rfl, rfl⟩ := h'
          simp [Value.ownBlock] at e
          subst e
          rw [h0] at hg; cases hg; cases ho
def AsPost (w : World) (S0 : Nat → Prop) (End : World → Prop) (xs : List Tm) (e : Ending) (W : World) : Prop :=
  ∃ v, e = .returned v ∧ W.ownsRow 0 28 3 v xs.length (trows xs) ∧ (∀ k, v.ownBlock = some k → w.heap.size ≤ k) ∧ End W ∧ Tch S0 w W

set_option maxRecDepth 100000 in
set_option maxHeartbeats 4000000 in
theorem appendSeq_in (n : Nat) (hn : 3 ≤ n) (gf : Nat) (lb : Array Value) (eg : ∀ args w, (callFunc gf args).run Try.prog w = .ok (.enter gf args) w) (xs : List Tm) (S0 : Nat → Prop) (End : World → Prop) (w : World) (hsm : xs.length ≤ 100000)
    (hS0 : ∀ k, S0 k → k < w.heap.size) (hseq : SeqH Fence.wide (n - 1) Try.prog gf lb xs S0 End w) (hEnd : ∀ (A : World) (l : Nat) (o o' : Obj), w.heap.size ≤ l → A.heap[l]? = some o → o.isCells = false → End A → End (A.putObj l o')) :
    CallsIn Fence.wide n Try.prog 38 #[.slice none 0 0, .func (.func gf) #[] lb] w (AsPost w S0 End xs) := by
  have h1 : 1 ≤ n := by omega
  refine callsIn_of_wp_marks Try.func38 rfl trivial ?_ rfl
  simp only [Try.ntmps38, List.size_toArray, List.length_cons, List.length_nil, Nat.reduceAdd, Nat.reduceSub, Array.replicate_succ, Array.replicate_zero, List.push_toArray, List.append_toArray, List.nil_append, List.cons_append]
  gi_wp2
  have hA0 : AsI w S0 S0 [] (w.alloc (.cells #[.slice none 0 0] 31)) :=
    ⟨.slice none 0 0, ⟨by simp [go_sem], by simp [go_sem], World.ownsRow_nil _ _ _ _, by simp [Value.ownBlock]⟩, fun k e => by simp [Value.ownBlock] at e, fun e => by have := hS0 _ e; omega, fun k e => .inl e, (Tch.refl _ _).alloc _⟩
  have hsz : (w.alloc (.cells #[.slice none 0 0] 31)).heap.size = w.heap.size + 1 := by simp
  have hnw : Nw w (w.alloc (.cells #[.slice none 0 0] 31)) := (Nw.refl w).alloc _
  obtain ⟨W0, hW0⟩ : ∃ W0, w.alloc (.cells #[.slice none 0 0] 31) = W0 := ⟨_, rfl⟩
  rw [hW0] at hA0 hsz hnw ⊢
  clear hW0
  refine rf_law rfl h1 (gf := gf) (lb := lb) rfl trivial eg (S0 := S0) (End := End) (xs := xs) (fun k e => by have := hS0 k e; omega) (hseq.later hnw) rfl (fun A l o o' hl => hEnd A l o o' (by omega))
    (AsI w S0) (fun _ _ _ _ => False) (fun S S' pre A B hi hc e1 e2 _ => hi.step (by omega) hc e1 e2) (fun _ _ _ _ _ _ h _ _ _ _ => h) hA0 28
    (fun x bx => { tmps := #[.slice none 0 0, .func (.func gf) #[] lb, .pointer (some ⟨w.heap.size, 0, none⟩), undef, .slice none 0 0, .pointer (some ⟨bx, 0, none⟩), .func (.func gf) #[] lb, agT x, undef, undef, undef, undef, undef], defers := [] }) ?assign ?body ?done ?stop
  case assign =>
    intro l x A K hK
    obtain ⟨x0, x1, x2⟩ := x
    unfold agT at *
    simp only at hK ⊢
    gi_wp2
    exact hK
  case body =>
    intro l S pre x bx A hi hsub hex hnb hbl hnc hcx hpre
    obtain ⟨v, a1, a2, a3, a4, a5⟩ := hi
    have c0 : A.cell? ⟨bx, 0, none⟩ = some (.int .i64 x.1) := by rw [cell_of_row A bx 0 _ _ _ hcx]; rfl
    have c1 : A.cell? ⟨bx, 1, none⟩ = some (.int .i64 x.2.1) := by rw [cell_of_row A bx 1 _ _ _ hcx]; rfl
    have c2 : A.cell? ⟨bx, 2, none⟩ = some (.int .i64 x.2.2) := by rw [cell_of_row A bx 2 _ _ _ hcx]; rfl
    have hln : pre.length + 1 ≤ xs.length := by have := hpre.length_le; simpa using this
    obtain ⟨g', cap', w1, hr, hcc, hff, hp⟩ := append_at 31 31 Try.underlying31 A (A.alloc (.cells #[.int .i64 x.1, .int .i64 x.2.1, .int .i64 x.2.2] 28)) w.heap.size 0 v pre x a1 (by omega)
      ((Nw.refl A).alloc _) (by simp) (box_cells A x _)
    have HR := Lib.hid hr
    have HE := Lib.hid (AsI.push a1 a2 a3 a4 a5 hex hp)
    have hd := a1.hd
    have hlt := a1.lt
    have hf := a1.form
    have HN := Lib.hid hnc
    clear hr hp a1 a2 a3 a4 a5 hex hsub hnb hnc hcx hpre hseq hEnd hA0
    obtain ⟨x0, x1, x2⟩ := x
    unfold agT
    simp only at c0 c1 c2 HR ⊢
    rcases hf with ⟨rfl, hp0⟩ | ⟨g, cap, rfl, hp0⟩
    all_goals
      clear hp0
      gi_wp2_with (gi_at_builtin; refine wpListIn_append_run rfl (.tmp 8) (.tmp 10) 31 rfl _ _ _ _ rfl rfl HR.out ?_)
      exact ⟨keepsD HE.out.2.2 (by omega) (fun k e => (HN.out k e).2), HE.out.2.1, HE.out.1⟩
  case done =>
    intro D S W hD _ hi hE hK
    obtain ⟨v, a1, a2, a3, a4, a5⟩ := hi
    have hlt := a1.lt
    have HE : Hid (AsPost w S0 End xs (.returned v) (W.putObj D (.deferred none))) := by
      have hc : Ch' D (fun _ => False) W (W.putObj D (.deferred none)) := Ch'.put _ (.inl rfl) hK rfl
      exact ⟨v, rfl, hc.row a1.row (fun _ _ e => e), fun k e => (a2 k e).1, hEnd W D _ _ (by omega) hK rfl hE, hc.tch a5 (by omega) (fun _ _ e => e.elim)⟩
    have hd := a1.hd
    have hf := a1.form
    clear hseq hEnd hA0 a1 a2 a3 a4 a5 hE hS0
    rcases hf with ⟨rfl, hp0⟩ | ⟨g, cap, rfl, hp0⟩
    all_goals
      clear hp0
      gi_wp2
      refine ⟨by simp, .inl ⟨_, _, rfl, run_takeDeferred hK, ?_⟩⟩
      exact ⟨_, results_tmp (t := 4) rfl _ _ _, HE.out⟩
  case stop =>
    intro D c S pre W _ _ h _
    exact h.elim
end Go.Proofs.Ytolpccchhjcddaa
