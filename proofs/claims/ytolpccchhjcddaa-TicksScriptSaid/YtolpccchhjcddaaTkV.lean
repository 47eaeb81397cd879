
/- What the law's own loop over Each collects. -/
import Derived.Test.YtolpccchhjcddaaTkU
namespace Go.Proofs.Ytolpccchhjcddaa
open Go.RowKit Go.Shelf
attribute [local go_sem] Oper.semAt_some

theorem e_each1 : ∀ args w, (callFunc 42 args).run Try.prog w = .ok (.enter 42 args) w := enters_of Try.func42 (by kernel_rfl) rfl
theorem eql_fn (f : Fn) (a b : Array Value) (w : World) : Sem.run Try.prog (binOp .eql 62 (.func f a b) .nilFunc) w = .ok (.bool false) w := by
  have h : ∀ d : Nat, (Op.equalIn (d + 1) 62 (.func f a b) .nilFunc).run Try.prog w = .ok false w := fun d => by
    simp [Op.equalIn, run_underlying Try.underlying62]
  simp only [binOp]
  simp [Op.equal, Op.maxDepth, h 9999]

def TmPost (w : World) (s : List Tm) (e : Ending) (W : World) : Prop := ∃ v, e = .returned (.tuple #[v, .bool true]) ∧ TS W v s ∧ (∀ k, v.ownBlock = some k → w.heap.size ≤ k) ∧ Nw w W
/-- The law's own boxes, and the iterator's. -/
theorem tm_boxes (c most : Nat) (w wO w0 : World) (hO : (((w.alloc (.cells #[.int .i64 most] 3)).alloc (.cells #[.slice none 0 0] 31)).alloc (.cells #[.bool false] 4)).alloc (.cells #[.pointer (some ⟨c, 0, none⟩)] 23) = wO)
    (h0 : wO.alloc (.cells #[.slice none 0 0] 31) = w0) :
    wO.heap.size = w.heap.size + 1 + 1 + 1 + 1 ∧ Nw w wO ∧ Nw wO w0 ∧ wO.cell? ⟨w.heap.size, 0, none⟩ = some (.int .i64 most) ∧ (wO.cell? ⟨w.heap.size + 1, 0, none⟩ = some (.slice none 0 0) ∧ wO.frozen? ⟨w.heap.size + 1, 0, none⟩ = false) ∧
      (wO.cell? ⟨w.heap.size + 1 + 1, 0, none⟩ = some (.bool false) ∧ wO.frozen? ⟨w.heap.size + 1 + 1, 0, none⟩ = false) ∧ wO.cell? ⟨w.heap.size + 1 + 1 + 1, 0, none⟩ = some (.pointer (some ⟨c, 0, none⟩)) ∧
      w0.cell? ⟨wO.heap.size, 0, none⟩ = some (.slice none 0 0) ∧ w0.frozen? ⟨wO.heap.size, 0, none⟩ = false := by
  subst h0
  subst hO
  refine ⟨by simp, (((Nw.refl w).alloc _).alloc _).alloc _ |>.alloc _, (Nw.refl _).alloc _, ?_, ⟨?_, ?_⟩, ⟨?_, ?_⟩, ?_, ?_, ?_⟩ <;> simp [go_sem]
theorem tm_end {w wO w0 W : World} {S0 S : Nat → Prop} {s : List Tm} {v : Value} {O D : Nat} (hO : wO.heap.size = O) (hOw : O = w.heap.size + 1 + 1 + 1 + 1) (n1 : Nw w wO) (n2 : Nw wO w0) (hS0 : ∀ k, S0 k → k < wO.heap.size)
    (a1 : Hv W O 0 v s) (a2 : ∀ k, v.ownBlock = some k → O ≤ k ∧ ¬ S k) (a5 : Tch S0 wO W) (hE : ∀ k, S0 k → W.heap[k]? = w0.heap[k]?) (hD : w0.heap.size ≤ D) (hK : W.heap[D]? = some (.deferred (some [])))
    (r1 : wO.cell? ⟨w.heap.size + 1, 0, none⟩ = some (.slice none 0 0)) (r2 : wO.cell? ⟨w.heap.size + 1 + 1, 0, none⟩ = some (.bool false)) :
    TmPost w s (.returned (.tuple #[v, .bool true])) (((W.setCell ⟨w.heap.size + 1, 0, none⟩ v).setCell ⟨w.heap.size + 1 + 1, 0, none⟩ (.bool true)).putObj D (.deferred none)) ∧
    (((W.setCell ⟨w.heap.size + 1, 0, none⟩ v).setCell ⟨w.heap.size + 1 + 1, 0, none⟩ (.bool true)).putObj D (.deferred none)).cell? ⟨w.heap.size + 1, 0, none⟩ = some v ∧
    (((W.setCell ⟨w.heap.size + 1, 0, none⟩ v).setCell ⟨w.heap.size + 1 + 1, 0, none⟩ (.bool true)).putObj D (.deferred none)).cell? ⟨w.heap.size + 1 + 1, 0, none⟩ = some (.bool true) ∧
    ((W.setCell ⟨w.heap.size + 1, 0, none⟩ v).setCell ⟨w.heap.size + 1 + 1, 0, none⟩ (.bool true)).heap[D]? = some (.deferred (some [])) := by
  have n3 : Nw wO W := ⟨a5.os, a5.tape, a5.output, a5.size, fun k hk => by
    by_cases e : S0 k
    · exact (hE k e).trans (n2.block k (hS0 k e))
    · exact a5.block k hk e⟩
  have hs2 := n2.sz
  have c1 := (n3.cell (by omega)).trans r1
  have c2 := (n3.cell (by omega)).trans r2
  have t1 : Tch (fun k => k = w.heap.size + 1 ∨ k = w.heap.size + 1 + 1) W ((W.setCell ⟨w.heap.size + 1, 0, none⟩ v).setCell ⟨w.heap.size + 1 + 1, 0, none⟩ (.bool true)) :=
    Tch.set (S := fun k => k = w.heap.size + 1 ∨ k = w.heap.size + 1 + 1) (p := ⟨w.heap.size + 1 + 1, 0, none⟩) (Tch.set (S := fun k => k = w.heap.size + 1 ∨ k = w.heap.size + 1 + 1) (p := ⟨w.heap.size + 1, 0, none⟩) (Tch.refl _ W) (.inl (.inl rfl)) v) (.inl (.inr rfl)) _
  have hDW := (Array.getElem?_eq_some_iff.1 hK).1
  have hK2 : ((W.setCell ⟨w.heap.size + 1, 0, none⟩ v).setCell ⟨w.heap.size + 1 + 1, 0, none⟩ (.bool true)).heap[D]? = some (.deferred (some [])) := (t1.block D hDW (fun e => by omega)).trans hK
  have ts : TS ((W.setCell ⟨w.heap.size + 1, 0, none⟩ v).setCell ⟨w.heap.size + 1 + 1, 0, none⟩ (.bool true)) v s := TS.tch (w := W) a1.row t1 (fun g e => by have := (a2 g e).1; omega)
  have hc : Ch' D (fun _ => False) _ (((W.setCell ⟨w.heap.size + 1, 0, none⟩ v).setCell ⟨w.heap.size + 1 + 1, 0, none⟩ (.bool true)).putObj D (.deferred none)) := Ch'.put _ (.inl rfl) hK2 rfl
  have d1 : (((W.setCell ⟨w.heap.size + 1, 0, none⟩ v).setCell ⟨w.heap.size + 1 + 1, 0, none⟩ (.bool true)).putObj D (.deferred none)).heap[w.heap.size + 1]? = ((W.setCell ⟨w.heap.size + 1, 0, none⟩ v).setCell ⟨w.heap.size + 1 + 1, 0, none⟩ (.bool true)).heap[w.heap.size + 1]? := World.putObj_heap_other (by omega)
  have d2 : (((W.setCell ⟨w.heap.size + 1, 0, none⟩ v).setCell ⟨w.heap.size + 1 + 1, 0, none⟩ (.bool true)).putObj D (.deferred none)).heap[w.heap.size + 1 + 1]? = ((W.setCell ⟨w.heap.size + 1, 0, none⟩ v).setCell ⟨w.heap.size + 1 + 1, 0, none⟩ (.bool true)).heap[w.heap.size + 1 + 1]? := World.putObj_heap_other (by omega)
  refine ⟨⟨v, rfl, hc.row ts (fun _ _ e => e), fun k e => by have := (a2 k e).1; omega, ?_⟩, (World.cell?_of_block d1).trans ?_, (World.cell?_of_block d2).trans ?_, hK2⟩
  · have t2 := hc.tch (T := fun k => k = w.heap.size + 1 ∨ k = w.heap.size + 1 + 1) (w := W) (n₀ := D) t1
    refine Tch.toNw ((Tch.nw (S := fun _ => False) (n1.trans n3)).trans' (S' := fun k => k = w.heap.size + 1 ∨ k = w.heap.size + 1 + 1 ∨ k = D) ?_ (fun i hi e => by omega))
    exact (t1.mono (fun k _ e => by omega)).trans (tch_put _ (.inr (.inr rfl)))
  · rw [World.cell?_setCell_other _ _ _ _ (by simp)]; exact World.cell?_setCell_same _ _ _ c1
  · exact World.cell?_setCell_same _ _ _ (by rw [World.cell?_setCell_other _ _ _ _ (by simp)]; exact c2)
set_option maxRecDepth 100000 in
set_option maxHeartbeats 4000000 in
theorem timers_in (n : Nat) (hn : 9 ≤ n) (c : Nat) (t : Int) (v0 : Value) (l s : List Tm) (most : Nat) (w : World) (h : Ck w c t v0 l s) (hsm : s.length ≤ most) (hm : most ≤ 100000) (hbd : ∀ x ∈ s, x.1 ≤ 9223372036854775807) :
    CallsIn Fence.wide n Try.prog 22 #[.pointer (some ⟨c, 0, none⟩), .int .i64 most] w (TmPost w s) := by
  have h1 : 1 ≤ n := by omega
  have HC := Lib.hid h
  have hcl := h.lt
  have en := eql_fn
  clear h
  refine callsIn_of_wp_marks Try.func22 rfl trivial ?_ rfl
  simp only [Try.ntmps22, List.size_toArray, List.length_cons, List.length_nil, Nat.reduceAdd, Nat.reduceSub, Array.replicate_succ, Array.replicate_zero, List.push_toArray, List.append_toArray, List.nil_append, List.cons_append]
  gi_wp2_with fail
  refine ⟨trivial, (callsIn_wide.2 (each_any c _)).mono ?_⟩
  rintro e w1 ⟨rfl, rfl⟩
  gi_wp2
  obtain ⟨wO, hwO⟩ : ∃ wO, (((w.alloc (.cells #[.int .i64 most] 3)).alloc (.cells #[.slice none 0 0] 31)).alloc (.cells #[.bool false] 4)).alloc (.cells #[.pointer (some ⟨c, 0, none⟩)] 23) = wO := ⟨_, rfl⟩
  rw [hwO]
  obtain ⟨w0, hw0⟩ : ∃ w0, wO.alloc (.cells #[.slice none 0 0] 31) = w0 := ⟨_, rfl⟩
  rw [hw0]
  obtain ⟨b1, b2, b3, b4, b5, b6, b7, b8, b9⟩ := tm_boxes c most w wO w0 hwO hw0
  have sz0 : w0.heap.size = wO.heap.size + 1 := by rw [← hw0]; simp
  have HB := Lib.hid (And.intro b1 (And.intro b2 (And.intro b3 (And.intro b4 (And.intro b5 (And.intro b6 b7))))))
  have hS0 : ∀ k, Se (w.heap.size + 1 + 1 + 1) c v0 k → k < wO.heap.size := by
    rintro k (rfl | e)
    · omega
    · have := HC.out.own k e; omega
  have hA0 : AsI wO (Se (w.heap.size + 1 + 1 + 1) c v0) (Se (w.heap.size + 1 + 1 + 1) c v0) [] w0 :=
    ⟨.slice none 0 0, ⟨b8, b9, World.ownsRow_nil _ _ _ _, by simp [Value.ownBlock]⟩, fun k e => by simp [Value.ownBlock] at e, fun e => by have := hS0 _ e; omega, fun k e => .inl e, Tch.nw b3⟩
  have hsq := each1_in (n - 1) (by omega) (w.heap.size + 1 + 1 + 1) c t v0 l s w0 ((b3.cell (by omega)).trans b7) (HC.out.nw (b2.trans b3)) (by omega) hbd
  have HSS := Lib.hid hS0
  clear hwO hw0 b1 b2 b3 b4 b5 b6 b7 b8 b9
  refine rf_law rfl h1 (gf := 42) (lb := #[.pointer (some ⟨w.heap.size + 1 + 1 + 1, 0, none⟩)]) rfl trivial e_each1 (fun k e => by have := HSS.out k e; omega) hsq rfl
    (fun A lp o o' hl ho hc hE k hk => (World.putObj_heap_other (by have := HSS.out k hk; omega)).trans (hE k hk))
    (AsI wO (Se (w.heap.size + 1 + 1 + 1) c v0)) (fun _ _ _ _ => False) (fun S S' pre A B hi hc e1 e2 _ => hi.step (by omega) hc e1 e2) (fun _ _ _ _ _ _ h _ _ _ _ => h) hA0 28
    (fun x bx => { tmps := #[.pointer (some ⟨c, 0, none⟩), .int .i64 most, undef, .pointer (some ⟨w.heap.size, 0, none⟩), .pointer (some ⟨w.heap.size + 1, 0, none⟩), .pointer (some ⟨w.heap.size + 1 + 1, 0, none⟩), .func (.func 42) #[] #[.pointer (some ⟨w.heap.size + 1 + 1 + 1, 0, none⟩)],
      .pointer (some ⟨w.heap.size + 1 + 1 + 1 + 1, 0, none⟩), .pointer (some ⟨bx, 0, none⟩), .pointer (some ⟨c, 0, none⟩), .func (.func 42) #[] #[.pointer (some ⟨w.heap.size + 1 + 1 + 1, 0, none⟩)], .func (.func 42) #[] #[.pointer (some ⟨w.heap.size + 1 + 1 + 1, 0, none⟩)],
      .bool false, .func (.func 42) #[] #[.pointer (some ⟨w.heap.size + 1 + 1 + 1, 0, none⟩)], agT x, undef, undef, undef, undef, undef, undef, undef, undef, undef], defers := [] }) ?assign ?body ?done ?stop
  case assign =>
    intro lp x A K hK
    obtain ⟨x0, x1, x2⟩ := x
    unfold agT at *
    simp only at hK ⊢
    gi_wp2
    exact hK
  case body =>
    intro lp S pre x bx A hi hsub hex hnb hbl hnc hcx hpre
    obtain ⟨v, a1, a2, a3, a4, a5⟩ := hi
    have c0 : A.cell? ⟨bx, 0, none⟩ = some (.int .i64 x.1) := by rw [cell_of_row A bx 0 _ _ _ hcx]; rfl
    have c1 : A.cell? ⟨bx, 1, none⟩ = some (.int .i64 x.2.1) := by rw [cell_of_row A bx 1 _ _ _ hcx]; rfl
    have c2 : A.cell? ⟨bx, 2, none⟩ = some (.int .i64 x.2.2) := by rw [cell_of_row A bx 2 _ _ _ hcx]; rfl
    have cm : A.cell? ⟨w.heap.size, 0, none⟩ = some (.int .i64 most) := (a5.cell (by have := HB.out.1; omega) (fun e => by
      rcases e with e | e
      · omega
      · have := HC.out.own _ e; omega)).trans HB.out.2.2.2.1
    have hln : pre.length + 1 ≤ s.length := by have := hpre.length_le; simpa using this
    have hlm : ¬ most < pre.length := by omega
    obtain ⟨g', cap', w1, hr, hcc, hff, hp⟩ := append_at 31 31 Try.underlying31 A (A.alloc (.cells #[.int .i64 x.1, .int .i64 x.2.1, .int .i64 x.2.2] 28)) wO.heap.size 0 v pre x a1 (by omega)
      ((Nw.refl A).alloc _) (by simp) (box_cells A x _)
    have HE := Lib.hid (AsI.push a1 a2 a3 a4 a5 hex hp)
    have hd := a1.hd
    have hlt := a1.lt
    have hf := a1.form
    rw [HB.out.1] at hd hlt hcc hff
    have HR := Lib.hid hr
    have HN := Lib.hid hnc
    clear hr hp a1 a2 a3 a4 a5 hex hsub hnb hnc hcx hpre hA0 hsq
    obtain ⟨x0, x1, x2⟩ := x
    unfold agT
    simp only at c0 c1 c2 HR ⊢
    rcases hf with ⟨rfl, hp0⟩ | ⟨g, cap, rfl, hp0⟩
    all_goals
      clear hp0
      gi_wp2_with (gi_at_builtin; refine wpListIn_append_run rfl (.tmp 19) (.tmp 21) 31 rfl _ _ _ _ rfl rfl HR.out ?_)
      rw [← HB.out.1]
      exact ⟨keepsD HE.out.2.2 (by omega) (fun k e => (HN.out k e).2), HE.out.2.1, HE.out.1⟩
  case done =>
    intro D S W hD hbd2 hi hE hK
    obtain ⟨v, a1, a2, a3, a4, a5⟩ := hi
    rw [HB.out.1] at a1
    have hlt := a1.lt
    have hd := a1.hd
    have hf := a1.form
    have r1 := HB.out.2.2.2.2.1
    have r2 := HB.out.2.2.2.2.2.1
    have HT := Lib.hid (tm_end (w := w) (wO := wO) (w0 := w0) (W := W) (S := S) (v := v) (D := D) HB.out.1 rfl HB.out.2.1 HB.out.2.2.1 HSS.out a1 (fun k e => ⟨by have := (a2 k e).1; have := HB.out.1; omega, (a2 k e).2⟩) a5 hE (by omega) hK r1.1 r2.1)
    have n3 : Nw wO W := ⟨a5.os, a5.tape, a5.output, a5.size, fun k hk => by
      by_cases e : Se (w.heap.size + 1 + 1 + 1) c v0 k
      · exact (hE k e).trans (HB.out.2.2.1.block k (HSS.out k e))
      · exact a5.block k hk e⟩
    have hb1 := HB.out.1
    have q1 : W.cell? ⟨w.heap.size + 1, 0, none⟩ = some (.slice none 0 0) := (n3.cell (by omega)).trans r1.1
    have q2 : W.cell? ⟨w.heap.size + 1 + 1, 0, none⟩ = some (.bool false) := (n3.cell (by omega)).trans r2.1
    have f1 : W.frozen? ⟨w.heap.size + 1, 0, none⟩ = false := (World.frozen?_of_block (n3.block _ (by show w.heap.size + 1 < _; omega))).trans r1.2
    have f2 : W.frozen? ⟨w.heap.size + 1 + 1, 0, none⟩ = false := (World.frozen?_of_block (n3.block _ (by show w.heap.size + 1 + 1 < _; omega))).trans r2.2
    clear hbd2 a1 a2 a3 a4 a5 hE r1 r2 hA0 hsq n3 hb1
    rcases hf with ⟨rfl, hp0⟩ | ⟨g, cap, rfl, hp0⟩
    · clear hp0
      gi_wp2
      obtain ⟨t1, t2, t3, t4⟩ := HT.out
      refine ⟨by simp, .inl ⟨_, _, rfl, run_takeDeferred t4, ?_⟩⟩
      exact ⟨.tuple #[.slice none 0 0, .bool true], by simp [results, Try.results22, go_sem, t2, t3], t1⟩
    · clear hp0
      gi_wp2
      obtain ⟨t1, t2, t3, t4⟩ := HT.out
      refine ⟨by simp, .inl ⟨_, _, rfl, run_takeDeferred t4, ?_⟩⟩
      exact ⟨.tuple #[.slice (some ⟨g, 0, none⟩) s.length cap, .bool true], by simp [results, Try.results22, go_sem, t2, t3], t1⟩
  case stop =>
    intro D cd S pre W _ _ h _
    exact h.elim
theorem timers_any (c : Nat) (t : Int) (s : List Tm) (F : Nat → Prop) (most : Nat) (w : World) (h : Clk w c t s F) (hsm : s.length ≤ most) (hm : most ≤ 100000) (hbd : ∀ x ∈ s, x.1 ≤ 9223372036854775807) :
    Calls Try.prog 22 #[.pointer (some ⟨c, 0, none⟩), .int .i64 most] w (TmPost w s) := by
  obtain ⟨v, l, h, rfl⟩ := h
  exact callsIn_wide.1 (timers_in 9 (by omega) c t v l s most w h hsm hm hbd)
end Go.Proofs.Ytolpccchhjcddaa
