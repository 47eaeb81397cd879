
/- Each's iterator. -/
import Derived.Test.YtolpccchhjcddaaTkT
namespace Go.Proofs.Ytolpccchhjcddaa
open Go.RowKit Go.Shelf
attribute [local go_sem] Oper.semAt_some

theorem roundW {n m : Nat} {P : Program} {L l : Nat} {f : FuncId} {tmps : Array Value} {assign body : Code} {w : World} {R : Ending → World → Prop} (h : RoundIn Fence.wide n P L f tmps assign body w R) : RoundIn (Fence.wide.inRound l) m P L f tmps assign body w R :=
  ⟨trivial, fun c cs _ => h.2 c cs (room_wide _)⟩
theorem tch_put {S : Nat → Prop} {A : World} {D : Nat} (o : Obj) (h : S D) : Tch S A (A.putObj D o) := ⟨rfl, rfl, rfl, by simp, fun k _ hk => World.putObj_heap_other (fun e => hk (e ▸ h))⟩
def Se (pc c : Nat) (v : Value) : Nat → Prop := fun k => k = pc ∨ Of c v k
/-- The start of the inner loop. -/
theorem EaI.start {w W w1 w5 : World} {S0 : Nat → Prop} {L pb ab LB : Nat} {v' : Value} {J : (Nat → Prop) → List Tm → World → Prop} (hS0 : ∀ k, S0 k → k < w.heap.size) (hW : Nw w W) (h1 : w1 = W.alloc (.cells #[.func (.yield L) #[] #[]] 70)) (h5 : Nw w1 w5)
    (hJ : ∀ S S' pre A B, J S pre A → Tch S A B → (∀ k, S k → S' k) → (∀ k, S' k → S k ∨ A.heap.size ≤ k) → (∀ k, S' k → k < B.heap.size) → J S' pre B) (h0 : J S0 [] W)
    (hp : ∀ k, Sp pb ab LB v' k → w1.heap.size ≤ k ∧ k < w5.heap.size) : EaI w S0 w5.heap.size W.heap.size L J (Sp pb ab LB v') [] w5 (New W w5 S0) := by
  have s1 : w1.heap.size = W.heap.size + 1 := by rw [h1]; simp
  have n1 : Nw W w1 := by rw [h1]; exact (Nw.refl W).alloc _
  have n5 := n1.trans h5
  have hs := h5.sz
  have hw := hW.sz
  have hc : w1.cell? ⟨W.heap.size, 0, none⟩ = some (.func (.yield L) #[] #[]) := by rw [h1]; simp [go_sem]
  refine ⟨hJ S0 _ [] W w5 h0 (Tch.nw n5) (fun k e => .inl e) (fun k e => e.elim .inl (fun e => .inr e.1)) (fun k e => e.elim (fun e => by have := hS0 k e; omega) (fun e => e.2)), fun k e => .inl e, fun k e => ?_, fun k e => ?_, fun k e hk => ?_, ⟨.inr ⟨Nat.le_refl _, by omega⟩, fun e => ?_, by omega, by omega⟩, (h5.cell (by omega)).trans hc, fun k e => ?_, fun k e => ⟨fun q => ?_, ?_, ?_⟩⟩
  · have := hp k e; exact .inr ⟨by omega, this.2⟩
  · rcases e with e | e
    · have := hS0 k e; omega
    · exact e.2
  · omega
  · have := (hp _ e).1; omega
  · have := hS0 k e
    exact (n5.block k (by omega)).trans (hW.block k this)
  · have := hS0 k e; have := (hp k q).1; omega
  · have := hS0 k e; omega
  · have := hS0 k e; omega

theorem each_boxes {w2 w5 : World} {v' : Value} {l : List Tm} (q1 : TS w2 v' l)
    (hw5 : ((w2.alloc (.cells #[v'] 55)).alloc (.cells #[.pointer (some ⟨w2.heap.size, 0, none⟩)] 59)).alloc (.cells #[.int .i64 9223372036854775807] 2) = w5) :
    w5.heap.size = w2.heap.size + 3 ∧ Nw w2 w5 ∧ Hv w5 w2.heap.size 0 v' l ∧ w5.cell? ⟨w2.heap.size + 1, 0, none⟩ = some (.pointer (some ⟨w2.heap.size, 0, none⟩)) ∧ w5.cell? ⟨w2.heap.size + 1 + 1, 0, none⟩ = some (.int .i64 9223372036854775807) ∧
      (∀ k, Of w2.heap.size v' k → k ≤ w2.heap.size) := by
  have nw : Nw w2 w5 := by rw [← hw5]; exact (((Nw.refl w2).alloc _).alloc _).alloc _
  have own : ∀ k, v'.ownBlock = some k → k < w2.heap.size := fun k e => (World.ownsRow.lt q1 k e).2
  refine ⟨by rw [← hw5]; simp, nw, ⟨by rw [← hw5]; simp [go_sem], by rw [← hw5]; simp [go_sem], q1.nw nw, fun e => by have := own _ e; omega⟩, by rw [← hw5]; simp [go_sem], by rw [← hw5]; simp [go_sem], ?_⟩
  rintro k (rfl | e)
  · exact Nat.le_refl _
  · exact Nat.le_of_lt (own k e)
set_option maxRecDepth 100000 in
set_option maxHeartbeats 4000000 in
theorem each1_in (n : Nat) (hn : 6 ≤ n) (pc c : Nat) (t : Int) (v : Value) (l s : List Tm) (w : World) (hpc : w.cell? ⟨pc, 0, none⟩ = some (.pointer (some ⟨c, 0, none⟩))) (h : Ck w c t v l s) (hsm : s.length ≤ 100000) (hbd : ∀ x ∈ s, x.1 ≤ 9223372036854775807) :
    SeqH Fence.wide n Try.prog 42 #[.pointer (some ⟨pc, 0, none⟩)] s (Se pc c v) (fun W => ∀ k, Se pc c v k → W.heap[k]? = w.heap[k]?) w := by
  intro L J Jx W hW hJ hJx hY h0
  have h1 : 1 ≤ n := by omega
  have hS0 : ∀ k, Se pc c v k → k < w.heap.size := by
    rintro k (rfl | e)
    · exact World.block_lt_of_cell? _ _ hpc
    · exact h.own k e
  have hcW : W.cell? ⟨pc, 0, none⟩ = some (.pointer (some ⟨c, 0, none⟩)) := (hW.cell (World.block_lt_of_cell? _ _ hpc)).trans hpc
  have HC := Lib.hid (h.nw hW)
  have hpl := World.block_lt_of_cell? _ _ hcW
  have hcl := HC.out.lt
  have hself := HC.out.self
  have htm := HC.out.tm.hd
  have hfm := HC.out.tm.form
  have HJ := Lib.hid (And.intro hJ hJx)
  have HY := Lib.hid hY
  have HS := Lib.hid (And.intro hS0 (And.intro hW h0))
  obtain ⟨d1, d2⟩ := due_all s hbd
  have HD := Lib.hid (And.intro d1 d2)
  simp only at hpl
  clear h hpc hJ hJx hY hS0 hW h0 d1 d2 hbd
  refine callsIn_of_wp_marks Try.func42 rfl trivial ?_ rfl
  simp only [Try.ntmps42, List.size_toArray, List.length_cons, List.length_nil, Nat.reduceAdd, Nat.reduceSub, Array.replicate_succ, Array.replicate_zero, List.push_toArray, List.append_toArray, List.nil_append, List.cons_append]
  rcases hfm with ⟨rfl, hl0⟩ | ⟨g, cap, rfl, hl0⟩
  · clear hl0
    gi_wp2_with fail
    refine ⟨trivial, (callsIn_wide.2 (made_yes c _ (by simp [go_sem, *]))).mono ?_⟩
    rintro e w1 ⟨rfl, rfl⟩
    gi_wp2_with fail
    refine ⟨trivial, (callsIn_wide.2 (clone_any c 2 _ l _ ((HC.out.nw ((Nw.refl W).alloc _)).tm) (by rw [HC.out.hs.len]; exact hsm))).mono ?_⟩
    rintro e w2 ⟨v', rfl, q1, q2, q3⟩
    obtain ⟨W1, hW1⟩ : ∃ W1, W.alloc (.cells #[.func (.yield L) #[] #[]] 70) = W1 := ⟨_, rfl⟩
    rw [hW1] at q2 q3
    have HW1 := Lib.hid hW1
    have HQ := Lib.hid (And.intro q1 (And.intro q2 q3))
    have hvf := q1.form
    have hlt2 := q3.sz
    clear q1 q2 q3 hW1
    rcases hvf with ⟨rfl, hv0⟩ | ⟨g2, cap2, rfl, hv0⟩
    · clear hv0
      gi_wp2_with fail
      refine ⟨trivial, (callsIn_wide.2 (popUntil_any _ _ _ _)).mono ?_⟩
      rintro e w4 ⟨rfl, rfl⟩
      gi_wp2
      obtain ⟨w5, hw5⟩ : ∃ w5, ((w2.alloc (.cells #[.slice none 0 0] 55)).alloc (.cells #[.pointer (some ⟨w2.heap.size, 0, none⟩)] 59)).alloc (.cells #[.int .i64 9223372036854775807] 2) = w5 := ⟨_, rfl⟩
      rw [hw5]
      obtain ⟨b1, b2, b3, b4, b5, b6⟩ := each_boxes HQ.out.1 hw5
      have own := HQ.out.2.1
      have sW1 : W1.heap.size = W.heap.size + 1 := by rw [← HW1.out]; simp
      have hSp : ∀ k, Sp (w2.heap.size + 1) (w2.heap.size + 1 + 1) w2.heap.size (.slice none 0 0) k → W1.heap.size ≤ k ∧ k < w5.heap.size := by
        rintro k (rfl | rfl | rfl | e)
        · omega
        · omega
        · omega
        · have := own k e; have := b6 k (.inr e); omega
      have hE0 := EaI.start (LB := w2.heap.size) (v' := .slice none 0 0) HS.out.1 HS.out.2.1 HW1.out.symm (HQ.out.2.2.trans b2) HJ.out.1 HS.out.2.2 hSp
      have HB := Lib.hid (And.intro b1 (And.intro b2 (And.intro b3 (And.intro b4 (And.intro b5 b6)))))
      have hlt5 := b3.lt
      have hpop := pop1_in (n - 1) (by omega) (w2.heap.size + 1) (w2.heap.size + 1 + 1) w2.heap.size 0 (.slice none 0 0) l s 9223372036854775807 w5 b4 b5 (fun e => by have := b6 _ e; omega) (fun e => by have := b6 _ e; omega) b3 HC.out.hs hsm
      have HSp := Lib.hid hSp
      clear hw5 own b1 b2 b3 b4 b5 b6 hSp
      refine rf_law rfl h1 (gf := 39) (lb := #[.pointer (some ⟨w2.heap.size + 1, 0, none⟩), .pointer (some ⟨w2.heap.size + 1 + 1, 0, none⟩)]) rfl trivial e_pop1 (fun k e => (HSp.out k e).2) hpop rfl (popEnd_put hlt5)
        (fun S' pre A => ∃ S, EaI w (Se pc c (.slice none 0 0)) w5.heap.size W.heap.size L J S' pre A S) (fun cd S' pre A => cd = .ret ∧ ∃ S, EaI w (Se pc c (.slice none 0 0)) w5.heap.size W.heap.size L Jx S' pre A S)
        (fun S S' pre A B h hc e1 e2 e3 => by obtain ⟨S2, h⟩ := h; exact ⟨_, h.step HJ.out.1 hc e1 e2 e3⟩) (fun cd S S' pre A B h hc e1 e2 e3 => by obtain ⟨rfl, S2, h⟩ := h; exact ⟨rfl, _, h.step HJ.out.2 hc e1 e2 e3⟩) ⟨_, hE0⟩ 28
        (fun x bx => { tmps := #[.func (.yield L) #[] #[], .pointer (some ⟨pc, 0, none⟩), .pointer (some ⟨W.heap.size, 0, none⟩), .pointer (some ⟨w2.heap.size, 0, none⟩), .pointer (some ⟨bx, 0, none⟩), .pointer (some ⟨c, 0, none⟩), .bool true, .bool false, .pointer (some ⟨c, 0, none⟩), .pointer (some ⟨c, 0, none⟩), .pointer (some ⟨c, 2, none⟩), .slice none 0 0, .slice none 0 0,
            .func (.func 39) #[] #[.pointer (some ⟨w2.heap.size + 1, 0, none⟩), .pointer (some ⟨w2.heap.size + 1 + 1, 0, none⟩)], agT x, undef, undef, undef, undef], defers := [] }) ?assign ?body ?done ?stop
      case assign =>
        intro lp x A K hK
        obtain ⟨x0, x1, x2⟩ := x
        unfold agT at *
        simp only at hK ⊢
        gi_wp2
        exact hK
      case body =>
        intro lp S' pre x bx A hi hsub hex hnb hbl hnc hcx hpre
        obtain ⟨S, hi⟩ := hi
        have c0 : A.cell? ⟨bx, 0, none⟩ = some (.int .i64 x.1) := by rw [cell_of_row A bx 0 _ _ _ hcx]; rfl
        have c1 : A.cell? ⟨bx, 1, none⟩ = some (.int .i64 x.2.1) := by rw [cell_of_row A bx 1 _ _ _ hcx]; rfl
        have c2 : A.cell? ⟨bx, 2, none⟩ = some (.int .i64 x.2.2) := by rw [cell_of_row A bx 2 _ _ _ hcx]; rfl
        rw [HD.out.1] at hpre
        obtain ⟨fn, tmps, assign, body, hy, hR⟩ := HY.out S pre x A hi.j hi.sub0 hi.bound hpre
        have hcell := hi.cell
        have hbk : ∀ i, (i = w5.heap.size ∨ i = w5.heap.size + 1) → i < A.heap.size := fun i e => by
          obtain ⟨_, o, ho, _⟩ := hnc i e; exact (Array.getElem?_eq_some_iff.1 ho).1
        have HI := Lib.hid (And.intro hi hbk)
        clear hi hbk hsub hex hnb hbl hnc hcx hpre hpop hE0
        obtain ⟨x0, x1, x2⟩ := x
        unfold agT at *
        simp only at c0 c1 c2 hy ⊢
        gi_wp2
        refine ⟨fun h => by simp [Fence.wide] at h, (roundW hR).mono ?_⟩
        rintro e B (⟨rfl, j2, k2⟩ | ⟨rfl, jx2, k2⟩)
        · have H2 : Hid (KpD w5.heap.size A B ∧ KpS S' A B ∧ ∃ S, EaI w (Se pc c (.slice none 0 0)) w5.heap.size W.heap.size L J S' (pre ++ [(x0, x1, x2)]) B S) :=
            ⟨fun k e => k2.same k (HI.out.1.book k e (HI.out.2 k e)), k2.mono HI.out.1.sub, S, HI.out.1.round j2 k2 HI.out.2⟩
          clear j2 k2 hy hR hcell c0 c1 c2
          gi_wp2
          exact H2.out
        · have H2 : Hid (KpD w5.heap.size A B ∧ KpS S' A B ∧ ∃ S, EaI w (Se pc c (.slice none 0 0)) w5.heap.size W.heap.size L Jx S' (pre ++ [(x0, x1, x2)]) B S) :=
            ⟨fun k e => k2.same k (HI.out.1.book k e (HI.out.2 k e)), k2.mono HI.out.1.sub, S, HI.out.1.round jx2 k2 HI.out.2⟩
          clear jx2 k2 hy hR hcell c0 c1 c2
          gi_wp2
          exact ⟨H2.out.1, H2.out.2.1, rfl, H2.out.2.2⟩
      case done =>
        intro D S' A hD hbd hi hE hK
        obtain ⟨S, hi⟩ := hi
        have hDl := (Array.getElem?_eq_some_iff.1 hK).1
        have hSD : S D := hi.book D (.inl hD) hDl
        have HP : Hid ((∃ S, J S s (A.putObj D (.deferred none)) ∧ ∀ k, Se pc c (.slice none 0 0) k → (A.putObj D (.deferred none)).heap[k]? = w.heap[k]?) ∨ ∃ S pre, pre <+: s ∧ Jx S pre (A.putObj D (.deferred none))) := by
          have hj := hi.j
          rw [HD.out.1] at hj
          exact .inl ⟨S, HJ.out.1 S S s A _ hj (tch_put _ hSD) (fun _ e => e) (fun _ e => .inl e) (fun k e => by rw [World.putObj_size]; exact hi.bound k e), fun k e => (World.putObj_heap_other (by rw [hD]; exact (hi.apart k e).2.1)).trans (hi.same k e)⟩
        clear hi hE hSD hDl hpop hE0 hbd
        gi_wp2
        refine ⟨by simp, .inl ⟨_, _, rfl, run_takeDeferred hK, ?_⟩⟩
        exact ⟨_, results_none rfl _ _ _, ⟨_, rfl⟩, HP.out⟩
      case stop =>
        intro D cd S' pre A hD hp hi hK
        obtain ⟨rfl, S, hi⟩ := hi
        have hDl := (Array.getElem?_eq_some_iff.1 hK).1
        have hSD : S D := hi.book D (.inl hD) hDl
        have HP : Hid ((∃ S, J S s (A.putObj D (.deferred none)) ∧ ∀ k, Se pc c (.slice none 0 0) k → (A.putObj D (.deferred none)).heap[k]? = w.heap[k]?) ∨ ∃ S pre, pre <+: s ∧ Jx S pre (A.putObj D (.deferred none))) := by
          rw [HD.out.1] at hp
          exact .inr ⟨S, pre, hp, HJ.out.2 S S pre A _ hi.j (tch_put _ hSD) (fun _ e => e) (fun _ e => .inl e) (fun k e => by rw [World.putObj_size]; exact hi.bound k e)⟩
        clear hi hSD hDl hpop hE0 hp
        gi_wp2
        refine ⟨by simp, .inl ⟨_, _, rfl, run_takeDeferred hK, ?_⟩⟩
        exact ⟨_, results_none rfl _ _ _, ⟨_, rfl⟩, HP.out⟩
    · clear hv0
      gi_wp2_with fail
      refine ⟨trivial, (callsIn_wide.2 (popUntil_any _ _ _ _)).mono ?_⟩
      rintro e w4 ⟨rfl, rfl⟩
      gi_wp2
      obtain ⟨w5, hw5⟩ : ∃ w5, ((w2.alloc (.cells #[.slice (some ⟨g2, 0, none⟩) l.length cap2] 55)).alloc (.cells #[.pointer (some ⟨w2.heap.size, 0, none⟩)] 59)).alloc (.cells #[.int .i64 9223372036854775807] 2) = w5 := ⟨_, rfl⟩
      rw [hw5]
      obtain ⟨b1, b2, b3, b4, b5, b6⟩ := each_boxes HQ.out.1 hw5
      have own := HQ.out.2.1
      have sW1 : W1.heap.size = W.heap.size + 1 := by rw [← HW1.out]; simp
      have hSp : ∀ k, Sp (w2.heap.size + 1) (w2.heap.size + 1 + 1) w2.heap.size (.slice (some ⟨g2, 0, none⟩) l.length cap2) k → W1.heap.size ≤ k ∧ k < w5.heap.size := by
        rintro k (rfl | rfl | rfl | e)
        · omega
        · omega
        · omega
        · have := own k e; have := b6 k (.inr e); omega
      have hE0 := EaI.start (LB := w2.heap.size) (v' := .slice (some ⟨g2, 0, none⟩) l.length cap2) HS.out.1 HS.out.2.1 HW1.out.symm (HQ.out.2.2.trans b2) HJ.out.1 HS.out.2.2 hSp
      have HB := Lib.hid (And.intro b1 (And.intro b2 (And.intro b3 (And.intro b4 (And.intro b5 b6)))))
      have hlt5 := b3.lt
      have hpop := pop1_in (n - 1) (by omega) (w2.heap.size + 1) (w2.heap.size + 1 + 1) w2.heap.size 0 (.slice (some ⟨g2, 0, none⟩) l.length cap2) l s 9223372036854775807 w5 b4 b5 (fun e => by have := b6 _ e; omega) (fun e => by have := b6 _ e; omega) b3 HC.out.hs hsm
      have HSp := Lib.hid hSp
      clear hw5 own b1 b2 b3 b4 b5 b6 hSp
      refine rf_law rfl h1 (gf := 39) (lb := #[.pointer (some ⟨w2.heap.size + 1, 0, none⟩), .pointer (some ⟨w2.heap.size + 1 + 1, 0, none⟩)]) rfl trivial e_pop1 (fun k e => (HSp.out k e).2) hpop rfl (popEnd_put hlt5)
        (fun S' pre A => ∃ S, EaI w (Se pc c (.slice none 0 0)) w5.heap.size W.heap.size L J S' pre A S) (fun cd S' pre A => cd = .ret ∧ ∃ S, EaI w (Se pc c (.slice none 0 0)) w5.heap.size W.heap.size L Jx S' pre A S)
        (fun S S' pre A B h hc e1 e2 e3 => by obtain ⟨S2, h⟩ := h; exact ⟨_, h.step HJ.out.1 hc e1 e2 e3⟩) (fun cd S S' pre A B h hc e1 e2 e3 => by obtain ⟨rfl, S2, h⟩ := h; exact ⟨rfl, _, h.step HJ.out.2 hc e1 e2 e3⟩) ⟨_, hE0⟩ 28
        (fun x bx => { tmps := #[.func (.yield L) #[] #[], .pointer (some ⟨pc, 0, none⟩), .pointer (some ⟨W.heap.size, 0, none⟩), .pointer (some ⟨w2.heap.size, 0, none⟩), .pointer (some ⟨bx, 0, none⟩), .pointer (some ⟨c, 0, none⟩), .bool true, .bool false, .pointer (some ⟨c, 0, none⟩), .pointer (some ⟨c, 0, none⟩), .pointer (some ⟨c, 2, none⟩), .slice none 0 0, .slice (some ⟨g2, 0, none⟩) l.length cap2,
            .func (.func 39) #[] #[.pointer (some ⟨w2.heap.size + 1, 0, none⟩), .pointer (some ⟨w2.heap.size + 1 + 1, 0, none⟩)], agT x, undef, undef, undef, undef], defers := [] }) ?assign ?body ?done ?stop
      case assign =>
        intro lp x A K hK
        obtain ⟨x0, x1, x2⟩ := x
        unfold agT at *
        simp only at hK ⊢
        gi_wp2
        exact hK
      case body =>
        intro lp S' pre x bx A hi hsub hex hnb hbl hnc hcx hpre
        obtain ⟨S, hi⟩ := hi
        have c0 : A.cell? ⟨bx, 0, none⟩ = some (.int .i64 x.1) := by rw [cell_of_row A bx 0 _ _ _ hcx]; rfl
        have c1 : A.cell? ⟨bx, 1, none⟩ = some (.int .i64 x.2.1) := by rw [cell_of_row A bx 1 _ _ _ hcx]; rfl
        have c2 : A.cell? ⟨bx, 2, none⟩ = some (.int .i64 x.2.2) := by rw [cell_of_row A bx 2 _ _ _ hcx]; rfl
        rw [HD.out.1] at hpre
        obtain ⟨fn, tmps, assign, body, hy, hR⟩ := HY.out S pre x A hi.j hi.sub0 hi.bound hpre
        have hcell := hi.cell
        have hbk : ∀ i, (i = w5.heap.size ∨ i = w5.heap.size + 1) → i < A.heap.size := fun i e => by
          obtain ⟨_, o, ho, _⟩ := hnc i e; exact (Array.getElem?_eq_some_iff.1 ho).1
        have HI := Lib.hid (And.intro hi hbk)
        clear hi hbk hsub hex hnb hbl hnc hcx hpre hpop hE0
        obtain ⟨x0, x1, x2⟩ := x
        unfold agT at *
        simp only at c0 c1 c2 hy ⊢
        gi_wp2
        refine ⟨fun h => by simp [Fence.wide] at h, (roundW hR).mono ?_⟩
        rintro e B (⟨rfl, j2, k2⟩ | ⟨rfl, jx2, k2⟩)
        · have H2 : Hid (KpD w5.heap.size A B ∧ KpS S' A B ∧ ∃ S, EaI w (Se pc c (.slice none 0 0)) w5.heap.size W.heap.size L J S' (pre ++ [(x0, x1, x2)]) B S) :=
            ⟨fun k e => k2.same k (HI.out.1.book k e (HI.out.2 k e)), k2.mono HI.out.1.sub, S, HI.out.1.round j2 k2 HI.out.2⟩
          clear j2 k2 hy hR hcell c0 c1 c2
          gi_wp2
          exact H2.out
        · have H2 : Hid (KpD w5.heap.size A B ∧ KpS S' A B ∧ ∃ S, EaI w (Se pc c (.slice none 0 0)) w5.heap.size W.heap.size L Jx S' (pre ++ [(x0, x1, x2)]) B S) :=
            ⟨fun k e => k2.same k (HI.out.1.book k e (HI.out.2 k e)), k2.mono HI.out.1.sub, S, HI.out.1.round jx2 k2 HI.out.2⟩
          clear jx2 k2 hy hR hcell c0 c1 c2
          gi_wp2
          exact ⟨H2.out.1, H2.out.2.1, rfl, H2.out.2.2⟩
      case done =>
        intro D S' A hD hbd hi hE hK
        obtain ⟨S, hi⟩ := hi
        have hDl := (Array.getElem?_eq_some_iff.1 hK).1
        have hSD : S D := hi.book D (.inl hD) hDl
        have HP : Hid ((∃ S, J S s (A.putObj D (.deferred none)) ∧ ∀ k, Se pc c (.slice none 0 0) k → (A.putObj D (.deferred none)).heap[k]? = w.heap[k]?) ∨ ∃ S pre, pre <+: s ∧ Jx S pre (A.putObj D (.deferred none))) := by
          have hj := hi.j
          rw [HD.out.1] at hj
          exact .inl ⟨S, HJ.out.1 S S s A _ hj (tch_put _ hSD) (fun _ e => e) (fun _ e => .inl e) (fun k e => by rw [World.putObj_size]; exact hi.bound k e), fun k e => (World.putObj_heap_other (by rw [hD]; exact (hi.apart k e).2.1)).trans (hi.same k e)⟩
        clear hi hE hSD hDl hpop hE0 hbd
        gi_wp2
        refine ⟨by simp, .inl ⟨_, _, rfl, run_takeDeferred hK, ?_⟩⟩
        exact ⟨_, results_none rfl _ _ _, ⟨_, rfl⟩, HP.out⟩
      case stop =>
        intro D cd S' pre A hD hp hi hK
        obtain ⟨rfl, S, hi⟩ := hi
        have hDl := (Array.getElem?_eq_some_iff.1 hK).1
        have hSD : S D := hi.book D (.inl hD) hDl
        have HP : Hid ((∃ S, J S s (A.putObj D (.deferred none)) ∧ ∀ k, Se pc c (.slice none 0 0) k → (A.putObj D (.deferred none)).heap[k]? = w.heap[k]?) ∨ ∃ S pre, pre <+: s ∧ Jx S pre (A.putObj D (.deferred none))) := by
          rw [HD.out.1] at hp
          exact .inr ⟨S, pre, hp, HJ.out.2 S S pre A _ hi.j (tch_put _ hSD) (fun _ e => e) (fun _ e => .inl e) (fun k e => by rw [World.putObj_size]; exact hi.bound k e)⟩
        clear hi hSD hDl hpop hE0 hp
        gi_wp2
        refine ⟨by simp, .inl ⟨_, _, rfl, run_takeDeferred hK, ?_⟩⟩
        exact ⟨_, results_none rfl _ _ _, ⟨_, rfl⟩, HP.out⟩
  · clear hl0
    gi_wp2_with fail
    refine ⟨trivial, (callsIn_wide.2 (made_yes c _ (by simp [go_sem, *]))).mono ?_⟩
    rintro e w1 ⟨rfl, rfl⟩
    gi_wp2_with fail
    refine ⟨trivial, (callsIn_wide.2 (clone_any c 2 _ l _ ((HC.out.nw ((Nw.refl W).alloc _)).tm) (by rw [HC.out.hs.len]; exact hsm))).mono ?_⟩
    rintro e w2 ⟨v', rfl, q1, q2, q3⟩
    obtain ⟨W1, hW1⟩ : ∃ W1, W.alloc (.cells #[.func (.yield L) #[] #[]] 70) = W1 := ⟨_, rfl⟩
    rw [hW1] at q2 q3
    have HW1 := Lib.hid hW1
    have HQ := Lib.hid (And.intro q1 (And.intro q2 q3))
    have hvf := q1.form
    have hlt2 := q3.sz
    clear q1 q2 q3 hW1
    rcases hvf with ⟨rfl, hv0⟩ | ⟨g2, cap2, rfl, hv0⟩
    · clear hv0
      gi_wp2_with fail
      refine ⟨trivial, (callsIn_wide.2 (popUntil_any _ _ _ _)).mono ?_⟩
      rintro e w4 ⟨rfl, rfl⟩
      gi_wp2
      obtain ⟨w5, hw5⟩ : ∃ w5, ((w2.alloc (.cells #[.slice none 0 0] 55)).alloc (.cells #[.pointer (some ⟨w2.heap.size, 0, none⟩)] 59)).alloc (.cells #[.int .i64 9223372036854775807] 2) = w5 := ⟨_, rfl⟩
      rw [hw5]
      obtain ⟨b1, b2, b3, b4, b5, b6⟩ := each_boxes HQ.out.1 hw5
      have own := HQ.out.2.1
      have sW1 : W1.heap.size = W.heap.size + 1 := by rw [← HW1.out]; simp
      have hSp : ∀ k, Sp (w2.heap.size + 1) (w2.heap.size + 1 + 1) w2.heap.size (.slice none 0 0) k → W1.heap.size ≤ k ∧ k < w5.heap.size := by
        rintro k (rfl | rfl | rfl | e)
        · omega
        · omega
        · omega
        · have := own k e; have := b6 k (.inr e); omega
      have hE0 := EaI.start (LB := w2.heap.size) (v' := .slice none 0 0) HS.out.1 HS.out.2.1 HW1.out.symm (HQ.out.2.2.trans b2) HJ.out.1 HS.out.2.2 hSp
      have HB := Lib.hid (And.intro b1 (And.intro b2 (And.intro b3 (And.intro b4 (And.intro b5 b6)))))
      have hlt5 := b3.lt
      have hpop := pop1_in (n - 1) (by omega) (w2.heap.size + 1) (w2.heap.size + 1 + 1) w2.heap.size 0 (.slice none 0 0) l s 9223372036854775807 w5 b4 b5 (fun e => by have := b6 _ e; omega) (fun e => by have := b6 _ e; omega) b3 HC.out.hs hsm
      have HSp := Lib.hid hSp
      clear hw5 own b1 b2 b3 b4 b5 b6 hSp
      refine rf_law rfl h1 (gf := 39) (lb := #[.pointer (some ⟨w2.heap.size + 1, 0, none⟩), .pointer (some ⟨w2.heap.size + 1 + 1, 0, none⟩)]) rfl trivial e_pop1 (fun k e => (HSp.out k e).2) hpop rfl (popEnd_put hlt5)
        (fun S' pre A => ∃ S, EaI w (Se pc c (.slice (some ⟨g, 0, none⟩) l.length cap)) w5.heap.size W.heap.size L J S' pre A S) (fun cd S' pre A => cd = .ret ∧ ∃ S, EaI w (Se pc c (.slice (some ⟨g, 0, none⟩) l.length cap)) w5.heap.size W.heap.size L Jx S' pre A S)
        (fun S S' pre A B h hc e1 e2 e3 => by obtain ⟨S2, h⟩ := h; exact ⟨_, h.step HJ.out.1 hc e1 e2 e3⟩) (fun cd S S' pre A B h hc e1 e2 e3 => by obtain ⟨rfl, S2, h⟩ := h; exact ⟨rfl, _, h.step HJ.out.2 hc e1 e2 e3⟩) ⟨_, hE0⟩ 28
        (fun x bx => { tmps := #[.func (.yield L) #[] #[], .pointer (some ⟨pc, 0, none⟩), .pointer (some ⟨W.heap.size, 0, none⟩), .pointer (some ⟨w2.heap.size, 0, none⟩), .pointer (some ⟨bx, 0, none⟩), .pointer (some ⟨c, 0, none⟩), .bool true, .bool false, .pointer (some ⟨c, 0, none⟩), .pointer (some ⟨c, 0, none⟩), .pointer (some ⟨c, 2, none⟩), .slice (some ⟨g, 0, none⟩) l.length cap, .slice none 0 0,
            .func (.func 39) #[] #[.pointer (some ⟨w2.heap.size + 1, 0, none⟩), .pointer (some ⟨w2.heap.size + 1 + 1, 0, none⟩)], agT x, undef, undef, undef, undef], defers := [] }) ?assign ?body ?done ?stop
      case assign =>
        intro lp x A K hK
        obtain ⟨x0, x1, x2⟩ := x
        unfold agT at *
        simp only at hK ⊢
        gi_wp2
        exact hK
      case body =>
        intro lp S' pre x bx A hi hsub hex hnb hbl hnc hcx hpre
        obtain ⟨S, hi⟩ := hi
        have c0 : A.cell? ⟨bx, 0, none⟩ = some (.int .i64 x.1) := by rw [cell_of_row A bx 0 _ _ _ hcx]; rfl
        have c1 : A.cell? ⟨bx, 1, none⟩ = some (.int .i64 x.2.1) := by rw [cell_of_row A bx 1 _ _ _ hcx]; rfl
        have c2 : A.cell? ⟨bx, 2, none⟩ = some (.int .i64 x.2.2) := by rw [cell_of_row A bx 2 _ _ _ hcx]; rfl
        rw [HD.out.1] at hpre
        obtain ⟨fn, tmps, assign, body, hy, hR⟩ := HY.out S pre x A hi.j hi.sub0 hi.bound hpre
        have hcell := hi.cell
        have hbk : ∀ i, (i = w5.heap.size ∨ i = w5.heap.size + 1) → i < A.heap.size := fun i e => by
          obtain ⟨_, o, ho, _⟩ := hnc i e; exact (Array.getElem?_eq_some_iff.1 ho).1
        have HI := Lib.hid (And.intro hi hbk)
        clear hi hbk hsub hex hnb hbl hnc hcx hpre hpop hE0
        obtain ⟨x0, x1, x2⟩ := x
        unfold agT at *
        simp only at c0 c1 c2 hy ⊢
        gi_wp2
        refine ⟨fun h => by simp [Fence.wide] at h, (roundW hR).mono ?_⟩
        rintro e B (⟨rfl, j2, k2⟩ | ⟨rfl, jx2, k2⟩)
        · have H2 : Hid (KpD w5.heap.size A B ∧ KpS S' A B ∧ ∃ S, EaI w (Se pc c (.slice (some ⟨g, 0, none⟩) l.length cap)) w5.heap.size W.heap.size L J S' (pre ++ [(x0, x1, x2)]) B S) :=
            ⟨fun k e => k2.same k (HI.out.1.book k e (HI.out.2 k e)), k2.mono HI.out.1.sub, S, HI.out.1.round j2 k2 HI.out.2⟩
          clear j2 k2 hy hR hcell c0 c1 c2
          gi_wp2
          exact H2.out
        · have H2 : Hid (KpD w5.heap.size A B ∧ KpS S' A B ∧ ∃ S, EaI w (Se pc c (.slice (some ⟨g, 0, none⟩) l.length cap)) w5.heap.size W.heap.size L Jx S' (pre ++ [(x0, x1, x2)]) B S) :=
            ⟨fun k e => k2.same k (HI.out.1.book k e (HI.out.2 k e)), k2.mono HI.out.1.sub, S, HI.out.1.round jx2 k2 HI.out.2⟩
          clear jx2 k2 hy hR hcell c0 c1 c2
          gi_wp2
          exact ⟨H2.out.1, H2.out.2.1, rfl, H2.out.2.2⟩
      case done =>
        intro D S' A hD hbd hi hE hK
        obtain ⟨S, hi⟩ := hi
        have hDl := (Array.getElem?_eq_some_iff.1 hK).1
        have hSD : S D := hi.book D (.inl hD) hDl
        have HP : Hid ((∃ S, J S s (A.putObj D (.deferred none)) ∧ ∀ k, Se pc c (.slice (some ⟨g, 0, none⟩) l.length cap) k → (A.putObj D (.deferred none)).heap[k]? = w.heap[k]?) ∨ ∃ S pre, pre <+: s ∧ Jx S pre (A.putObj D (.deferred none))) := by
          have hj := hi.j
          rw [HD.out.1] at hj
          exact .inl ⟨S, HJ.out.1 S S s A _ hj (tch_put _ hSD) (fun _ e => e) (fun _ e => .inl e) (fun k e => by rw [World.putObj_size]; exact hi.bound k e), fun k e => (World.putObj_heap_other (by rw [hD]; exact (hi.apart k e).2.1)).trans (hi.same k e)⟩
        clear hi hE hSD hDl hpop hE0 hbd
        gi_wp2
        refine ⟨by simp, .inl ⟨_, _, rfl, run_takeDeferred hK, ?_⟩⟩
        exact ⟨_, results_none rfl _ _ _, ⟨_, rfl⟩, HP.out⟩
      case stop =>
        intro D cd S' pre A hD hp hi hK
        obtain ⟨rfl, S, hi⟩ := hi
        have hDl := (Array.getElem?_eq_some_iff.1 hK).1
        have hSD : S D := hi.book D (.inl hD) hDl
        have HP : Hid ((∃ S, J S s (A.putObj D (.deferred none)) ∧ ∀ k, Se pc c (.slice (some ⟨g, 0, none⟩) l.length cap) k → (A.putObj D (.deferred none)).heap[k]? = w.heap[k]?) ∨ ∃ S pre, pre <+: s ∧ Jx S pre (A.putObj D (.deferred none))) := by
          rw [HD.out.1] at hp
          exact .inr ⟨S, pre, hp, HJ.out.2 S S pre A _ hi.j (tch_put _ hSD) (fun _ e => e) (fun _ e => .inl e) (fun k e => by rw [World.putObj_size]; exact hi.bound k e)⟩
        clear hi hSD hDl hpop hE0 hp
        gi_wp2
        refine ⟨by simp, .inl ⟨_, _, rfl, run_takeDeferred hK, ?_⟩⟩
        exact ⟨_, results_none rfl _ _ _, ⟨_, rfl⟩, HP.out⟩
    · clear hv0
      gi_wp2_with fail
      refine ⟨trivial, (callsIn_wide.2 (popUntil_any _ _ _ _)).mono ?_⟩
      rintro e w4 ⟨rfl, rfl⟩
      gi_wp2
      obtain ⟨w5, hw5⟩ : ∃ w5, ((w2.alloc (.cells #[.slice (some ⟨g2, 0, none⟩) l.length cap2] 55)).alloc (.cells #[.pointer (some ⟨w2.heap.size, 0, none⟩)] 59)).alloc (.cells #[.int .i64 9223372036854775807] 2) = w5 := ⟨_, rfl⟩
      rw [hw5]
      obtain ⟨b1, b2, b3, b4, b5, b6⟩ := each_boxes HQ.out.1 hw5
      have own := HQ.out.2.1
      have sW1 : W1.heap.size = W.heap.size + 1 := by rw [← HW1.out]; simp
      have hSp : ∀ k, Sp (w2.heap.size + 1) (w2.heap.size + 1 + 1) w2.heap.size (.slice (some ⟨g2, 0, none⟩) l.length cap2) k → W1.heap.size ≤ k ∧ k < w5.heap.size := by
        rintro k (rfl | rfl | rfl | e)
        · omega
        · omega
        · omega
        · have := own k e; have := b6 k (.inr e); omega
      have hE0 := EaI.start (LB := w2.heap.size) (v' := .slice (some ⟨g2, 0, none⟩) l.length cap2) HS.out.1 HS.out.2.1 HW1.out.symm (HQ.out.2.2.trans b2) HJ.out.1 HS.out.2.2 hSp
      have HB := Lib.hid (And.intro b1 (And.intro b2 (And.intro b3 (And.intro b4 (And.intro b5 b6)))))
      have hlt5 := b3.lt
      have hpop := pop1_in (n - 1) (by omega) (w2.heap.size + 1) (w2.heap.size + 1 + 1) w2.heap.size 0 (.slice (some ⟨g2, 0, none⟩) l.length cap2) l s 9223372036854775807 w5 b4 b5 (fun e => by have := b6 _ e; omega) (fun e => by have := b6 _ e; omega) b3 HC.out.hs hsm
      have HSp := Lib.hid hSp
      clear hw5 own b1 b2 b3 b4 b5 b6 hSp
      refine rf_law rfl h1 (gf := 39) (lb := #[.pointer (some ⟨w2.heap.size + 1, 0, none⟩), .pointer (some ⟨w2.heap.size + 1 + 1, 0, none⟩)]) rfl trivial e_pop1 (fun k e => (HSp.out k e).2) hpop rfl (popEnd_put hlt5)
        (fun S' pre A => ∃ S, EaI w (Se pc c (.slice (some ⟨g, 0, none⟩) l.length cap)) w5.heap.size W.heap.size L J S' pre A S) (fun cd S' pre A => cd = .ret ∧ ∃ S, EaI w (Se pc c (.slice (some ⟨g, 0, none⟩) l.length cap)) w5.heap.size W.heap.size L Jx S' pre A S)
        (fun S S' pre A B h hc e1 e2 e3 => by obtain ⟨S2, h⟩ := h; exact ⟨_, h.step HJ.out.1 hc e1 e2 e3⟩) (fun cd S S' pre A B h hc e1 e2 e3 => by obtain ⟨rfl, S2, h⟩ := h; exact ⟨rfl, _, h.step HJ.out.2 hc e1 e2 e3⟩) ⟨_, hE0⟩ 28
        (fun x bx => { tmps := #[.func (.yield L) #[] #[], .pointer (some ⟨pc, 0, none⟩), .pointer (some ⟨W.heap.size, 0, none⟩), .pointer (some ⟨w2.heap.size, 0, none⟩), .pointer (some ⟨bx, 0, none⟩), .pointer (some ⟨c, 0, none⟩), .bool true, .bool false, .pointer (some ⟨c, 0, none⟩), .pointer (some ⟨c, 0, none⟩), .pointer (some ⟨c, 2, none⟩), .slice (some ⟨g, 0, none⟩) l.length cap, .slice (some ⟨g2, 0, none⟩) l.length cap2,
            .func (.func 39) #[] #[.pointer (some ⟨w2.heap.size + 1, 0, none⟩), .pointer (some ⟨w2.heap.size + 1 + 1, 0, none⟩)], agT x, undef, undef, undef, undef], defers := [] }) ?assign ?body ?done ?stop
      case assign =>
        intro lp x A K hK
        obtain ⟨x0, x1, x2⟩ := x
        unfold agT at *
        simp only at hK ⊢
        gi_wp2
        exact hK
      case body =>
        intro lp S' pre x bx A hi hsub hex hnb hbl hnc hcx hpre
        obtain ⟨S, hi⟩ := hi
        have c0 : A.cell? ⟨bx, 0, none⟩ = some (.int .i64 x.1) := by rw [cell_of_row A bx 0 _ _ _ hcx]; rfl
        have c1 : A.cell? ⟨bx, 1, none⟩ = some (.int .i64 x.2.1) := by rw [cell_of_row A bx 1 _ _ _ hcx]; rfl
        have c2 : A.cell? ⟨bx, 2, none⟩ = some (.int .i64 x.2.2) := by rw [cell_of_row A bx 2 _ _ _ hcx]; rfl
        rw [HD.out.1] at hpre
        obtain ⟨fn, tmps, assign, body, hy, hR⟩ := HY.out S pre x A hi.j hi.sub0 hi.bound hpre
        have hcell := hi.cell
        have hbk : ∀ i, (i = w5.heap.size ∨ i = w5.heap.size + 1) → i < A.heap.size := fun i e => by
          obtain ⟨_, o, ho, _⟩ := hnc i e; exact (Array.getElem?_eq_some_iff.1 ho).1
        have HI := Lib.hid (And.intro hi hbk)
        clear hi hbk hsub hex hnb hbl hnc hcx hpre hpop hE0
        obtain ⟨x0, x1, x2⟩ := x
        unfold agT at *
        simp only at c0 c1 c2 hy ⊢
        gi_wp2
        refine ⟨fun h => by simp [Fence.wide] at h, (roundW hR).mono ?_⟩
        rintro e B (⟨rfl, j2, k2⟩ | ⟨rfl, jx2, k2⟩)
        · have H2 : Hid (KpD w5.heap.size A B ∧ KpS S' A B ∧ ∃ S, EaI w (Se pc c (.slice (some ⟨g, 0, none⟩) l.length cap)) w5.heap.size W.heap.size L J S' (pre ++ [(x0, x1, x2)]) B S) :=
            ⟨fun k e => k2.same k (HI.out.1.book k e (HI.out.2 k e)), k2.mono HI.out.1.sub, S, HI.out.1.round j2 k2 HI.out.2⟩
          clear j2 k2 hy hR hcell c0 c1 c2
          gi_wp2
          exact H2.out
        · have H2 : Hid (KpD w5.heap.size A B ∧ KpS S' A B ∧ ∃ S, EaI w (Se pc c (.slice (some ⟨g, 0, none⟩) l.length cap)) w5.heap.size W.heap.size L Jx S' (pre ++ [(x0, x1, x2)]) B S) :=
            ⟨fun k e => k2.same k (HI.out.1.book k e (HI.out.2 k e)), k2.mono HI.out.1.sub, S, HI.out.1.round jx2 k2 HI.out.2⟩
          clear jx2 k2 hy hR hcell c0 c1 c2
          gi_wp2
          exact ⟨H2.out.1, H2.out.2.1, rfl, H2.out.2.2⟩
      case done =>
        intro D S' A hD hbd hi hE hK
        obtain ⟨S, hi⟩ := hi
        have hDl := (Array.getElem?_eq_some_iff.1 hK).1
        have hSD : S D := hi.book D (.inl hD) hDl
        have HP : Hid ((∃ S, J S s (A.putObj D (.deferred none)) ∧ ∀ k, Se pc c (.slice (some ⟨g, 0, none⟩) l.length cap) k → (A.putObj D (.deferred none)).heap[k]? = w.heap[k]?) ∨ ∃ S pre, pre <+: s ∧ Jx S pre (A.putObj D (.deferred none))) := by
          have hj := hi.j
          rw [HD.out.1] at hj
          exact .inl ⟨S, HJ.out.1 S S s A _ hj (tch_put _ hSD) (fun _ e => e) (fun _ e => .inl e) (fun k e => by rw [World.putObj_size]; exact hi.bound k e), fun k e => (World.putObj_heap_other (by rw [hD]; exact (hi.apart k e).2.1)).trans (hi.same k e)⟩
        clear hi hE hSD hDl hpop hE0 hbd
        gi_wp2
        refine ⟨by simp, .inl ⟨_, _, rfl, run_takeDeferred hK, ?_⟩⟩
        exact ⟨_, results_none rfl _ _ _, ⟨_, rfl⟩, HP.out⟩
      case stop =>
        intro D cd S' pre A hD hp hi hK
        obtain ⟨rfl, S, hi⟩ := hi
        have hDl := (Array.getElem?_eq_some_iff.1 hK).1
        have hSD : S D := hi.book D (.inl hD) hDl
        have HP : Hid ((∃ S, J S s (A.putObj D (.deferred none)) ∧ ∀ k, Se pc c (.slice (some ⟨g, 0, none⟩) l.length cap) k → (A.putObj D (.deferred none)).heap[k]? = w.heap[k]?) ∨ ∃ S pre, pre <+: s ∧ Jx S pre (A.putObj D (.deferred none))) := by
          rw [HD.out.1] at hp
          exact .inr ⟨S, pre, hp, HJ.out.2 S S pre A _ hi.j (tch_put _ hSD) (fun _ e => e) (fun _ e => .inl e) (fun k e => by rw [World.putObj_size]; exact hi.bound k e)⟩
        clear hi hSD hDl hpop hE0 hp
        gi_wp2
        refine ⟨by simp, .inl ⟨_, _, rfl, run_takeDeferred hK, ?_⟩⟩
        exact ⟨_, results_none rfl _ _ _, ⟨_, rfl⟩, HP.out⟩
end Go.Proofs.Ytolpccchhjcddaa
