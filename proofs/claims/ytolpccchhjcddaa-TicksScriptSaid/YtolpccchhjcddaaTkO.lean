
/- popUntil's iterator. -/
import Derived.Test.YtolpccchhjcddaaTkN
namespace Go.Proofs.Ytolpccchhjcddaa
open Go.RowKit Go.Shelf
attribute [local go_sem] Oper.semAt_some

def hlen (hb ho : Nat) (w : World) : Nat := match w.cell? ⟨hb, ho, none⟩ with
  | some (.slice _ n _) => n
  | _ => 0
theorem hlen_of {w : World} {hb ho : Nat} {v : Value} {l : List Tm} (h : Hv w hb ho v l) : hlen hb ho w = l.length := by
  unfold hlen
  rw [h.hd]
  rcases h.form with ⟨rfl, rfl⟩ | ⟨g, cap, rfl, _⟩ <;> rfl
def due (t : Int) (s : List Tm) : List Tm := s.takeWhile fun x => decide (x.1 ≤ t)
def late (t : Int) (s : List Tm) : List Tm := s.dropWhile fun x => decide (x.1 ≤ t)
def PopEnd (w : World) (hb ho : Nat) (v : Value) (rest : List Tm) (W : World) : Prop := ∃ v' l', Hv W hb ho v' l' ∧ v'.ownBlock = v.ownBlock ∧ Hs l' rest ∧ Side hb ho w W
def Sp (pb ab hb : Nat) (v : Value) : Nat → Prop := fun k => k = pb ∨ k = ab ∨ Of hb v k
def New (A B : World) (S : Nat → Prop) : Nat → Prop := fun k => S k ∨ (A.heap.size ≤ k ∧ k < B.heap.size)

theorem due_cons_le {t : Int} {x : Tm} {r : List Tm} (h : x.1 ≤ t) : due t (x :: r) = x :: due t r ∧ late t (x :: r) = late t r := by
  unfold due late
  rw [List.takeWhile_cons, List.dropWhile_cons, if_pos (by simpa using h), if_pos (by simpa using h)]; exact ⟨rfl, rfl⟩
theorem due_cons_gt {t : Int} {x : Tm} {r : List Tm} (h : ¬ x.1 ≤ t) : due t (x :: r) = [] ∧ late t (x :: r) = x :: r := by
  unfold due late
  rw [List.takeWhile_cons, List.dropWhile_cons, if_neg (by simpa using h), if_neg (by simpa using h)]; exact ⟨rfl, rfl⟩
/-- What holds between two rounds. -/
def PopRel (w : World) (pb ab hb ho : Nat) (v : Value) (t : Int) (s : List Tm) (J : (Nat → Prop) → List Tm → World → Prop) (S : Nat → Prop) (pre rest : List Tm) (v' : Value) (l' : List Tm) (wr : World) : Prop :=
  J S pre wr ∧ (∀ k, Sp pb ab hb v k → S k) ∧ (∀ k, S k → k < wr.heap.size) ∧ pre ++ due t rest = due t s ∧ late t rest = late t s ∧ rest.length ≤ 100000 ∧ Hv wr hb ho v' l' ∧ v'.ownBlock = v.ownBlock ∧ Hs l' rest ∧ Side hb ho w wr ∧
      wr.cell? ⟨pb, 0, none⟩ = some (.pointer (some ⟨hb, ho, none⟩)) ∧ wr.cell? ⟨ab, 0, none⟩ = some (.int .i64 t)
theorem KpS.cell {S : Nat → Prop} {A B : World} (h : KpS S A B) {k o : Nat} (hk : S k) : B.cell? ⟨k, o, none⟩ = A.cell? ⟨k, o, none⟩ := World.cell?_of_block (h.same k hk)
theorem KpS.froz {S : Nat → Prop} {A B : World} (h : KpS S A B) {k o : Nat} (hk : S k) : B.frozen? ⟨k, o, none⟩ = A.frozen? ⟨k, o, none⟩ := World.frozen?_of_block (h.same k hk)
theorem KpS.hp {S : Nat → Prop} {A B : World} (h : KpS S A B) {hb ho g cap : Nat} {l : List Tm} (hp : HpAt A hb ho g cap l) (h1 : S hb) (h2 : S g) : HpAt B hb ho g cap l :=
  ⟨(h.cell h1).trans hp.hd, (h.froz h1).trans hp.hf, hp.row.kept (h.same g h2), hp.ne⟩
/-- One pop, and the round that it is handed to. -/
theorem PopRel.popped {w wr w1 : World} {pb ab hb ho g cap : Nat} {v : Value} {t : Int} {s : List Tm} {J : (Nat → Prop) → List Tm → World → Prop} {S : Nat → Prop} {pre r : List Tm} {x : Tm} {l' : List Tm}
    (h : PopRel w pb ab hb ho v t s J S pre (x :: r) (.slice (some ⟨g, 0, none⟩) l'.length cap) l' wr) (hpn : ¬ Of hb v pb) (han : ¬ Of hb v ab) (hx : x.1 ≤ t) (hp : PopH wr hb ho g cap r w1)
    (hJ : ∀ S S' pre A B, J S pre A → Tch S A B → (∀ k, S k → S' k) → (∀ k, S' k → S k ∨ A.heap.size ≤ k) → (∀ k, S' k → k < B.heap.size) → J S' pre B) :
    ∃ S' l'', J S' pre w1 ∧ (∀ k, Sp pb ab hb v k → S' k) ∧ (∀ k, S' k → k < w1.heap.size) ∧ (pre ++ [x]) <+: due t s ∧ l''.length = r.length ∧
      (∀ w2, J S' (pre ++ [x]) w2 → KpS S' w1 w2 → PopRel w pb ab hb ho v t s J S' (pre ++ [x]) r (.slice (some ⟨g, 0, none⟩) l''.length cap) l'' w2) := by
  obtain ⟨r1, r2, r3, r4, r5, r6, r7, r8, r9, r10, r11, r12⟩ := h
  obtain ⟨l'', p1, p2, p3, p4⟩ := hp
  have hg : v.ownBlock = some g := by rw [← r8]; rfl
  have hSg : S g := r2 g (.inr (.inr (.inr hg)))
  have hSh : S hb := r2 hb (.inr (.inr (.inl rfl)))
  have ht : Tch S wr w1 := p3.mono fun k _ e => by rcases e with rfl | rfl <;> assumption
  obtain ⟨d1, d2⟩ := due_cons_le (r := r) hx
  rw [d1] at r4
  rw [d2] at r5
  have hpb : pb ≠ hb ∧ pb ≠ g := ⟨fun e => hpn (.inl e), fun e => hpn (.inr (by rw [e]; exact hg))⟩
  have hab : ab ≠ hb ∧ ab ≠ g := ⟨fun e => han (.inl e), fun e => han (.inr (by rw [e]; exact hg))⟩
  have lp := World.block_lt_of_cell? _ _ r11
  have la := World.block_lt_of_cell? _ _ r12
  have cp : w1.cell? ⟨pb, 0, none⟩ = some (.pointer (some ⟨hb, ho, none⟩)) := (p3.cell lp (fun e => e.elim hpb.1 hpb.2)).trans r11
  have ca : w1.cell? ⟨ab, 0, none⟩ = some (.int .i64 t) := (p3.cell la (fun e => e.elim hab.1 hab.2)).trans r12
  refine ⟨New wr w1 S, l'', hJ S (New wr w1 S) pre wr w1 r1 ht (fun k e => .inl e) (fun k e => e.elim .inl (fun e => .inr e.1)) (fun k e => e.elim (fun e => Nat.lt_of_lt_of_le (r3 k e) ht.size) (fun e => e.2)), fun k e => .inl (r2 k e), fun k e => ?_, ⟨due t r, by rw [← r4]; simp⟩, p2.len, fun w2 j2 k2 => ?_⟩
  · rcases e with e | e
    · exact Nat.lt_of_lt_of_le (r3 k e) ht.size
    · exact e.2
  · refine ⟨j2, fun k e => .inl (r2 k e), fun k e => ?_, by rw [← r4]; simp, r5, by simp at r6; omega, (k2.hp p1 (.inl hSh) (.inl hSg)).v, hg.symm ▸ rfl, p2, ?_, ?_, ?_⟩
    · rcases e with e | e
      · exact Nat.lt_of_lt_of_le (r3 k e) (Nat.le_trans ht.size k2.size)
      · exact Nat.lt_of_lt_of_le e.2 k2.size
    · exact (r10.trans p4).trans fun o _ => ⟨k2.cell (.inl hSh), k2.froz (.inl hSh)⟩
    · exact (k2.cell (.inl (r2 pb (.inl rfl)))).trans cp
    · exact (k2.cell (.inl (r2 ab (.inr (.inl rfl))))).trans ca

theorem PopRel.nw {w wr w1 : World} {pb ab hb ho : Nat} {v v' : Value} {t : Int} {s : List Tm} {J : (Nat → Prop) → List Tm → World → Prop} {S : Nat → Prop} {pre rest l' : List Tm}
    (h : PopRel w pb ab hb ho v t s J S pre rest v' l' wr) (k : Nw wr w1) (hJ : ∀ S S' pre A B, J S pre A → Tch S A B → (∀ k, S k → S' k) → (∀ k, S' k → S k ∨ A.heap.size ≤ k) → (∀ k, S' k → k < B.heap.size) → J S' pre B) : PopRel w pb ab hb ho v t s J S pre rest v' l' w1 := by
  obtain ⟨r1, r2, r3, r4, r5, r6, r7, r8, r9, r10, r11, r12⟩ := h
  exact ⟨hJ S S pre wr w1 r1 (Tch.nw k) (fun _ e => e) (fun _ e => .inl e) (fun i e => Nat.lt_of_lt_of_le (r3 i e) k.sz), r2, fun i e => Nat.lt_of_lt_of_le (r3 i e) k.sz, r4, r5, r6, r7.nw k, r8, r9, r10.trans (Side.tch (Tch.nw (S := fun _ => False) k) r7.lt (fun e => e)),
    (k.cell (World.block_lt_of_cell? _ _ r11)).trans r11, (k.cell (World.block_lt_of_cell? _ _ r12)).trans r12⟩
theorem PopRel.fin {w wr : World} {pb ab hb ho : Nat} {v v' : Value} {t : Int} {s : List Tm} {J Jx : (Nat → Prop) → List Tm → World → Prop} {S : Nat → Prop} {pre rest l' : List Tm}
    (h : PopRel w pb ab hb ho v t s J S pre rest v' l' wr) (h1 : due t rest = []) (h2 : late t rest = rest) : (∃ S, J S (due t s) wr ∧ PopEnd w hb ho v (late t s) wr) ∨ ∃ S pre, pre <+: due t s ∧ Jx S pre wr := by
  obtain ⟨r1, r2, r3, r4, r5, r6, r7, r8, r9, r10, r11, r12⟩ := h
  rw [h1, List.append_nil] at r4
  rw [h2] at r5
  rw [← r4, ← r5]
  exact .inl ⟨S, r1, v', l', r7, r8, r9, r10⟩
set_option maxRecDepth 100000 in
set_option maxHeartbeats 2000000 in
theorem pop1_in (n : Nat) (hn : 1 ≤ n) (pb ab hb ho : Nat) (v : Value) (l s : List Tm) (t : Int) (w : World)
    (hpb : w.cell? ⟨pb, 0, none⟩ = some (.pointer (some ⟨hb, ho, none⟩))) (hab : w.cell? ⟨ab, 0, none⟩ = some (.int .i64 t)) (hpn : ¬ Of hb v pb) (han : ¬ Of hb v ab) (h : Hv w hb ho v l) (hs : Hs l s) (hsm : s.length ≤ 100000) :
    SeqH Fence.wide n Try.prog 39 #[.pointer (some ⟨pb, 0, none⟩), .pointer (some ⟨ab, 0, none⟩)] (due t s) (Sp pb ab hb v) (PopEnd w hb ho v (late t s)) w := by
  intro L J Jx W hW hJ hJx hY h0
  have H0 : Hid (PopRel w pb ab hb ho v t s J (Sp pb ab hb v) [] s v l W) := by
    have hv := h.nw hW
    refine ⟨h0, fun _ e => e, ?_, rfl, rfl, hsm, hv, rfl, hs, Side.tch (Tch.nw (S := fun _ => False) hW) h.lt (fun e => e), (hW.cell (World.block_lt_of_cell? _ _ hpb)).trans hpb, (hW.cell (World.block_lt_of_cell? _ _ hab)).trans hab⟩
    rintro k (rfl | rfl | rfl | e)
    · exact Nat.lt_of_lt_of_le (World.block_lt_of_cell? _ _ hpb) hW.sz
    · exact Nat.lt_of_lt_of_le (World.block_lt_of_cell? _ _ hab) hW.sz
    · exact hv.lt
    · exact (World.ownsRow.lt hv.row k e).2
  have HN := Lib.hid (And.intro hpn han)
  have HJ := Lib.hid hJ
  have HY := Lib.hid hY
  clear hpb hab hpn han h hs hsm hW hJ hJx hY h0
  have ta := assert_t
  refine callsIn_of_wp Try.func39 rfl trivial ?_ rfl
  simp only [Try.ntmps39, List.size_toArray, List.length_cons, List.length_nil, Nat.reduceAdd, Nat.reduceSub, Array.replicate_succ, Array.replicate_zero, List.push_toArray, List.append_toArray, List.nil_append, List.cons_append]
  gi_wp2
  gi_loopw [4] (fun _ wr => ∃ S pre rest v' l', Hid (PopRel w pb ab hb ho v t s J S pre rest v' l' wr)) (fun _ wr => hlen hb ho wr)
  case atStart => exact ⟨_, _, _, _, _, H0⟩
  case round =>
    obtain ⟨S, pre, rest, v', l', HR⟩ := hrel
    have hd := HR.out.2.2.2.2.2.2.1.hd
    have hl := HR.out.2.2.2.2.2.2.2.2.1.len
    have hf := HR.out.2.2.2.2.2.2.1.form
    have r11 := HR.out.2.2.2.2.2.2.2.2.2.2.1
    have r12 := HR.out.2.2.2.2.2.2.2.2.2.2.2
    have HD := Lib.hid (HR.out.nw (show Nw wr wr.drew from (Nw.refl wr).drewN 1) HJ.out)
    cases rest with
    | nil =>
      have HE := Lib.hid (HD.out.fin (Jx := Jx) rfl rfl)
      have hl0 : l'.length = 0 := by simpa using hl
      rcases hf with ⟨rfl, _⟩ | ⟨g, cap, rfl, _⟩
      · clear hl hl0
        gi_wp2
        gi_region
        all_goals gi_wp2
        all_goals
          go_end0
          exact ⟨⟨_, rfl⟩, HE.out⟩
      · rw [hl0] at hd
        clear hl hl0
        gi_wp2
        gi_region
        all_goals gi_wp2
        all_goals
          go_end0
          exact ⟨⟨_, rfl⟩, HE.out⟩
    | cons x r =>
      rcases hf with ⟨rfl, rfl⟩ | ⟨g, cap, rfl, hp⟩
      · simp at hl
      · have hc0 := (hp.row.cells 0 (by rw [hl]; simp)).1
        rw [HR.out.2.2.2.2.2.2.2.2.1.head, Nat.zero_mul] at hc0
        have HP := Lib.hid hp
        have hl' : l'.length = r.length + 1 := by rw [hl]; rfl
        have Hl := Lib.hid hl'
        rw [hl'] at hd
        clear hp hl hl'
        by_cases hx : x.1 ≤ t
        · have HX := Lib.hid (hpop_any hb ho g cap l' r x wr.drew (HP.out.nw ((Nw.refl wr).drewN 1)) HR.out.2.2.2.2.2.2.2.2.1 (by have := HR.out.2.2.2.2.2.1; simp at this; have := Hl.out; omega))
          have Hx := Lib.hid hx
          gi_wp2
          gi_region
          all_goals gi_wp2
          all_goals
            refine ⟨trivial, (callsIn_wide.2 HX.out).mono ?_⟩
            rintro e w1 ⟨rfl, hp1⟩
            obtain ⟨S', l'', j1, s1, s2, hpre, hlen', hcont⟩ := PopRel.popped HD.out HN.out.1 HN.out.2 Hx.out hp1 HJ.out
            obtain ⟨fn, tmps, assign, body, hy, hR⟩ := HY.out S' pre x w1 j1 s1 s2 hpre
            have HC := Lib.hid hcont
            have HL := Lib.hid hlen'
            have HPre := Lib.hid hpre
            clear j1 s1 s2 hpre hlen' hcont hp1 hc0 hd r11 r12
            gi_wp2
            refine hR.mono ?_
            rintro e w2 (⟨rfl, j2, k2⟩ | ⟨rfl, jx2, _⟩)
            · have H2 := Lib.hid (HC.out w2 j2 k2)
              clear j2 k2 hy hR
              gi_wp2
              go_roundw
              case rel => exact ⟨S', pre ++ [x], r, _, l'', H2⟩
              case measure =>
                rw [hlen_of H2.out.2.2.2.2.2.2.1, hlen_of HR.out.2.2.2.2.2.2.1, HL.out, Hl.out]; omega
            · have H2 := Lib.hid jx2
              clear jx2 hy hR
              gi_wp2
              refine bodyPost_ret (results_none rfl _ _ _) rfl ?_
              exact ⟨⟨_, rfl⟩, .inr ⟨S', pre ++ [x], HPre.out, H2.out⟩⟩
        · have HE := Lib.hid (HD.out.fin (Jx := Jx) (due_cons_gt (r := r) hx).1 (due_cons_gt (r := r) hx).2)
          gi_wp2
          gi_region
          all_goals gi_wp2
          all_goals
            go_end0
            exact ⟨⟨_, rfl⟩, HE.out⟩
end Go.Proofs.Ytolpccchhjcddaa
