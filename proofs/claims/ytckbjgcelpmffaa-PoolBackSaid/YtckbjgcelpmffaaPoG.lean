
/- A pool: Each and its iterator. -/
import Derived.Test.YtckbjgcelpmffaaPoE
import Derived.Test.YtckbjgcelpmffaaPoRE
namespace Go.Proofs.Ytckbjgcelpmffaa
open Go.RowKit Go.Shelf
set_option linter.unusedVariables false
attribute [local go_sem] Oper.semAt_some

/-- A value that reads as a row of truths of the call's own. -/
abbrev BS (w : World) (v : Value) (L : List Bool) : Prop := w.ownsRow 0 4 1 v L.length (L.map Value.bool)
theorem BS.form {w : World} {v : Value} {l : List Bool} (h : BS w v l) : (v = .slice none 0 0 ∧ l = []) ∨ ∃ g cap, v = .slice (some ⟨g, 0, none⟩) l.length cap := by
  rcases h.2 with ⟨rfl, h0⟩ | ⟨g, cap, cur, rfl, _⟩
  · exact .inl ⟨rfl, List.length_eq_zero_iff.1 h0⟩
  · exact .inr ⟨g, cap, rfl⟩
theorem BS.cell {w : World} {g cap : Nat} {l : List Bool} (h : BS w (.slice (some ⟨g, 0, none⟩) l.length cap) l) (i : Nat) (hi : i < l.length) : w.cell? ⟨g, i, none⟩ = some (.bool (l.getD i false)) :=
  (World.ownsRow.cellAt h i (by omega)).trans (by simp [List.getD, hi])
theorem beql_nil (a : Option Addr) (n c : Nat) (w : World) : Sem.run Try.prog (binOp .eql 42 (.slice a n c) (.slice none 0 0)) w = .ok (.bool a.isNone) w := by
  have h : ∀ d : Nat, (Op.equalIn (d + 1) 42 (.slice a n c) (.slice none 0 0)).run Try.prog w = .ok a.isNone w := fun d => by
    cases a <;> simp [Op.equalIn, run_underlying Try.underlying42]
  simp only [binOp]
  simp [Op.equal, Op.maxDepth, h 9999]
theorem bempty_row (w : World) : (w.alloc (.cells #[] 4)).ownsRow 0 4 1 (.slice (some ⟨w.heap.size, 0, none⟩) 0 0) 0 [] :=
  World.ownsRow_lit w #[] 0 (Nat.zero_le _) (Nat.zero_le _) rfl
/-- The copy of a row that append makes of an empty slice. -/
theorem bclone_run (g : Nat) (L : List Bool) (w : World) (hc : ∀ i, i < L.length → w.cell? ⟨g, i, none⟩ = some (.bool (L.getD i false))) (hg : g < w.heap.size) (hsm : L.length ≤ 1000) :
    ∃ v' w1, (Builtin.append_ #[42, 42] 42 #[.slice (some ⟨w.heap.size, 0, none⟩) 0 0, .slice (some ⟨g, 0, none⟩) L.length L.length]).run Try.prog (w.alloc (.cells #[] 4)) = .ok v' w1 ∧
      BS w1 v' L ∧ (∀ k, v'.ownBlock = some k → w.heap.size ≤ k) ∧ Nw w w1 := by
  obtain ⟨i0, hi, hz0, hz1, hz2⟩ := info_parts infoB
  have c : ∀ j u, (L.map Value.bool)[j]? = some u → (w.alloc (.cells #[] 4)).cell? ((⟨g, 0, none⟩ : Addr).add j) = some u := fun j u hu => by
    have hj : j < L.length := by
      rcases Nat.lt_or_ge j L.length with q | q
      · exact q
      · rw [List.getElem?_eq_none (by simpa using q)] at hu; cases hu
    have e : u = .bool (L.getD j false) := by
      rw [List.getElem?_map, List.getElem?_eq_getElem hj] at hu
      rw [getD_at hj]
      exact (Option.some.inj hu).symm
    subst e
    have := (((Nw.refl w).alloc (.cells #[] 4)).cell (o := j) hg).trans (hc j hj)
    rw [show (⟨g, 0, none⟩ : Addr).add j = ⟨g, j, none⟩ by cases j <;> simp [Addr.add]]
    exact this
  obtain ⟨v', w1, hrun, ho, hgr, hp⟩ := run_append_fresh (P := Try.prog) (w.alloc (.cells #[] 4)) 0 42 42 4 i0 _ 1 1 Try.underlying42 hi hz0 hz1 hz2 rfl (by decide) _ 0 [] (bempty_row w)
    ⟨g, 0, none⟩ L.length L.length (L.map Value.bool) (by simp) c (by
      intro u hu
      obtain ⟨x, _, rfl⟩ := List.mem_map.1 hu
      rfl) (by unfold maxLen; omega) (by omega) (Nat.zero_le _)
  rw [Nat.zero_add, List.nil_append] at ho
  refine ⟨v', w1, hrun, ho, fun k e => ?_, ?_⟩
  · rcases hp with q | q
    · rw [q] at e; simp [Value.ownBlock] at e; omega
    · rw [q] at e; simp at e; omega
  · exact (Tch.grown (S := fun _ => False) (Tch.nw ((Nw.refl w).alloc _)) hgr (fun k e => by simp [Value.ownBlock] at e; exact .inr (by omega))).toNw
theorem bclone_any (g : Nat) (L : List Bool) (w : World) (hc : ∀ i, i < L.length → w.cell? ⟨g, i, none⟩ = some (.bool (L.getD i false))) (hg : g < w.heap.size) (hsm : L.length ≤ 1000) :
    Calls Try.prog 33 #[.slice (some ⟨g, 0, none⟩) L.length L.length] w fun e W => ∃ v', e = .returned v' ∧ BS W v' L ∧ (∀ k, v'.ownBlock = some k → w.heap.size ≤ k) ∧ Nw w W := by
  have en := beql_nil
  obtain ⟨v', w1, hr, q1, q2, q3⟩ := bclone_run g L w hc hg hsm
  have HR := Lib.hid hr
  have HQ := Lib.hid (And.intro q1 (And.intro q2 q3))
  clear hr q1 q2 q3 hc
  go_enter Try.func33, Try.ntmps33
  go_wp2_with (at_builtin; refine pwpList_append_run (by rfl) (.tmp 5) (.tmp 6) 42 rfl _ _ _ _ rfl rfl HR.out ?_)
  go_ret
  exact ⟨v', rfl, HQ.out⟩
theorem peach_any (p : Option Addr) (w : World) : Calls Try.prog 29 #[.pointer p] w fun e w' =>
    e = .returned (.func (.func 32) #[] #[.pointer (some ⟨w.heap.size, 0, none⟩)]) ∧ w' = w.alloc (.cells #[.pointer p] 23) := by
  go_enter Try.func29, Try.ntmps29
  go_wp2
  go_ret
  exact ⟨rfl, rfl⟩
theorem lntT_pre (L : List Bool) : ∀ d k, castL (lntT L k) <+: castL (lntT L (k + d))
  | 0, k => List.prefix_refl _
  | d + 1, k => by
    refine (lntT_pre L d k).trans ?_
    rw [show k + (d + 1) = k + d + 1 by omega, lntI_succ]
    exact List.prefix_append _ _
theorem lnt_pre (L : List Bool) {k : Nat} (h : k ≤ L.length) : castL (lntT L k) <+: castL (lnt L) := by
  have := lntT_pre L (L.length - k) k
  rwa [show k + (L.length - k) = L.length by omega] at this
set_option maxRecDepth 100000 in
set_option maxHeartbeats 4000000 in
theorem peach1_in (n : Nat) (hn : 5 ≤ n) (pc p : Nat) (L : List Bool) (F : Nat → Prop) (w : World) (hpc : w.cell? ⟨pc, 0, none⟩ = some (.pointer (some ⟨p, 0, none⟩))) (h : Pol w p L F) :
    SeqI Fence.wide n Try.prog 32 #[.pointer (some ⟨pc, 0, none⟩)] (castL (lnt L)) w := by
  intro l J Jx W hW hY h0
  have h1 : 1 ≤ n := by omega
  have hcW : W.cell? ⟨pc, 0, none⟩ = some (.pointer (some ⟨p, 0, none⟩)) := (hW.cell (World.block_lt_of_cell? _ _ hpc)).trans hpc
  obtain ⟨g, v, hl, hP, rfl⟩ := h.nw hW
  have HP := Lib.hid hP
  have hr := hP.row
  have hsz := hP.sz
  have HY := Lib.hid hY
  have H0 := Lib.hid h0
  clear hpc hW hY h0 h hP
  refine callsIn_of_wp Try.func32 rfl trivial ?_ rfl
  simp only [Try.ntmps32, List.size_toArray, List.length_cons, List.length_nil, Nat.reduceAdd, Nat.reduceSub, Array.replicate_succ, Array.replicate_zero, List.push_toArray, List.append_toArray, List.nil_append, List.cons_append]
  gi_wp2_with fail
  refine ⟨trivial, (callsIn_wide.2 (pmade_yes p _ HP.out.self)).mono ?_⟩
  rintro e w1 ⟨rfl, rfl⟩
  gi_wp2_with fail
  refine ⟨trivial, (callsIn_wide.2 (bclone_any g L _ (fun i hi => (HP.out.cells i hi).1) HP.out.gl (by omega))).mono ?_⟩
  rintro e w2 ⟨v', rfl, q1, q2, q3⟩
  have HS := Lib.hid (H0.out (fun k => v'.ownBlock = some k) w2 q3 (fun k e => ⟨q2 k e, (World.ownsRow.lt q1 k e).2⟩))
  have HQ := Lib.hid (And.intro q1 (And.intro q2 q3))
  obtain ⟨ao, cap, hv, hao⟩ : ∃ ao cap, v' = .slice ao L.length cap ∧ (0 < L.length → ∃ c, ao = some ⟨c, 0, none⟩ ∧ ∀ W : World, W.heap[c]? = w2.heap[c]? → ∀ i, i < L.length → W.cell? ⟨c, i, none⟩ = some (.bool (L.getD i false))) := by
    rcases q1.form with ⟨rfl, rfl⟩ | ⟨c, cap, rfl⟩
    · exact ⟨none, 0, rfl, fun h => by simp at h⟩
    · exact ⟨_, cap, rfl, fun _ => ⟨c, rfl, fun W hW i hi => (World.cell?_of_block hW).trans (BS.cell q1 i hi)⟩⟩
  have HAO := Lib.hid hao
  clear q1 q2 q3 hao hr
  rw [hv]
  obtain ⟨N, hN⟩ : ∃ N, L.length = N := ⟨_, rfl⟩
  rw [hN] at hv hsz HAO ⊢
  have HV := Lib.hid hv
  have HN := Lib.hid hN
  clear hv hN
  gi_wp2
  gi_loopw [14] (fun i wr => ∃ k : Nat, k ≤ N ∧ i = .int .i64 k ∧ Hid (J (fun k => v'.ownBlock = some k) (castL (lntT L k)) wr ∧ KpI (fun k => v'.ownBlock = some k) w2 wr)) (fun i _ => N - (intOf i).toNat)
  case atStart => exact ⟨0, Nat.zero_le _, rfl, HS.out, KpI.refl _ _⟩
  case round =>
    obtain ⟨k, hk, rfl, HJ⟩ := hrel
    by_cases hlt : k < N
    · obtain ⟨c, rfl, hc⟩ := HAO.out (by omega)
      have hcell := hc wr (HJ.out.2.same c (by rw [HV.out]; rfl)) k hlt
      have hlti : (k : Int) < (N : Int) := by omega
      have hS := lntI_succ L k
      have hp := lnt_pre L (show k + 1 ≤ L.length by rw [HN.out]; omega)
      cases hb : L.getD k false with
      | true =>
        rw [hb] at hcell hS
        simp only [if_true] at hS
        rw [hS] at hp
        have HT := Lib.hid hS
        have HPP := Lib.hid hp
        obtain ⟨fn, tmps, assign, body, hy, hR⟩ := HY.out _ _ k wr HJ.out.1 hp
        clear hS hp hc hb
        gi_wp2
        refine hR.mono ?_
        rintro e w3 (⟨rfl, j2, j3⟩ | ⟨rfl, jx2, jx3⟩)
        · have H2 := Lib.hid (And.intro j2 (HJ.out.2.trans j3))
          clear j2 j3 hy hR
          gi_wp2
          go_roundw
          case rel => exact ⟨k + 1, by omega, by go_num, by rw [HT.out]; exact H2⟩
          case measure => simp [intOf]; omega
        · have H2 := Lib.hid jx2
          clear jx2 jx3 hy hR
          gi_wp2
          refine bodyPost_ret (results_none rfl _ _ _) rfl ?_
          exact ⟨⟨_, rfl⟩, _, .inr ⟨_, HPP.out, H2.out⟩⟩
      | false =>
        rw [hb] at hcell hS
        simp only [Bool.false_eq_true, if_false, List.append_nil] at hS
        have HT := Lib.hid hS
        clear hS hp hc hb
        gi_wp2
        refine ⟨(fun f e => by cases e), ?_⟩
        gi_wp2
        go_roundw
        case rel => exact ⟨k + 1, by omega, by go_num, by rw [HT.out]; exact HJ⟩
        case measure => simp [intOf]; omega
    · obtain rfl : k = N := by omega
      gi_wp2
      go_end0
      exact ⟨⟨_, rfl⟩, _, .inl (by have := HJ.out.1; rw [← HN.out] at this; exact this)⟩
end Go.Proofs.Ytckbjgcelpmffaa
