
/- ScriptNames: the walk. -/
import Derived.Test.YtmegaipedagcjaaScNmB
namespace Go.Proofs.Ytmegaipedagcjaa.scriptNames
open Go.RowKit Go.Shelf
attribute [local go_sem] Oper.semAt_some
set_option linter.unusedVariables false

/-- What the walk keeps. -/
structure NmS (w : World) (L : List (Nat × Nat × Value)) (b5 b8 b9 b12 : Nat) (z : World) : Prop where
  cv : CV w L z
  sm : SmAt z b5 b8 b9 b12
  r : ∃ b, z.heap[w.heap.size]? = some (.cells #[.bool b] 4 (0, 0))
theorem NmS.nw {w a z : World} {L : List (Nat × Nat × Value)} {b5 b8 b9 b12 : Nat} (h : NmS w L b5 b8 b9 b12 a) (g : Nw a z) : NmS w L b5 b8 b9 b12 z :=
  ⟨CV.step _ _ h.cv g, h.sm.nw g, by obtain ⟨v, hv⟩ := h.r; exact ⟨v, (g.block _ (heap_lt hv)).trans hv⟩⟩

theorem NmS.add6 {w z : World} {L : List (Nat × Nat × Value)} {b5 b8 b9 b12 B : Nat} {v0 v1 v2 v3 v4 v5 : Value} {T : TypeId} (h : NmS w L b5 b8 b9 b12 z) (hB : z.heap[B]? = some (.cells #[v0, v1, v2, v3, v4, v5] T (0, 0))) :
    NmS w (L ++ [(B, 0, v0), (B, 1, v1), (B, 2, v2), (B, 3, v3), (B, 4, v4), (B, 5, v5)]) b5 b8 b9 b12 z := by
  refine ⟨⟨fun x hx => ?_, h.cv.2⟩, h.sm, h.r⟩
  rcases List.mem_append.1 hx with q | q
  · exact h.cv.1 x q
  · simp only [List.mem_cons, List.not_mem_nil, or_false] at q
    rcases q with rfl | rfl | rfl | rfl | rfl | rfl <;> exact heap_cell hB
/-- Between two entries: what was counted. -/
def NmI (z : World) (B : Nat) (pre : List (List UInt8)) (A : World) : Prop := Nw z A ∧ A.heap[B]? = some (.cells #[.int .i64 (pre.length : Int)] 3 (0, 0))
theorem NmI.nw {z A A' : World} {B : Nat} {pre : List (List UInt8)} (h : NmI z B pre A) (g : Nw A A') : NmI z B pre A' := ⟨h.1.trans g, (g.block _ (heap_lt h.2)).trans h.2⟩
theorem NmI.put {z A : World} {pre : List (List UInt8)} {l : Nat} {o : Obj} (o' : Obj) (h : NmI z z.heap.size pre A) (hl : z.heap.size < l) (ho : A.heap[l]? = some o) : NmI z z.heap.size pre (A.putObj l o') :=
  ⟨⟨h.1.os, h.1.tape, h.1.output, by simp; exact h.1.size, fun k hk => (World.putObj_heap_other (by omega)).trans (h.1.block k hk)⟩, (World.putObj_heap_other (by omega)).trans h.2⟩
theorem NmI.count {z A : World} {pre : List (List UInt8)} (x : List UInt8) (h : NmI z z.heap.size pre A) : NmI z z.heap.size (pre ++ [x]) (A.setCell ⟨z.heap.size, 0, none⟩ (.int .i64 ((pre.length : Int) + 1))) := by
  refine ⟨Below.grown h.1 (set_grown A _ _) h.1.sz (fun k hk => Nat.le_of_eq (Option.some.inj hk)), ?_⟩
  have := set_heap (j := 0) (.int .i64 ((pre.length : Int) + 1)) h.2
  rw [this]
  simp
/-- What holds between the operations of the last region. -/
structure NmF (w : World) (L : List (Nat × Nat × Value)) (b5 b8 b9 b12 D : Nat) (z : World) : Prop where
  cv : CV w L z
  sm : SmAt z b5 b8 b9 b12
  r : ∃ b, z.heap[w.heap.size]? = some (.cells #[.bool b] 4 (0, 0))
  d : z.heap[D]? = some (.deferred (some []))
theorem NmF.nw {w a z : World} {L : List (Nat × Nat × Value)} {b5 b8 b9 b12 D : Nat} (h : NmF w L b5 b8 b9 b12 D a) (g : Nw a z) : NmF w L b5 b8 b9 b12 D z :=
  ⟨CV.step _ _ h.cv g, h.sm.nw g, by obtain ⟨v, hv⟩ := h.r; exact ⟨v, (g.block _ (heap_lt hv)).trans hv⟩, (g.block _ (heap_lt h.d)).trans h.d⟩
theorem NmF.set {w a : World} {L : List (Nat × Nat × Value)} {b5 b8 b9 b12 D : Nat} (h : NmF w L b5 b8 b9 b12 D a) (hL : ∀ x ∈ L, ∀ b, x.2.2 ≠ .bool b) (v : Bool) : NmF w L b5 b8 b9 b12 D (a.setCell ⟨w.heap.size, 0, none⟩ (.bool v)) := by
  obtain ⟨b, hb⟩ := h.r
  have old : ∀ {k : Nat} {o : Obj}, k ≠ w.heap.size → a.heap[k]? = some o → (a.setCell ⟨w.heap.size, 0, none⟩ (.bool v)).heap[k]? = some o := fun hk ho => (Below.heap_setCell _ _ _ _ hk).trans ho
  have ne : ∀ {k : Nat} {o : Obj}, a.heap[k]? = some o → o ≠ .cells #[.bool b] 4 (0, 0) → k ≠ w.heap.size := fun ho hne e => by
    subst e
    rw [hb] at ho
    exact hne (Option.some.inj ho).symm
  refine ⟨⟨fun x hx => ?_, h.cv.2.set' (Nat.le_refl _) _⟩, ⟨old (ne h.sm.h9 (by simp)) h.sm.h9, old (ne h.sm.h12 (by simp)) h.sm.h12, old (ne h.sm.h5 (by simp)) h.sm.h5, old (ne h.sm.h8 (by simp)) h.sm.h8⟩, ⟨v, ?_⟩, old (ne h.d (by simp)) h.d⟩
  · have hx2 := h.cv.1 x hx
    have hk : x.1 ≠ w.heap.size := fun e => by
      rw [e, heap_cell hb] at hx2
      rcases Nat.eq_zero_or_pos x.2.1 with q | q
      · rw [q] at hx2
        exact hL x hx b (Option.some.inj hx2).symm
      · rw [Array.getElem?_eq_none (by simp; omega)] at hx2
        cases hx2
    exact (World.cell?_of_block (Below.heap_setCell _ _ _ _ hk)).trans hx2
  · have := set_heap (j := 0) (.bool v) hb
    rw [this]
    simp
def Hd (S : World → Prop) (x : World) : Prop := S x
set_option maxRecDepth 100000 in
set_option maxHeartbeats 4000000 in
theorem names_in (n : Nat) (hn : 12 ≤ n) (w : World) : CallsIn Fence.wide n Try.prog 3 #[] w fun e z => e = .returned (.bool true) ∧ Nw w z := by
  have h1 : 1 ≤ n := by omega
  refine callsIn_of_wp_marks Try.func3 rfl trivial ?_ rfl
  simp only [Try.ntmps3, List.size_toArray, List.length_nil, Nat.reduceSub, Array.replicate_succ, Array.replicate_zero, List.push_toArray, List.append_toArray, List.nil_append, List.cons_append]
  refine wpIn_wide.2 ?_
  go_wp2_with (go_at_call 8; refine (lives_ok _).mono ?_; rintro e w1 ⟨rfl, g1⟩)
  have hr1 : w1.heap[w.heap.size]? = some (.cells #[.bool false] 4 (0, 0)) := (g1.block _ (by simp)).trans (heap_alloc_last w _)
  have hw1 : Nw w w1 := ((Nw.refl w).alloc _).trans g1
  clear g1
  refine (small_any _).mono ?_
  rintro e w2 ⟨b5, b8, b9, b12, rfl, hS2, g2⟩
  have hr2 := (g2.block _ (heap_lt hr1)).trans hr1
  have hw2 := hw1.trans g2
  clear g2 hw1 hr1
  go_wp2_with fail
  obtain ⟨B1, hB1⟩ : ∃ B1, w2.heap.size = B1 := ⟨_, rfl⟩
  obtain ⟨z3, hz3⟩ : ∃ z3, w2.alloc (.cells #[.slice (some ⟨b9, 0, none⟩) 2 2, .slice (some ⟨b12, 0, none⟩) 2 2, .int .i64 2, .int .i64 3, .int .i64 4, .int .i64 0] 28) = z3 := ⟨_, rfl⟩
  have hN3 : NmS w [(B1, 0, .slice (some ⟨b9, 0, none⟩) 2 2), (B1, 1, .slice (some ⟨b12, 0, none⟩) 2 2), (B1, 2, .int .i64 2), (B1, 3, .int .i64 3), (B1, 4, .int .i64 4), (B1, 5, .int .i64 0)] b5 b8 b9 b12 z3 := by
    refine ⟨?_, hS2.nw (by rw [← hz3]; exact (Nw.refl w2).alloc _), _, (by rw [← hz3]; exact alloc_old w2 _ hr2)⟩
    have hh : z3.heap[B1]? = some (.cells #[.slice (some ⟨b9, 0, none⟩) 2 2, .slice (some ⟨b12, 0, none⟩) 2 2, .int .i64 2, .int .i64 3, .int .i64 4, .int .i64 0] 28 (0, 0)) := by rw [← hz3, ← hB1]; exact heap_alloc_last _ _
    have hn : Nw w z3 := by rw [← hz3]; exact hw2.alloc _
    repeat' (first | exact CV.nil hn | refine CV.cons ?_ (heap_cell hh))
  rw [hz3, hB1]
  clear hz3 hB1 hr2 hS2 hw2
  refine (sm_bytes hN3.sm).mono ?_
  rintro e z4 ⟨rfl, g4⟩
  have hN := hN3.nw g4
  clear g4 hN3
  go_wp2_with (first | (go_at_call 11; refine (kitDB_any _).mono ?_; rintro e w' ⟨rfl, hg⟩; replace hN := hN.nw hg; clear hg) | (go_at_call 12; refine (kitT_any _ _).mono ?_; rintro e w' ⟨rfl, hg⟩; replace hN := hN.nw hg; clear hg) | (go_at_call 13; refine (kitR_any _ _ _).mono ?_; rintro e w' ⟨rfl, hg⟩; replace hN := hN.nw hg; clear hg))
  obtain ⟨B5, hB5⟩ : ∃ B5, w'.heap.size = B5 := ⟨_, rfl⟩
  obtain ⟨z6, hz6⟩ : ∃ z6, w'.alloc (.cells #[.int .i64 0, .int .i64 0, .int .i64 0, .int .i64 0, .int .i64 0, .int .i64 0, .int .i64 12, .int .i64 (-1), .int .i64 (-1), .int .i64 0, .int .i64 0, .int .i64 0, .int .i64 1, .int .i64 0, .int .i64 0, .int .i64 0, .int .i64 0, .int .i64 0, .int .i64 2, .int .i64 1, .int .i64 (-1), .int .i64 0, .int .i64 0, .int .i64 0, .int .i64 6, .int .i64 1, .int .i64 1, .int .i64 0, .int .i64 0, .int .i64 0, .int .i64 9, .int .i64 1, .int .i64 (-1), .int .i64 0, .int .i64 0, .int .i64 0, .int .i64 2, .int .i64 1, .int .i64 1, .int .i64 3, .int .i64 0, .int .i64 0, .int .i64 2, .int .i64 1, .int .i64 1, .int .i64 0, .int .i64 1, .int .i64 0, .int .i64 10, .int .i64 1, .int .i64 (-1), .int .i64 0, .int .i64 0, .int .i64 1, .int .i64 3, .int .i64 1, .int .i64 1, .int .i64 0, .int .i64 256, .int .i64 0, .int .i64 7, .int .i64 (-1), .int .i64 (-1), .int .i64 0, .int .i64 0, .int .i64 1] 37) = z6 := ⟨_, rfl⟩
  have hO6 : OCells z6 B5 0 oddL := by
    rw [← hz6, ← hB5]
    exact ocells_heap oddL (heap_alloc_last _ _) rfl
  have hN6 : NmS w [(B1, 0, .slice (some ⟨b9, 0, none⟩) 2 2), (B1, 1, .slice (some ⟨b12, 0, none⟩) 2 2), (B1, 2, .int .i64 2), (B1, 3, .int .i64 3), (B1, 4, .int .i64 4), (B1, 5, .int .i64 0)] b5 b8 b9 b12 z6 := by rw [← hz6]; exact hN.nw ((Nw.refl w').alloc _)
  rw [hz6, hB5]
  clear hz6 hB5 hN
  clear z3 z4 w1 w2 w'
  go_loopw [6] (fun i wr => ∃ k : Nat, k ≤ 11 ∧ i = .int .i64 k ∧ OCells wr B5 0 oddL ∧ NmS w [(B1, 0, .slice (some ⟨b9, 0, none⟩) 2 2), (B1, 1, .slice (some ⟨b12, 0, none⟩) 2 2), (B1, 2, .int .i64 2), (B1, 3, .int .i64 3), (B1, 4, .int .i64 4), (B1, 5, .int .i64 0)] b5 b8 b9 b12 wr) (fun i _ => 11 - (intOf i).toNat)
  case atStart => exact ⟨0, Nat.zero_le _, rfl, hO6, hN6⟩
  case round =>
    obtain ⟨k, hk, rfl, hO, hN⟩ := hrel
    clear hO6 hN6
    by_cases hlt : k < 11
    · have hki : k < oddL.length := hlt
      have hH := Lib.hid hO
      have hHN := Lib.hid hN
      obtain ⟨c0, c1, c2, c3, c4, c5⟩ := hO.2 k hki
      have HW := Lib.hid (fun z => odd_op oddL[k] (List.getElem_mem hki) z)
      clear hO hN
      generalize oddL[k] = x at c0 c1 c2 c3 c4 c5 HW
      obtain ⟨q0, q1, q2, q3, q4, q5⟩ := x
      simp only [Nat.zero_add] at c0 c1 c2 c3 c4 c5
      go_wp2_with (go_at_call 14; refine (HW.out _).mono ?_; rintro e w1 ⟨rfl, hg⟩)
      go_roundw
      case rel => exact ⟨k + 1, by omega, by go_num, hH.out.nw hg, hHN.out.nw hg⟩
      case measure => simp [intOf]; omega
    · obtain rfl : k = 11 := by omega
      clear hO
      have hca := cut_a
      have hcb := cut_b
      have hka := cat_a
      have hkb := cat_b
      go_wp2_with (go_at_call 15; fail)
      refine (one_entry _).mono ?_
      rintro e z7 ⟨rfl, g7⟩
      replace hN := hN.nw g7
      clear g7
      go_wp2_with (go_at_call 15; fail)
      obtain ⟨B8, hB8⟩ : ∃ B8, z7.heap.size = B8 := ⟨_, rfl⟩
      obtain ⟨z8, hz8⟩ : ∃ z8, z7.alloc (.cells #[.int .i64 3, .int .i64 1, .int .i64 2, .int .i64 0, .int .i64 9, .int .i64 5] 37) = z8 := ⟨_, rfl⟩
      have hN8 : NmS w [(B1, 0, .slice (some ⟨b9, 0, none⟩) 2 2), (B1, 1, .slice (some ⟨b12, 0, none⟩) 2 2), (B1, 2, .int .i64 2), (B1, 3, .int .i64 3), (B1, 4, .int .i64 4), (B1, 5, .int .i64 0), (B8, 0, .int .i64 3), (B8, 1, .int .i64 1), (B8, 2, .int .i64 2), (B8, 3, .int .i64 0), (B8, 4, .int .i64 9), (B8, 5, .int .i64 5)] b5 b8 b9 b12 z8 := by
        rw [← hz8]
        refine NmS.add6 (T := 37) (hN.nw ((Nw.refl z7).alloc _)) ?_
        rw [← hB8]
        exact heap_alloc_last _ _
      rw [hz8, hB8]
      clear hz8 hB8 hN
      refine (no_entry _).mono ?_
      rintro e z9 ⟨rfl, g9⟩
      have hN9 := hN8.nw g9
      clear g9 hN8
      go_wp2_with (go_at_call 16; fail)
      refine (zz_read _).mono ?_
      rintro e z10 ⟨ap, at', ct, cp, rfl, g10⟩
      have hN10 := hN9.nw (((Nw.refl z9).alloc _).trans g10)
      clear g10 hN9
      go_wp2_with (go_at_call 17; fail)
      obtain ⟨B13, hB13⟩ : ∃ B13, z10.heap.size = B13 := ⟨_, rfl⟩
      obtain ⟨B11, hB11⟩ : ∃ B11, z9.heap.size = B11 := ⟨_, rfl⟩
      obtain ⟨z11, hz11⟩ : ∃ z11, z10.alloc (.cells #[.slice at' 1 ct, .slice ap 0 cp, .int .i64 4, .int .i64 32, .int .i64 64, .int .i64 2] 28) = z11 := ⟨_, rfl⟩
      have hN11 : NmS w [(B1, 0, .slice (some ⟨b9, 0, none⟩) 2 2), (B1, 1, .slice (some ⟨b12, 0, none⟩) 2 2), (B1, 2, .int .i64 2), (B1, 3, .int .i64 3), (B1, 4, .int .i64 4), (B1, 5, .int .i64 0), (B8, 0, .int .i64 3), (B8, 1, .int .i64 1), (B8, 2, .int .i64 2), (B8, 3, .int .i64 0), (B8, 4, .int .i64 9), (B8, 5, .int .i64 5), (B13, 0, .slice at' 1 ct), (B13, 1, .slice ap 0 cp), (B13, 2, .int .i64 4), (B13, 3, .int .i64 32), (B13, 4, .int .i64 64), (B13, 5, .int .i64 2)] b5 b8 b9 b12 z11 := by
        rw [← hz11]
        refine NmS.add6 (T := 28) (hN10.nw ((Nw.refl z10).alloc _)) ?_
        rw [← hB13]
        exact heap_alloc_last _ _
      have hs11 : B13 + 1 = z11.heap.size := by rw [← hz11]; simp [hB13]
      rw [hz11, hB13, hB11, hs11]
      clear hz11 hB13 hB11 hs11 hN10
      obtain ⟨B14, hB14⟩ : ∃ B14, z11.heap.size = B14 := ⟨_, rfl⟩
      obtain ⟨z12, hz12⟩ : ∃ z12, z11.alloc (.cells #[.int .i64 0] 3) = z12 := ⟨_, rfl⟩
      have hI12 : NmI z11 B14 [] z12 := by
        rw [← hz12, ← hB14]
        exact ⟨(Nw.refl _).alloc _, heap_alloc_last _ _⟩
      rw [hz12]
      rw [hB14]
      clear hz12
      refine (each_any moreL z12).mono ?_
      rintro e z13' ⟨rfl, rfl⟩
      go_wp2_with fail
      obtain ⟨B15, hB15⟩ : ∃ B15, z12.heap.size = B15 := ⟨_, rfl⟩
      obtain ⟨z13, hz13⟩ : ∃ z13, z12.alloc (.cells #[stV moreL] 9) = z13 := ⟨_, rfl⟩
      have hI13 : NmI z11 B14 [] z13 := by rw [← hz13]; exact hI12.nw ((Nw.refl _).alloc _)
      have hc13 : z13.cell? ⟨B15, 0, none⟩ = some (stV moreL) := by rw [← hz13, ← hB15]; exact heap_cell (heap_alloc_last _ _)
      rw [hz13, hB15]
      clear hz13 hB15 hI12
      have hlt13 : B14 < z13.heap.size := heap_lt hI13.2
      have hsq := each1_in (n - 1) (by omega) B15 moreL z13 hc13 (by decide)
      refine (wpIn_wide (n := n)).1 ?_
      refine rs_law rfl h1 (gf := 37) (lb := #[.pointer (some ⟨B15, 0, none⟩)]) rfl trivial e_each1 hsq rfl (NmI z11 B14) (fun _ _ _ => False)
        (fun pre A lp o o' h hl h1 h2 => by subst hB14; exact h.put o' (by omega) h1) (fun _ _ _ _ _ _ h _ _ _ => h) (fun W g => hI13.nw g) ?a1 ?assign ?body ?done ?stop
      case assign =>
        intro lp x A K hK
        have HK := Lib.hid hK
        clear hK
        gi_wp2
        exact HK.out
      case body =>
        intro lp pre x A hi hcells hpre
        have hx : x ∈ chunks moreL := hpre.subset (by simp)
        obtain ⟨e0, e1, e2, e3, e4, e5, e6, e7, rfl⟩ := eight x (chunks_len moreL x hx)
        have hlen : pre.length < 6 := by
          have := hpre.length_le
          rw [more_len, List.length_append, List.length_singleton] at this
          omega
        have hwr : wrap64 ((pre.length : Int) + 1) = (pre.length : Int) + 1 := by unfold wrap64; omega
        have hbc : A.cell? ⟨B14, 0, none⟩ = some (.int .i64 (pre.length : Int)) := heap_cell hi.2
        have hbf : A.frozen? ⟨B14, 0, none⟩ = false := heap_fz hi.2
        have HF : Hid (KpD z13.heap.size A (A.setCell ⟨B14, 0, none⟩ (.int .i64 ((pre.length : Int) + 1))) ∧ NmI z11 B14 (pre ++ [[e0, e1, e2, e3, e4, e5, e6, e7]]) (A.setCell ⟨B14, 0, none⟩ (.int .i64 ((pre.length : Int) + 1)))) := by
          subst hB14
          exact Lib.hid ⟨fun k hk => Below.heap_setCell _ _ _ _ (by show k ≠ z11.heap.size; omega), hi.count _⟩
        clear hi hcells hpre hx hsq hI13 hc13
        gi_wp2
        exact HF.out
      case done =>
        intro D W hD hi hK
        go_wp2_with fail
        obtain ⟨S, hSe⟩ : ∃ S, S = NmF w [(B1, 0, .slice (some ⟨b9, 0, none⟩) 2 2), (B1, 1, .slice (some ⟨b12, 0, none⟩) 2 2), (B1, 2, .int .i64 2), (B1, 3, .int .i64 3), (B1, 4, .int .i64 4), (B1, 5, .int .i64 0), (B8, 0, .int .i64 3), (B8, 1, .int .i64 1), (B8, 2, .int .i64 2), (B8, 3, .int .i64 0), (B8, 4, .int .i64 9), (B8, 5, .int .i64 5), (B13, 0, .slice at' 1 ct), (B13, 1, .slice ap 0 cp), (B13, 2, .int .i64 4), (B13, 3, .int .i64 32), (B13, 4, .int .i64 64), (B13, 5, .int .i64 2), (B14, 0, .int .i64 6)] b5 b8 b9 b12 D := ⟨_, rfl⟩
        have hS0 : Hd S W.drew := by
          subst hSe
          have hNW := hN11.nw hi.1
          have hcv : CV w [(B1, 0, .slice (some ⟨b9, 0, none⟩) 2 2), (B1, 1, .slice (some ⟨b12, 0, none⟩) 2 2), (B1, 2, .int .i64 2), (B1, 3, .int .i64 3), (B1, 4, .int .i64 4), (B1, 5, .int .i64 0), (B8, 0, .int .i64 3), (B8, 1, .int .i64 1), (B8, 2, .int .i64 2), (B8, 3, .int .i64 0), (B8, 4, .int .i64 9), (B8, 5, .int .i64 5), (B13, 0, .slice at' 1 ct), (B13, 1, .slice ap 0 cp), (B13, 2, .int .i64 4), (B13, 3, .int .i64 32), (B13, 4, .int .i64 64), (B13, 5, .int .i64 2), (B14, 0, .int .i64 6)] W := by
            refine ⟨fun x hx => ?_, hNW.cv.2⟩
            rcases List.mem_append.1 (show x ∈ [(B1, 0, .slice (some ⟨b9, 0, none⟩) 2 2), (B1, 1, .slice (some ⟨b12, 0, none⟩) 2 2), (B1, 2, .int .i64 2), (B1, 3, .int .i64 3), (B1, 4, .int .i64 4), (B1, 5, .int .i64 0), (B8, 0, .int .i64 3), (B8, 1, .int .i64 1), (B8, 2, .int .i64 2), (B8, 3, .int .i64 0), (B8, 4, .int .i64 9), (B8, 5, .int .i64 5), (B13, 0, .slice at' 1 ct), (B13, 1, .slice ap 0 cp), (B13, 2, .int .i64 4), (B13, 3, .int .i64 32), (B13, 4, .int .i64 64), (B13, 5, .int .i64 2)] ++ [(B14, 0, .int .i64 6)] from hx) with q | q
            · exact hNW.cv.1 x q
            · obtain rfl := List.mem_singleton.1 q
              have := heap_cell (j := 0) hi.2
              rw [more_len] at this
              exact this
          have hf : NmF w [(B1, 0, .slice (some ⟨b9, 0, none⟩) 2 2), (B1, 1, .slice (some ⟨b12, 0, none⟩) 2 2), (B1, 2, .int .i64 2), (B1, 3, .int .i64 3), (B1, 4, .int .i64 4), (B1, 5, .int .i64 0), (B8, 0, .int .i64 3), (B8, 1, .int .i64 1), (B8, 2, .int .i64 2), (B8, 3, .int .i64 0), (B8, 4, .int .i64 9), (B8, 5, .int .i64 5), (B13, 0, .slice at' 1 ct), (B13, 1, .slice ap 0 cp), (B13, 2, .int .i64 4), (B13, 3, .int .i64 32), (B13, 4, .int .i64 64), (B13, 5, .int .i64 2), (B14, 0, .int .i64 6)] b5 b8 b9 b12 D W := ⟨hcv, hNW.sm, hNW.r, hK⟩
          exact hf.nw ((Nw.refl W).drew1)
        have q0 : ∀ y, Hd S y → y.cell? ⟨B1, 0, none⟩ = some (.slice (some ⟨b9, 0, none⟩) 2 2) := fun y h => by subst hSe; exact h.cv.1 (B1, 0, .slice (some ⟨b9, 0, none⟩) 2 2) (by simp)
        have q1 : ∀ y, Hd S y → y.cell? ⟨B1, 1, none⟩ = some (.slice (some ⟨b12, 0, none⟩) 2 2) := fun y h => by subst hSe; exact h.cv.1 (B1, 1, .slice (some ⟨b12, 0, none⟩) 2 2) (by simp)
        have q2 : ∀ y, Hd S y → y.cell? ⟨B1, 2, none⟩ = some (.int .i64 2) := fun y h => by subst hSe; exact h.cv.1 (B1, 2, .int .i64 2) (by simp)
        have q3 : ∀ y, Hd S y → y.cell? ⟨B1, 3, none⟩ = some (.int .i64 3) := fun y h => by subst hSe; exact h.cv.1 (B1, 3, .int .i64 3) (by simp)
        have q4 : ∀ y, Hd S y → y.cell? ⟨B1, 4, none⟩ = some (.int .i64 4) := fun y h => by subst hSe; exact h.cv.1 (B1, 4, .int .i64 4) (by simp)
        have q5 : ∀ y, Hd S y → y.cell? ⟨B1, 5, none⟩ = some (.int .i64 0) := fun y h => by subst hSe; exact h.cv.1 (B1, 5, .int .i64 0) (by simp)
        have q6 : ∀ y, Hd S y → y.cell? ⟨B8, 0, none⟩ = some (.int .i64 3) := fun y h => by subst hSe; exact h.cv.1 (B8, 0, .int .i64 3) (by simp)
        have q7 : ∀ y, Hd S y → y.cell? ⟨B8, 1, none⟩ = some (.int .i64 1) := fun y h => by subst hSe; exact h.cv.1 (B8, 1, .int .i64 1) (by simp)
        have q8 : ∀ y, Hd S y → y.cell? ⟨B8, 2, none⟩ = some (.int .i64 2) := fun y h => by subst hSe; exact h.cv.1 (B8, 2, .int .i64 2) (by simp)
        have q9 : ∀ y, Hd S y → y.cell? ⟨B8, 3, none⟩ = some (.int .i64 0) := fun y h => by subst hSe; exact h.cv.1 (B8, 3, .int .i64 0) (by simp)
        have q10 : ∀ y, Hd S y → y.cell? ⟨B8, 4, none⟩ = some (.int .i64 9) := fun y h => by subst hSe; exact h.cv.1 (B8, 4, .int .i64 9) (by simp)
        have q11 : ∀ y, Hd S y → y.cell? ⟨B8, 5, none⟩ = some (.int .i64 5) := fun y h => by subst hSe; exact h.cv.1 (B8, 5, .int .i64 5) (by simp)
        have q12 : ∀ y, Hd S y → y.cell? ⟨B13, 0, none⟩ = some (.slice at' 1 ct) := fun y h => by subst hSe; exact h.cv.1 (B13, 0, .slice at' 1 ct) (by simp)
        have q13 : ∀ y, Hd S y → y.cell? ⟨B13, 1, none⟩ = some (.slice ap 0 cp) := fun y h => by subst hSe; exact h.cv.1 (B13, 1, .slice ap 0 cp) (by simp)
        have q14 : ∀ y, Hd S y → y.cell? ⟨B13, 2, none⟩ = some (.int .i64 4) := fun y h => by subst hSe; exact h.cv.1 (B13, 2, .int .i64 4) (by simp)
        have q15 : ∀ y, Hd S y → y.cell? ⟨B13, 3, none⟩ = some (.int .i64 32) := fun y h => by subst hSe; exact h.cv.1 (B13, 3, .int .i64 32) (by simp)
        have q16 : ∀ y, Hd S y → y.cell? ⟨B13, 4, none⟩ = some (.int .i64 64) := fun y h => by subst hSe; exact h.cv.1 (B13, 4, .int .i64 64) (by simp)
        have q17 : ∀ y, Hd S y → y.cell? ⟨B13, 5, none⟩ = some (.int .i64 2) := fun y h => by subst hSe; exact h.cv.1 (B13, 5, .int .i64 2) (by simp)
        have q18 : ∀ y, Hd S y → y.cell? ⟨B14, 0, none⟩ = some (.int .i64 6) := fun y h => by subst hSe; exact h.cv.1 (B14, 0, .int .i64 6) (by simp)
        have pb9_0 : ∀ y, Hd S y → y.cell? ⟨b9, 0, none⟩ = some (.slice (some ⟨b5, 0, none⟩) 2 2) := fun y h => by subst hSe; exact heap_cell h.sm.h9
        have pb9_1 : ∀ y, Hd S y → y.cell? ⟨b9, 1, none⟩ = some (.slice (some ⟨b8, 0, none⟩) 1 1) := fun y h => by subst hSe; exact heap_cell h.sm.h9
        have pb5_6 : ∀ y, Hd S y → y.cell? ⟨b5, 6, none⟩ = some (.int .i64 3) := fun y h => by subst hSe; exact heap_cell h.sm.h5
        have pb5_7 : ∀ y, Hd S y → y.cell? ⟨b5, 7, none⟩ = some (.int .i64 1) := fun y h => by subst hSe; exact heap_cell h.sm.h5
        have pb5_8 : ∀ y, Hd S y → y.cell? ⟨b5, 8, none⟩ = some (.int .i64 2) := fun y h => by subst hSe; exact heap_cell h.sm.h5
        have pb5_9 : ∀ y, Hd S y → y.cell? ⟨b5, 9, none⟩ = some (.int .i64 0) := fun y h => by subst hSe; exact heap_cell h.sm.h5
        have pb5_10 : ∀ y, Hd S y → y.cell? ⟨b5, 10, none⟩ = some (.int .i64 9) := fun y h => by subst hSe; exact heap_cell h.sm.h5
        have pb5_11 : ∀ y, Hd S y → y.cell? ⟨b5, 11, none⟩ = some (.int .i64 5) := fun y h => by subst hSe; exact heap_cell h.sm.h5
        have pb8_0 : ∀ y, Hd S y → y.cell? ⟨b8, 0, none⟩ = some (.int .i64 9) := fun y h => by subst hSe; exact heap_cell h.sm.h8
        have pb8_1 : ∀ y, Hd S y → y.cell? ⟨b8, 1, none⟩ = some (.int .i64 3) := fun y h => by subst hSe; exact heap_cell h.sm.h8
        have pb8_2 : ∀ y, Hd S y → y.cell? ⟨b8, 2, none⟩ = some (.int .i64 (-1)) := fun y h => by subst hSe; exact heap_cell h.sm.h8
        have pb8_3 : ∀ y, Hd S y → y.cell? ⟨b8, 3, none⟩ = some (.int .i64 4) := fun y h => by subst hSe; exact heap_cell h.sm.h8
        have pb8_4 : ∀ y, Hd S y → y.cell? ⟨b8, 4, none⟩ = some (.int .i64 0) := fun y h => by subst hSe; exact heap_cell h.sm.h8
        have pb8_5 : ∀ y, Hd S y → y.cell? ⟨b8, 5, none⟩ = some (.int .i64 0) := fun y h => by subst hSe; exact heap_cell h.sm.h8
        have HN := Lib.hid (show ∀ a b, Hd S a → Nw a b → Hd S b from fun a b h g => by subst hSe; exact NmF.nw h g)
        have HM := Lib.hid (show ∀ a, Hd S a → SmAt a b5 b8 b9 b12 from fun a h => by subst hSe; exact h.sm)
        have HT := Lib.hid (show ∀ a v, Hd S a → Hd S (a.setCell ⟨w.heap.size, 0, none⟩ (.bool v)) from fun a v h => by subst hSe; exact NmF.set h (by simp) v)
        have HR := Lib.hid (show ∀ a, Hd S a → ∃ b, a.heap[w.heap.size]? = some (.cells #[.bool b] 4 (0, 0)) from fun a h => by subst hSe; exact h.r)
        have HD := Lib.hid (show ∀ a, Hd S a → a.heap[D]? = some (.deferred (some [])) from fun a h => by subst hSe; exact h.d)
        have HV := Lib.hid (show ∀ a, Hd S a → Nw w a from fun a h => by subst hSe; exact h.cv.2)
        have hDw : w.heap.size < D := by have := hN11.cv.2.sz; omega
        clear hSe hN11 hI13 hc13 hsq hi hK hca hcb hka hkb hk hlt
        dsimp only [List.append]
        refine region_told [some true, some true, some true, some true, some true, some true, some true, some true, some true, some false, some true, none, some false, none, some true, some true, some true, some false, none, some true, some true, some true, some true, some false, none, some true, some true, some true, some true, some true, some true, some true, some true, some true, some true, some true, some true, some true, some true, some true, some true, some true, some true, some true, some true, some true, some true, some true, some true, some true, some true, some false, none, some true, some true, some true, some true, some true, some true, some true, some true, some true, some true, some true, some true, some true, some false, none, some true, some true, some false, none] (Hd S) (by kernel_rfl) (by kernel_rfl) (by kernel_rfl) hS0 ?_
        iterate 9 (refine HW.take' ?_; apply Exists.intro; refine ⟨Or.inl ⟨by rfl, ?_⟩, ?_⟩; (intro x hx'; go_simp; first | done | with_reducible rfl); (try simp only [Act.put, List.setIfInBounds_toArray, List.set_cons_zero, List.set_cons_succ]))
        refine HW.off ?_
        iterate 1 (refine HW.take' ?_; apply Exists.intro; refine ⟨Or.inl ⟨by rfl, ?_⟩, ?_⟩; (intro x hx'; go_simp; first | done | with_reducible rfl); (try simp only [Act.put, List.setIfInBounds_toArray, List.set_cons_zero, List.set_cons_succ]))
        refine HW.go (fun KK hKK => ?_)
        go_simp
        refine (want_read _).mono ?_
        rintro e y1 ⟨vt, vp, rfl, hs1, g1⟩
        have hS1 := HN.out _ _ hS0 g1
        refine hKK.out _ _ hS1 ?_
        intro _
        clear hKK KK
        (try simp only [Act.put, List.setIfInBounds_toArray, List.set_cons_zero, List.set_cons_succ])
        refine HW.off ?_
        refine HW.go (fun KK hKK => ?_)
        go_simp
        refine (sm_same (HM.out _ hS1) hs1).mono ?_
        rintro e y2 ⟨rfl, g2⟩
        have hS2 := HN.out _ _ hS1 g2
        refine hKK.out _ _ hS2 ?_
        intro _
        clear hKK KK
        (try simp only [Act.put, List.setIfInBounds_toArray, List.set_cons_zero, List.set_cons_succ])
        iterate 3 (refine HW.take' ?_; apply Exists.intro; refine ⟨Or.inl ⟨by rfl, ?_⟩, ?_⟩; (intro x hx'; go_simp; first | done | with_reducible rfl); (try simp only [Act.put, List.setIfInBounds_toArray, List.set_cons_zero, List.set_cons_succ]))
        refine HW.off ?_
        refine HW.go (fun KK hKK => ?_)
        go_simp
        refine (sm_check (HM.out _ hS2)).mono ?_
        rintro e y3 ⟨rfl, g3⟩
        have hS3 := HN.out _ _ hS2 g3
        refine hKK.out _ _ hS3 ?_
        intro _
        clear hKK KK
        (try simp only [Act.put, List.setIfInBounds_toArray, List.set_cons_zero, List.set_cons_succ])
        iterate 4 (refine HW.take' ?_; apply Exists.intro; refine ⟨Or.inl ⟨by rfl, ?_⟩, ?_⟩; (intro x hx'; go_simp; first | done | with_reducible rfl); (try simp only [Act.put, List.setIfInBounds_toArray, List.set_cons_zero, List.set_cons_succ]))
        refine HW.off ?_
        refine HW.go (fun KK hKK => ?_)
        go_simp
        refine (no_check _).mono ?_
        rintro e y4 ⟨rfl, g4⟩
        have hS4 := HN.out _ _ hS3 g4
        refine hKK.out _ _ hS4 ?_
        intro _
        clear hKK KK
        (try simp only [Act.put, List.setIfInBounds_toArray, List.set_cons_zero, List.set_cons_succ])
        iterate 26 (refine HW.take' ?_; apply Exists.intro; refine ⟨Or.inl ⟨by rfl, ?_⟩, ?_⟩; (intro x hx'; go_simp; first | done | with_reducible rfl); (try simp only [Act.put, List.setIfInBounds_toArray, List.set_cons_zero, List.set_cons_succ]))
        refine HW.off ?_
        refine HW.go (fun KK hKK => ?_)
        go_simp
        refine (progSame_no _ _ _ _ _ _ _ _ _ _ _ _ _ _ _ _ _ _ _ _ _ (by decide)).mono ?_
        rintro e y5 ⟨rfl, g5⟩
        have hS5 := HN.out _ _ hS4 g5
        refine hKK.out _ _ hS5 ?_
        intro _
        clear hKK KK
        (try simp only [Act.put, List.setIfInBounds_toArray, List.set_cons_zero, List.set_cons_succ])
        iterate 13 (refine HW.take' ?_; apply Exists.intro; refine ⟨Or.inl ⟨by rfl, ?_⟩, ?_⟩; (intro x hx'; go_simp; first | done | with_reducible rfl); (try simp only [Act.put, List.setIfInBounds_toArray, List.set_cons_zero, List.set_cons_succ]))
        refine HW.off ?_
        refine HW.go (fun KK hKK => ?_)
        go_simp
        refine (one_op _).mono ?_
        rintro e y6 ⟨rfl, g6⟩
        have hS6 := HN.out _ _ hS5 g6
        refine hKK.out _ _ hS6 ?_
        intro _
        clear hKK KK
        (try simp only [Act.put, List.setIfInBounds_toArray, List.set_cons_zero, List.set_cons_succ])
        iterate 2 (refine HW.take' ?_; apply Exists.intro; refine ⟨Or.inl ⟨by rfl, ?_⟩, ?_⟩; (intro x hx'; go_simp; first | done | with_reducible rfl); (try simp only [Act.put, List.setIfInBounds_toArray, List.set_cons_zero, List.set_cons_succ]))
        refine HW.off ?_
        obtain ⟨b0, hb0⟩ := HR.out _ hS6
        have s0 : y6.cell? ⟨w.heap.size, 0, none⟩ = some (.bool b0) := heap_cell hb0
        have s1 : y6.frozen? ⟨w.heap.size, 0, none⟩ = false := heap_fz hb0
        refine HW.go (fun KK hKK => ?_)
        go_simp
        have hS7 := HT.out _ true hS6
        refine hKK.out _ _ hS7 ?_
        intro _
        clear hKK KK
        refine HW.end_ ?_
        refine NoPanic.normal ?_
        have t1 := HD.out _ hS7
        have t2 := HV.out _ hS7
        have t3 : (y6.setCell ⟨w.heap.size, 0, none⟩ (.bool true)).heap[w.heap.size]? = some (.cells #[.bool true] 4 (0, 0)) := by
          rw [set_heap (j := 0) (.bool true) hb0]
          simp
        generalize y6.setCell ⟨w.heap.size, 0, none⟩ (.bool true) = y7 at *
        have t4 : Nw w (y7.putObj D (.deferred none)) := Below.grown t2 (put_grown _ D _) t2.sz (fun k hk => by have := Option.some.inj hk; omega)
        have t5 : (y7.putObj D (.deferred none)).cell? ⟨w.heap.size, 0, none⟩ = some (.bool true) := heap_cell ((World.putObj_heap_other (by omega)).trans t3)
        subst hD
        have HZ := Lib.hid (And.intro t1 (And.intro t4 t5))
        clear t1 t2 t3 t4 t5 hS7 s0 s1 hb0
        go_wp2
        refine ⟨by simp, .inl ⟨_, _, rfl, run_takeDeferred HZ.out.1, ?_⟩⟩
        have t5 := HZ.out.2.2
        exact ⟨.bool true, by simp [results, Try.results3, go_sem, t5], rfl, HZ.out.2.1⟩
      case stop =>
        intro D cd pre W _ _ h _
        exact h.elim
theorem names_any (w : World) : Calls Try.prog 3 #[] w fun e z => e = .returned (.bool true) ∧ Nw w z := callsIn_wide.1 (names_in 12 (by omega) w)
end Go.Proofs.Ytmegaipedagcjaa.scriptNames
