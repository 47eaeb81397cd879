
/- The document's own latches: New, may, Try, Free, Holder, Held, Len, Taken. -/
import Derived.Test.YtloendfkfginjaaLtS
namespace Go.Proofs.Ytloendfkfginjaa
open Go.RowKit

/-- The document's own latches in memory: a list of numbers. -/
structure Lr (W : World) (o : Nat) (v : Value) (hs : List Int) : Prop where
  lst : W.cell? ⟨o, 0, none⟩ = some v
  fz : W.frozen? ⟨o, 0, none⟩ = false
  lt : o < W.heap.size
  is : IS W v hs
  ne : ∀ k, v.ownBlock = some k → k ≠ o
theorem Lr.tch {S : Nat → Prop} {W W' : World} {o : Nat} {v : Value} {hs : List Int} (h : Lr W o v hs) (k : Tch S W W') (ho : ¬ S o) (hv : ∀ g, v.ownBlock = some g → ¬ S g) : Lr W' o v hs :=
  ⟨(k.cell h.lt ho).trans h.lst, (k.froz h.lt ho).trans h.fz, Nat.lt_of_lt_of_le h.lt k.size, h.is.tch k hv, h.ne⟩
theorem Lr.nw {W W' : World} {o : Nat} {v : Value} {hs : List Int} (h : Lr W o v hs) (k : Nw W W') : Lr W' o v hs := h.tch (Tch.nw (S := fun _ => False) k) (fun e => e) (fun _ _ e => e)
/-- The same where the list has entries: the row's block is named. -/
structure Lg (W : World) (o g cap : Nat) (hs : List Int) : Prop where
  r : Lr W o (.slice (some ⟨g, 0, none⟩) hs.length cap) hs
  vl : Vl hs
theorem Lg.nw {W W' : World} {o g cap : Nat} {hs : List Int} (h : Lg W o g cap hs) (k : Nw W W') : Lg W' o g cap hs := ⟨h.r.nw k, h.vl⟩
theorem Lg.put {W : World} {o g cap : Nat} {hs : List Int} (h : Lg W o g cap hs) (i : Nat) (x : Int) (v : Vl (hs.set i x)) : Lg (W.setCell ⟨g, i, none⟩ (.int .i64 x)) o g cap (hs.set i x) ∧ Tch (fun k => k = g) W (W.setCell ⟨g, i, none⟩ (.int .i64 x)) := by
  have t := setCell_at W ⟨g, i, none⟩ (.int .i64 x)
  have ne : g ≠ o := h.r.ne g rfl
  refine ⟨⟨⟨(t.cell h.r.lt (fun e => ne e.symm)).trans h.r.lst |>.trans (by rw [List.length_set]), (t.froz h.r.lt (fun e => ne e.symm)).trans h.r.fz, Nat.lt_of_lt_of_le h.r.lt t.size, ?_, fun k e => h.r.ne k e⟩, v⟩, t⟩
  have := h.r.is.set i x
  rwa [List.length_set]
/-- The places that these latches may write. -/
abbrev Rf (o g : Nat) : Nat → Prop := fun k => k = o ∨ k = g

theorem may_at (o g cap : Nat) (hs : List Int) (k t : Int) (W : World) (h : Lg W o g cap hs) : Calls Try.prog 28 #[.pointer (some ⟨o, 0, none⟩), .int .i64 k, .int .i64 t] W fun e W' => e = .returned (.bool (decide (Okl hs k t))) ∧ W = W' := by
  have h1 := h.r.lst
  have hl := h.vl.l1
  clear h
  by_cases a0 : 0 ≤ k
  · by_cases a1 : k < (hs.length : Int)
    · have d1 : decide (k < (hs.length : Int)) = true := by simpa using a1
      by_cases a2 : 0 ≤ t
      · by_cases a3 : t < 8
        · rw [decide_eq_true (show Okl hs k t from ⟨a0, a1, a2, a3⟩)]
          generalize hs.length = N at *
          go_enter Try.func28, Try.ntmps28
          go_wp2
          go_ret
          exact ⟨rfl, rfl⟩
        · rw [decide_eq_false (fun e : Okl hs k t => a3 e.2.2.2)]
          generalize hs.length = N at *
          go_enter Try.func28, Try.ntmps28
          go_wp2
          go_ret
          exact ⟨rfl, rfl⟩
      · rw [decide_eq_false (fun e : Okl hs k t => a2 e.2.2.1)]
        generalize hs.length = N at *
        go_enter Try.func28, Try.ntmps28
        go_wp2
        go_ret
        exact ⟨rfl, rfl⟩
    · have d1 : decide (k < (hs.length : Int)) = false := by simpa using a1
      rw [decide_eq_false (fun e : Okl hs k t => a1 e.2.1)]
      generalize hs.length = N at *
      go_enter Try.func28, Try.ntmps28
      go_wp2
      go_ret
      exact ⟨rfl, rfl⟩
  · rw [decide_eq_false (fun e : Okl hs k t => a0 e.1)]
    generalize hs.length = N at *
    go_enter Try.func28, Try.ntmps28
    go_wp2
    go_ret
    exact ⟨rfl, rfl⟩
def RTo (W : World) (o g cap : Nat) (hs : List Int) (W' : World) : Prop := Lg W' o g cap hs ∧ Tch (fun k => k = g) W W'
theorem Lg.keep {W : World} {o g cap : Nat} {hs : List Int} (h : Lg W o g cap hs) : RTo W o g cap hs W := ⟨h, Tch.refl _ W⟩
theorem ho_in (hs : List Int) (i : Nat) (hi : i < hs.length) : hs.getD i 0 = ho hs i := by simp [ho, List.getD, hi]
theorem rtry_at (o g cap : Nat) (hs : List Int) (k t : Int) (W : World) (h : Lg W o g cap hs) : Calls Try.prog 19 #[.pointer (some ⟨o, 0, none⟩), .int .i64 k, .int .i64 t] W fun e W' => e = .returned (.tuple #[.bool (tryR hs k t).1, .int .i64 (tryR hs k t).2]) ∧ RTo W o g cap (tryS hs k t) W' := by
  have HC := Lib.hid (may_at o g cap hs k t W h)
  have HK := Lib.hid h.keep
  by_cases q : Okl hs k t
  · rw [decide_eq_true q] at HC
    obtain ⟨i, j, rfl, rfl, hi, hj⟩ := q.n
    have HG := Lib.hid (show RTo W o g cap (hs.set i j) _ from h.put i j (h.vl.set hi (by omega) (by omega)))
    have h1 := h.r.lst
    have hf := h.r.is.frozen i
    have hl := h.vl.l1
    have hb := h.vl.bd i hi
    have c := h.r.is.cell i hi
    rw [ho_in hs i hi] at c
    have hgl := h.r.is.glt
    clear h
    by_cases e : ho hs i = j
    · rw [(try_own q e).1, (try_own q e).2]
      rw [e] at c
      clear q HG e hb
      generalize hs.length = N at *
      go_enter Try.func19, Try.ntmps19
      go_wp2_with (go_at_call 28; refine HC.out.mono ?_; rintro e w' ⟨rfl, rfl⟩)
      exact bodyPost_ret (v := .tuple #[.bool false, .int .i64 4]) (by simp [results, Try.results19, go_sem]) rfl ⟨rfl, HK.out⟩
    · by_cases p : 0 ≤ ho hs i
      · rw [(try_other q p e).1, (try_other q p e).2]
        clear q HG hb
        generalize ho hs i = x at *
        have e2 : (x == (j : Int)) = false := by simpa using e
        have e3 : decide (x < 0) = false := by simp; omega
        generalize hs.length = N at *
        go_enter Try.func19, Try.ntmps19
        go_wp2_with (go_at_call 28; refine HC.out.mono ?_; rintro e w' ⟨rfl, rfl⟩)
        exact bodyPost_ret (v := .tuple #[.bool false, .int .i64 0]) (by simp [results, Try.results19, go_sem]) rfl ⟨rfl, HK.out⟩
      · have x1 : ho hs i = -1 := by omega
        rw [(try_free q x1).1, (try_free q x1).2]
        rw [x1] at c
        clear q HK hb e p x1
        have e2 : ((-1 : Int) == (j : Int)) = false := by simp
        generalize hs.length = N at *
        go_enter Try.func19, Try.ntmps19
        go_wp2_with (go_at_call 28; refine HC.out.mono ?_; rintro e w' ⟨rfl, rfl⟩)
        exact bodyPost_ret (v := .tuple #[.bool true, .int .i64 0]) (by simp [results, Try.results19, go_sem]) rfl ⟨rfl, HG.out⟩
  · rw [decide_eq_false q] at HC
    rw [(try_bad q).1, (try_bad q).2]
    clear h q
    go_enter Try.func19, Try.ntmps19
    go_wp2_with (go_at_call 28; refine HC.out.mono ?_; rintro e w' ⟨rfl, rfl⟩)
    exact bodyPost_ret (v := .tuple #[.bool false, .int .i64 2]) (by simp [results, Try.results19, go_sem]) rfl ⟨rfl, HK.out⟩
theorem rfree_at (o g cap : Nat) (hs : List Int) (k t : Int) (W : World) (h : Lg W o g cap hs) : Calls Try.prog 20 #[.pointer (some ⟨o, 0, none⟩), .int .i64 k, .int .i64 t] W fun e W' => e = .returned (.int .i64 (freeE hs k t)) ∧ RTo W o g cap (freeS hs k t) W' := by
  have HC := Lib.hid (may_at o g cap hs k t W h)
  have HK := Lib.hid h.keep
  by_cases q : Okl hs k t
  · rw [decide_eq_true q] at HC
    obtain ⟨i, j, rfl, rfl, hi, hj⟩ := q.n
    have HG := Lib.hid (show RTo W o g cap (hs.set i (-1)) _ from h.put i (-1) (h.vl.set hi (by omega) (by omega)))
    have h1 := h.r.lst
    have hf := h.r.is.frozen i
    have hl := h.vl.l1
    have c := h.r.is.cell i hi
    rw [ho_in hs i hi] at c
    have hgl := h.r.is.glt
    clear h
    by_cases e : ho hs i = j
    · rw [(free_own q e).1, (free_own q e).2]
      rw [e] at c
      clear q HK e
      generalize hs.length = N at *
      go_enter Try.func20, Try.ntmps20
      go_wp2_with (go_at_call 28; refine HC.out.mono ?_; rintro e w' ⟨rfl, rfl⟩)
      go_ret
      exact ⟨rfl, HG.out⟩
    · rw [(free_other q e).1, (free_other q e).2]
      clear q HG
      generalize ho hs i = x at *
      have e2 : (x == (j : Int)) = false := by simpa using e
      generalize hs.length = N at *
      go_enter Try.func20, Try.ntmps20
      go_wp2_with (go_at_call 28; refine HC.out.mono ?_; rintro e w' ⟨rfl, rfl⟩)
      go_ret
      exact ⟨rfl, HK.out⟩
  · rw [decide_eq_false q] at HC
    rw [(free_bad q).1, (free_bad q).2]
    clear h q
    go_enter Try.func20, Try.ntmps20
    go_wp2_with (go_at_call 28; refine HC.out.mono ?_; rintro e w' ⟨rfl, rfl⟩)
    go_ret
    exact ⟨rfl, HK.out⟩
theorem rholder_at (o g cap : Nat) (hs : List Int) (k : Int) (W : World) (h : Lg W o g cap hs) : Calls Try.prog 21 #[.pointer (some ⟨o, 0, none⟩), .int .i64 k] W fun e W' => e = .returned (.tuple #[.int .i64 (holdR hs k).1, .bool (holdR hs k).2]) ∧ W = W' := by
  have HC := Lib.hid (may_at o g cap hs k 0 W h)
  unfold holdR
  by_cases q : 0 ≤ k ∧ k < (hs.length : Int)
  · obtain ⟨i, rfl⟩ := Int.eq_ofNat_of_zero_le q.1
    have hi : i < hs.length := by omega
    have h1 := h.r.lst
    have hl := h.vl.l1
    have c := h.r.is.cell i hi
    rw [ho_in hs i hi] at c
    rw [decide_eq_true (show Okl hs i 0 from ⟨q.1, q.2, by omega, by omega⟩)] at HC
    simp only [Int.toNat_natCast]
    clear h
    by_cases x0 : 0 ≤ ho hs i
    · rw [if_pos ⟨q.1, q.2, x0⟩]
      clear q
      generalize ho hs i = x at *
      have e3 : decide (x < 0) = false := by simp; omega
      generalize hs.length = N at *
      go_enter Try.func21, Try.ntmps21
      go_wp2_with (go_at_call 28; refine HC.out.mono ?_; rintro e w' ⟨rfl, rfl⟩)
      exact bodyPost_ret (v := .tuple #[.int .i64 x, .bool true]) (by simp [results, Try.results21, go_sem]) rfl ⟨rfl, rfl⟩
    · rw [if_neg (fun e => x0 e.2.2)]
      clear q
      generalize ho hs i = x at *
      have e3 : decide (x < 0) = true := by simp; omega
      generalize hs.length = N at *
      go_enter Try.func21, Try.ntmps21
      go_wp2_with (go_at_call 28; refine HC.out.mono ?_; rintro e w' ⟨rfl, rfl⟩)
      exact bodyPost_ret (v := .tuple #[.int .i64 0, .bool false]) (by simp [results, Try.results21, go_sem]) rfl ⟨rfl, rfl⟩
  · rw [decide_eq_false (show ¬ Okl hs k 0 from fun e => q ⟨e.1, e.2.1⟩)] at HC
    rw [if_neg (fun e => q ⟨e.1, e.2.1⟩)]
    clear q h
    go_enter Try.func21, Try.ntmps21
    go_wp2_with (go_at_call 28; refine HC.out.mono ?_; rintro e w' ⟨rfl, rfl⟩)
    exact bodyPost_ret (v := .tuple #[.int .i64 0, .bool false]) (by simp [results, Try.results21, go_sem]) rfl ⟨rfl, rfl⟩
theorem rlen_at (o g cap : Nat) (hs : List Int) (W : World) (h : Lg W o g cap hs) : Calls Try.prog 23 #[.pointer (some ⟨o, 0, none⟩)] W fun e W' => e = .returned (.int .i64 hs.length) ∧ W = W' := by
  have h1 := h.r.lst
  clear h
  generalize hs.length = N at *
  go_enter Try.func23, Try.ntmps23
  go_wp2
  go_ret
  exact ⟨rfl, rfl⟩
theorem rtaken_at (o g cap : Nat) (hs : List Int) (W : World) (h : Lg W o g cap hs) : Calls Try.prog 24 #[.pointer (some ⟨o, 0, none⟩)] W fun e W' => e = .returned (.int .i64 (takL hs)) ∧ W = W' := by
  have h1 := h.r.lst
  have HB := Lib.hid (show ∀ k, takB hs k = decide (0 ≤ ho hs k) from fun _ => rfl)
  have HC := Lib.hid (fun i (hi : i < hs.length) => (h.r.is.cell i hi).trans (by rw [ho_in hs i hi]))
  have hl := h.vl.l1
  have HT := Lib.hid (takT_succ hs)
  have HE := Lib.hid (takT_le hs)
  have HZ := Lib.hid (show takT hs 0 = 0 from rfl)
  unfold takL
  clear h
  generalize hs.length = N at *
  generalize takT hs = T at *
  go_enter Try.func24, Try.ntmps24
  go_wp2
  go_loopw [3, 4] (fun n i wr => ∃ k : Nat, k ≤ N ∧ i = .int .i64 k ∧ n = .int .i64 (T k) ∧ W = wr) (fun _ i _ => N - (intOf i).toNat)
  case atStart => exact ⟨0, Nat.zero_le _, rfl, by rw [HZ.out]; rfl, rfl⟩
  case round =>
    obtain ⟨k, hk, rfl, rfl, rfl⟩ := hrel
    by_cases hlt : k < N
    · have hb := HE.out k
      have hs1 := HT.out k
      have hB := HB.out k
      have c := HC.out k hlt
      generalize ho hs k = x at *
      by_cases x0 : 0 ≤ x
      · rw [decide_eq_true x0] at hB
        rw [hB] at hs1
        simp only [if_true] at hs1
        have e3 : decide (x < 0) = false := by simp; omega
        clear hB
        go_wp2
        go_roundw
        case rel => exact ⟨k + 1, by omega, by go_num, by rw [hs1]; go_num, trivial⟩
        case measure => simp [intOf]; omega
      · rw [decide_eq_false x0] at hB
        rw [hB] at hs1
        simp only [Bool.false_eq_true, if_false] at hs1
        have e3 : decide (x < 0) = true := by simp; omega
        clear hB
        go_wp2
        go_roundw
        case rel => exact ⟨k + 1, by omega, by go_num, by rw [hs1], trivial⟩
        case measure => simp [intOf]; omega
    · obtain rfl : k = N := by omega
      go_wp2
      go_ret
      exact ⟨rfl, rfl⟩
theorem rheld_at (o g cap : Nat) (hs : List Int) (t : Int) (W : World) (h : Lg W o g cap hs) : Calls Try.prog 22 #[.pointer (some ⟨o, 0, none⟩), .int .i64 t] W (NewIS W (heldL hs t)) := by
  have HW := Lib.hid (fun w' (k : Nw W w') => (h.nw k).r.lst)
  have HC := Lib.hid (fun w' (k : Nw W w') i (hi : i < hs.length) => ((h.nw k).r.is.cell i hi).trans (by rw [ho_in hs i hi]))
  have hl := h.vl.l1
  have HT := Lib.hid (heldT_succ hs t)
  have HE := Lib.hid (heldT_len hs t)
  have HZ := Lib.hid (show heldT hs t 0 = [] from rfl)
  have HB := Lib.hid (show ∀ k, heldB hs t k = decide (0 ≤ ho hs k ∧ ho hs k = t) from fun _ => rfl)
  unfold NewIS heldL
  clear h
  generalize hs.length = N at *
  generalize heldT hs t = T at *
  go_enter Try.func22, Try.ntmps22
  go_wp2
  go_loopw [5, 6] (fun v i wr => ∃ k : Nat, k ≤ N ∧ i = .int .i64 k ∧ Hid (IS wr v (T k)) ∧ (∀ k, v.ownBlock = some k → W.heap.size ≤ k) ∧ Nw W wr) (fun _ i _ => N - (intOf i).toNat)
  case atStart => exact ⟨0, Nat.zero_le _, rfl, Lib.hid (by rw [HZ.out]; exact IS.nil _), fun k e => by simp [Value.ownBlock] at e, Nw.refl _⟩
  case round =>
    obtain ⟨k, hk, rfl, hI, hv, hG⟩ := hrel
    have h1 := HW.out _ hG
    obtain ⟨ao, cap, rfl, _⟩ := hI.out.box
    by_cases hlt : k < N
    · have hb := HE.out k
      have hs1 := HT.out k
      have hB := HB.out k
      have c := HC.out _ hG k hlt
      generalize ho hs k = x at *
      by_cases x0 : 0 ≤ x
      · have e3 : decide (x < 0) = false := by simp; omega
        by_cases e : x = t
        · rw [decide_eq_true ⟨x0, e⟩] at hB
          rw [hB] at hs1
          simp only [if_true] at hs1
          subst e
          clear hB
          obtain ⟨v', w1, hrun, q1, q2, q3, g', cap', rfl⟩ := IS.push _ _ (T k) k hI.out (by omega)
          have HP := Lib.hid (And.intro q1 (And.intro q2 q3))
          have HR2 := Lib.hid hrun
          clear q1 q2 q3 hrun
          go_wp2_with (at_builtin; refine wpList_append_run (by rfl) (.tmp 35) (.tmp 37) 33 rfl _ _ _ _ rfl rfl HR2.out ?_)
          go_roundw
          case rel =>
            refine ⟨k + 1, by omega, by go_num, Lib.hid (by rw [hs1]; exact HP.out.1), fun k e => (HP.out.2.2 k e).elim (hv k) (fun q => Nat.le_trans hG.sz q), nw_tch hG HP.out.2.1 (fun i e => hv i e)⟩
          case measure => simp [intOf]; omega
        · rw [decide_eq_false (fun q => e q.2)] at hB
          rw [hB] at hs1
          simp only [Bool.false_eq_true, if_false] at hs1
          have e4 : (x == t) = false := by simpa using e
          clear hB
          go_wp2
          go_roundw
          case rel => exact ⟨k + 1, by omega, by go_num, by rw [hs1]; exact hI, hv, hG⟩
          case measure => simp [intOf]; omega
      · rw [decide_eq_false (fun q => x0 q.1)] at hB
        rw [hB] at hs1
        simp only [Bool.false_eq_true, if_false] at hs1
        have e3 : decide (x < 0) = true := by simp; omega
        clear hB
        go_wp2
        go_roundw
        case rel => exact ⟨k + 1, by omega, by go_num, by rw [hs1]; exact hI, hv, hG⟩
        case measure => simp [intOf]; omega
    · obtain rfl : k = N := by omega
      go_wp2
      go_ret
      exact ⟨_, rfl, hI.out, hv, hG⟩
end Go.Proofs.Ytloendfkfginjaa
