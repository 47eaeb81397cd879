
/- New, Try, Free. -/
import Derived.Test.YtloendfkfginjaaLtA
namespace Go.Proofs.Ytloendfkfginjaa
open Go.RowKit

/-- A step of latches: what they become, and what else may change. -/
def LaTo (w : World) (l : Nat) (F : Nat → Prop) (hs : List Int) (w' : World) : Prop := ∃ F', Lat w' l F' hs ∧ (∀ k, F' k → F k ∨ w.heap.size ≤ k) ∧ Tch F w w'
theorem La.keep {w : World} {l g : Nat} {F : Nat → Prop} {hs : List Int} (h : La w l g F hs) : LaTo w l F hs w := ⟨F, ⟨g, h⟩, fun _ e => .inl e, Tch.refl _ w⟩
theorem La.put {w : World} {l g : Nat} {F : Nat → Prop} {hs : List Int} (h : La w l g F hs) (i : Nat) (hi : i < hs.length) (v : Value) (x : Int) (x0 : -1 ≤ x) (x1 : x ≤ 7)
    (hv : (x = -1 ∧ v = .pointer none) ∨ (0 ≤ x ∧ ∃ b, F b ∧ b ≠ g ∧ v = .pointer (some ⟨b, 0, none⟩) ∧ w.cell? ⟨b, 0, none⟩ = some (.int .i64 x))) : La (w.setCell ⟨g, i, none⟩ v) l g F (hs.set i x) := by
  have o : ∀ b j, b ≠ g → (w.setCell ⟨g, i, none⟩ v).cell? ⟨b, j, none⟩ = w.cell? ⟨b, j, none⟩ := fun b j hb => World.cell?_setCell_other _ _ _ _ (by simp [Ne.symm hb])
  have same : (w.setCell ⟨g, i, none⟩ v).cell? ⟨g, i, none⟩ = some v := by
    obtain ⟨_, q⟩ := h.sl i hi
    rcases q with ⟨_, q⟩ | ⟨_, b, _, _, q, _⟩
    · exact World.cell?_setCell_same _ _ _ q
    · exact World.cell?_setCell_same _ _ _ q
  refine ⟨(o _ _ h.lg).trans h.self, by rw [List.length_set]; exact (o _ _ h.lg).trans h.row, h.vl.set hi x0 x1, h.lF, h.gF, h.lg, fun b hb => by simpa using h.own b hb, fun j hj => ?_⟩
  rw [List.length_set] at hj
  rw [ho_set hs i j x hi]
  obtain ⟨f, q⟩ := h.sl j hj
  refine ⟨by rw [World.frozen?_setCell]; exact f, ?_⟩
  by_cases e : i = j
  · subst e
    rw [if_pos rfl]
    rcases hv with ⟨rfl, rfl⟩ | ⟨p, b, b1, b2, rfl, b4⟩
    · exact .inl ⟨rfl, same⟩
    · exact .inr ⟨p, b, b1, b2, same, (o _ _ b2).trans b4⟩
  · rw [if_neg e]
    have oj : (w.setCell ⟨g, i, none⟩ v).cell? ⟨g, j, none⟩ = w.cell? ⟨g, j, none⟩ := World.cell?_setCell_other _ _ _ _ (by simp [e])
    rcases q with ⟨p, q⟩ | ⟨p, b, b1, b2, b3, b4⟩
    · exact .inl ⟨p, oj.trans q⟩
    · exact .inr ⟨p, b, b1, b2, oj.trans b3, (o _ _ b2).trans b4⟩
theorem La.more {w : World} {l g b : Nat} {F : Nat → Prop} {hs : List Int} (h : La w l g F hs) (hb : b < w.heap.size) : La w l g (fun k => F k ∨ k = b) hs := by
  refine ⟨h.self, h.row, h.vl, .inl h.lF, .inl h.gF, h.lg, fun k e => e.elim (h.own k) (fun e => e ▸ hb), fun i hi => ?_⟩
  obtain ⟨f, q⟩ := h.sl i hi
  refine ⟨f, ?_⟩
  rcases q with q | ⟨p, b, b1, rest⟩
  · exact .inl q
  · exact .inr ⟨p, b, .inl b1, rest⟩
theorem La.give {w : World} {l g : Nat} {F : Nat → Prop} {hs : List Int} (h : La w l g F hs) (i j : Nat) (hi : i < hs.length) (hj : j < 8) (T : TypeId) :
    LaTo w l F (hs.set i j) ((w.setCell ⟨g, i, none⟩ (.pointer (some ⟨w.heap.size, 0, none⟩))).alloc (.cells #[.int .i64 j] T)) := by
  have hg := h.own g h.gF
  have e : ((w.setCell ⟨g, i, none⟩ (.pointer (some ⟨w.heap.size, 0, none⟩))).alloc (.cells #[.int .i64 j] T)) = ((w.alloc (.cells #[.int .i64 j] T)).setCell ⟨g, i, none⟩ (.pointer (some ⟨w.heap.size, 0, none⟩))) := by simp [go_sem, hg]
  rw [e]
  have h2 : La (w.alloc (.cells #[.int .i64 j] T)) l g (fun k => F k ∨ k = w.heap.size) hs := (h.nw ((Nw.refl w).alloc _)).more (by simp)
  refine ⟨_, ⟨g, h2.put i hi _ j (by omega) (by omega) (.inr ⟨by omega, w.heap.size, .inr rfl, by omega, rfl, by simp [go_sem]⟩)⟩, fun k e => e.elim .inl (fun e => .inr (by omega)), ?_⟩
  exact Tch.set (p := ⟨g, i, none⟩) (Tch.alloc (Tch.refl F w) _) (.inl h.gF) _
theorem La.drop {w : World} {l g : Nat} {F : Nat → Prop} {hs : List Int} (h : La w l g F hs) (i : Nat) (hi : i < hs.length) : LaTo w l F (hs.set i (-1)) (w.setCell ⟨g, i, none⟩ (.pointer none)) :=
  ⟨F, ⟨g, h.put i hi _ (-1) (by omega) (by omega) (.inl ⟨rfl, rfl⟩)⟩, fun _ e => .inl e, Tch.set (p := ⟨g, i, none⟩) (Tch.refl F w) (.inl h.gF) _⟩

/-! ### Try -/
theorem try_nil (k t : Int) (w : World) : Calls Try.prog 10 #[.pointer none, .int .i64 k, .int .i64 t] w fun e w' => e = .returned (.tuple #[.bool false, .int .i64 1]) ∧ w = w' := by
  go_enter Try.func10, Try.ntmps10
  go_wp2_with (go_at_call 25; refine (check_nil _ _ _).mono ?_; rintro e w' ⟨rfl, rfl⟩)
  exact bodyPost_ret (v := .tuple #[.bool false, .int .i64 1]) (by simp [results, Try.results10, go_sem]) rfl ⟨rfl, rfl⟩
def TryP (w : World) (l : Nat) (F : Nat → Prop) (hs : List Int) (k t : Int) (e : Ending) (w' : World) : Prop := e = .returned (.tuple #[.bool (tryR hs k t).1, .int .i64 (tryR hs k t).2]) ∧ LaTo w l F (tryS hs k t) w'
theorem try_at (l g : Nat) (F : Nat → Prop) (hs : List Int) (k t : Int) (w : World) (h : La w l g F hs) : Calls Try.prog 10 #[.pointer (some ⟨l, 0, none⟩), .int .i64 k, .int .i64 t] w (TryP w l F hs k t) := by
  have HC := Lib.hid (check_at l g F hs k t w h)
  have HK := Lib.hid h.keep
  unfold TryP
  by_cases q : Okl hs k t
  · rw [if_pos q] at HC
    obtain ⟨i, j, rfl, rfl, hi, hj⟩ := q.n
    have HG := Lib.hid (fun T => h.give i j hi hj T)
    have h1 := h.row
    have hl := h.vl.l1
    obtain ⟨hf, s⟩ := h.sl i hi
    have hgl := h.own g h.gF
    clear h
    rcases s with ⟨x1, c⟩ | ⟨x0, b, _, _, c, d⟩
    · rw [(try_free q x1).1, (try_free q x1).2]
      clear q HK x1
      generalize hs.length = N at *
      go_enter Try.func10, Try.ntmps10
      go_wp2_with (go_at_call 25; refine HC.out.mono ?_; rintro e w' ⟨rfl, rfl⟩)
      exact bodyPost_ret (v := .tuple #[.bool true, .int .i64 0]) (by simp [results, Try.results10, go_sem]) rfl ⟨rfl, HG.out _⟩
    · by_cases e : ho hs i = j
      · rw [(try_own q e).1, (try_own q e).2]
        rw [e] at d
        clear q HG e x0
        generalize hs.length = N at *
        go_enter Try.func10, Try.ntmps10
        go_wp2_with (go_at_call 25; refine HC.out.mono ?_; rintro e w' ⟨rfl, rfl⟩)
        exact bodyPost_ret (v := .tuple #[.bool false, .int .i64 4]) (by simp [results, Try.results10, go_sem]) rfl ⟨rfl, HK.out⟩
      · rw [(try_other q x0 e).1, (try_other q x0 e).2]
        clear q HG x0
        generalize ho hs i = x at *
        have e2 : (x == (j : Int)) = false := by simpa using e
        generalize hs.length = N at *
        go_enter Try.func10, Try.ntmps10
        go_wp2_with (go_at_call 25; refine HC.out.mono ?_; rintro e w' ⟨rfl, rfl⟩)
        exact bodyPost_ret (v := .tuple #[.bool false, .int .i64 0]) (by simp [results, Try.results10, go_sem]) rfl ⟨rfl, HK.out⟩
  · rw [if_neg q] at HC
    rw [(try_bad q).1, (try_bad q).2]
    clear h q
    go_enter Try.func10, Try.ntmps10
    go_wp2_with (go_at_call 25; refine HC.out.mono ?_; rintro e w' ⟨rfl, rfl⟩)
    exact bodyPost_ret (v := .tuple #[.bool false, .int .i64 2]) (by simp [results, Try.results10, go_sem]) rfl ⟨rfl, HK.out⟩

/-! ### Free -/
theorem free_nil (k t : Int) (w : World) : Calls Try.prog 11 #[.pointer none, .int .i64 k, .int .i64 t] w fun e w' => e = .returned (.int .i64 1) ∧ w = w' := by
  go_enter Try.func11, Try.ntmps11
  go_wp2_with (go_at_call 25; refine (check_nil _ _ _).mono ?_; rintro e w' ⟨rfl, rfl⟩)
  go_ret
  exact ⟨rfl, rfl⟩
def FreeP (w : World) (l : Nat) (F : Nat → Prop) (hs : List Int) (k t : Int) (e : Ending) (w' : World) : Prop := e = .returned (.int .i64 (freeE hs k t)) ∧ LaTo w l F (freeS hs k t) w'
theorem free_at (l g : Nat) (F : Nat → Prop) (hs : List Int) (k t : Int) (w : World) (h : La w l g F hs) : Calls Try.prog 11 #[.pointer (some ⟨l, 0, none⟩), .int .i64 k, .int .i64 t] w (FreeP w l F hs k t) := by
  have HC := Lib.hid (check_at l g F hs k t w h)
  have HK := Lib.hid h.keep
  unfold FreeP
  by_cases q : Okl hs k t
  · rw [if_pos q] at HC
    obtain ⟨i, j, rfl, rfl, hi, hj⟩ := q.n
    have HG := Lib.hid (h.drop i hi)
    have h1 := h.row
    have hl := h.vl.l1
    obtain ⟨hf, s⟩ := h.sl i hi
    have hgl := h.own g h.gF
    clear h
    rcases s with ⟨x1, c⟩ | ⟨x0, b, _, _, c, d⟩
    · have e : ho hs i ≠ j := by omega
      rw [(free_other q e).1, (free_other q e).2]
      clear q HG x1 e
      generalize hs.length = N at *
      go_enter Try.func11, Try.ntmps11
      go_wp2_with (go_at_call 25; refine HC.out.mono ?_; rintro e w' ⟨rfl, rfl⟩)
      go_ret
      exact ⟨rfl, HK.out⟩
    · by_cases e : ho hs i = j
      · rw [(free_own q e).1, (free_own q e).2]
        rw [e] at d
        clear q HK e x0
        generalize hs.length = N at *
        go_enter Try.func11, Try.ntmps11
        go_wp2_with (go_at_call 25; refine HC.out.mono ?_; rintro e w' ⟨rfl, rfl⟩)
        go_ret
        exact ⟨rfl, HG.out⟩
      · rw [(free_other q e).1, (free_other q e).2]
        clear q HG x0
        generalize ho hs i = x at *
        have e2 : (x == (j : Int)) = false := by simpa using e
        generalize hs.length = N at *
        go_enter Try.func11, Try.ntmps11
        go_wp2_with (go_at_call 25; refine HC.out.mono ?_; rintro e w' ⟨rfl, rfl⟩)
        go_ret
        exact ⟨rfl, HK.out⟩
  · rw [if_neg q] at HC
    rw [(free_bad q).1, (free_bad q).2]
    clear h q
    go_enter Try.func11, Try.ntmps11
    go_wp2_with (go_at_call 25; refine HC.out.mono ?_; rintro e w' ⟨rfl, rfl⟩)
    go_ret
    exact ⟨rfl, HK.out⟩

/-! ### New -/
theorem infoP : (Try.prog.info? 49).map (fun i => (i.zero, i.size, i.bytes)) = some (some (.pointer none), 1, 8) := by kernel_rfl
theorem mk_ptrs (w : World) (N : Nat) (hN : N ≤ 1000) : (Instr.makeSlice 46 (.int .i64 N) (.int .i64 N)).run Try.prog w = .ok (.slice (some ⟨w.heap.size, 0, none⟩) N N) (w.alloc (.cells (Array.replicate N (.pointer none)) 49)) := by
  obtain ⟨i0, hi, hz0, hz1, hz2⟩ := info_parts infoP
  have h := run_make (P := Try.prog) w 46 49 i0 (.pointer none) Try.underlying46 hi hz0 .i64 .i64 N N (by omega) (Int.le_refl _) (by rw [hz2]; omega) (by omega)
  have e : madeCells (Value.pointer none).cells (N * 1) = Array.replicate N (.pointer none) := by
    apply Array.ext
    · simp [madeCells]
    · intro j h1 h2
      simp [madeCells, Value.cells, Nat.mod_one]
  rw [h, hz1]
  simp only [Int.toNat_natCast, e]
theorem new_la (w : World) (N : Nat) (n0 : 1 ≤ N) (n1 : N ≤ 16) (T : TypeId) :
    La ((w.alloc (.cells (Array.replicate N (.pointer none)) T)).alloc (.cells #[.pointer (some ⟨w.heap.size + 1, 0, none⟩), .slice (some ⟨w.heap.size, 0, none⟩) N N] 48)) (w.heap.size + 1) w.heap.size (fun k => k = w.heap.size ∨ k = w.heap.size + 1) (List.replicate N (-1)) := by
  have v := vl_new N n0 n1
  refine ⟨by simp [go_sem], by simp [go_sem], v, .inr rfl, .inl rfl, by omega, fun k e => by simp; omega, fun i hi => ?_⟩
  simp at hi
  rw [ho_new]
  exact ⟨by simp [go_sem], .inl ⟨rfl, by simp [go_sem, hi]⟩⟩
def NewP (w : World) (n : Int) (e : Ending) (w' : World) : Prop :=
  (¬ (1 ≤ n ∧ n ≤ 16) → e = .returned (.tuple #[.pointer none, .int .i64 2]) ∧ w = w') ∧
  (1 ≤ n ∧ n ≤ 16 → ∃ l F, e = .returned (.tuple #[.pointer (some ⟨l, 0, none⟩), .int .i64 0]) ∧ Lat w' l F (List.replicate n.toNat (-1)) ∧ (∀ k, F k → w.heap.size ≤ k) ∧ w.heap.size ≤ l ∧ Nw w w')
theorem NewP.bad {w : World} {n : Int} (h : ¬ (1 ≤ n ∧ n ≤ 16)) : NewP w n (.returned (.tuple #[.pointer none, .int .i64 2])) w := ⟨fun _ => ⟨rfl, rfl⟩, fun k => absurd k h⟩
theorem NewP.good (w : World) (N : Nat) (n0 : 1 ≤ N) (n1 : N ≤ 16) (T : TypeId) : NewP w N (.returned (.tuple #[.pointer (some ⟨w.heap.size + 1, 0, none⟩), .int .i64 0]))
    ((w.alloc (.cells (Array.replicate N (.pointer none)) T)).alloc (.cells #[.pointer (some ⟨w.heap.size + 1, 0, none⟩), .slice (some ⟨w.heap.size, 0, none⟩) N N] 48)) := by
  refine ⟨fun h => absurd (by omega) h, fun _ => ⟨_, _, rfl, ⟨_, new_la w N n0 n1 T⟩, ?_, by omega, ((Nw.refl w).alloc _).alloc _⟩⟩
  rintro k (rfl | rfl) <;> omega
theorem new_any (n : Int) (w : World) : Calls Try.prog 9 #[.int .i64 n] w (NewP w n) := by
  by_cases q : 1 ≤ n ∧ n ≤ 16
  · obtain ⟨N, rfl⟩ := Int.eq_ofNat_of_zero_le (show 0 ≤ n by omega)
    have n0 : 1 ≤ N := by omega
    have n1 : N ≤ 16 := by omega
    have HN := Lib.hid (NewP.good w N n0 n1 49)
    have km := fun w => mk_ptrs w N (by omega)
    have d1 : decide ((N : Int) < 1) = false := by simp; omega
    have d2 : decide ((16 : Int) < (N : Int)) = false := by simp; omega
    clear q
    go_enter Try.func9, Try.ntmps9
    go_wp2
    exact bodyPost_ret (v := .tuple #[.pointer (some ⟨w.heap.size + 1, 0, none⟩), .int .i64 0]) (by simp [results, Try.results9, go_sem]) rfl HN.out
  · have HQ := Lib.hid q
    by_cases d : n < 1
    · clear q
      go_enter Try.func9, Try.ntmps9
      go_wp2
      exact bodyPost_ret (v := .tuple #[.pointer none, .int .i64 2]) (by simp [results, Try.results9, go_sem]) rfl (NewP.bad HQ.out)
    · have d2 : (16 : Int) < n := by omega
      clear q
      go_enter Try.func9, Try.ntmps9
      go_wp2
      exact bodyPost_ret (v := .tuple #[.pointer none, .int .i64 2]) (by simp [results, Try.results9, go_sem]) rfl (NewP.bad HQ.out)
end Go.Proofs.Ytloendfkfginjaa
