
/- A pool: New. -/
import Derived.Test.YtckbjgcelpmffaaPoB
namespace Go.Proofs.Ytckbjgcelpmffaa
open Go.RowKit
set_option linter.unusedVariables false

theorem infoB : (Try.prog.info? 4).map (fun i => (i.zero, i.size, i.bytes)) = some (some (.bool false), 1, 1) := by kernel_rfl
theorem mk_bools (w : World) (N : Nat) (hN : N ≤ 1000) : (Instr.makeSlice 42 (.int .i64 N) (.int .i64 N)).run Try.prog w = .ok (.slice (some ⟨w.heap.size, 0, none⟩) N N) (w.alloc (.cells (Array.replicate N (.bool false)) 4)) := by
  obtain ⟨i0, hi, hz0, hz1, hz2⟩ := info_parts infoB
  have h := run_make (P := Try.prog) w 42 4 i0 (.bool false) Try.underlying42 hi hz0 .i64 .i64 N N (by omega) (Int.le_refl _) (by rw [hz2]; omega) (by omega)
  have e : madeCells (Value.bool false).cells (N * 1) = Array.replicate N (.bool false) := by
    apply Array.ext
    · simp [madeCells]
    · intro j h1 h2
      simp [madeCells, Value.cells, Nat.mod_one]
  rw [h, hz1]
  simp only [Int.toNat_natCast, e]
/-- Between two rounds: the heap has the first k numbers. -/
structure NewI (w : World) (N k : Nat) (v : Value) (l : List Int) (W : World) : Prop where
  nw : Nw w W
  hv : IHv W (w.heap.size + 1) 2 v l
  hs : IHs l (castL (List.range k))
  own : ∀ b, v.ownBlock = some b → w.heap.size + 2 ≤ b
  c0 : W.cell? ⟨w.heap.size + 1, 0, none⟩ = some (.pointer none)
  f0 : W.frozen? ⟨w.heap.size + 1, 0, none⟩ = false
  c1 : W.cell? ⟨w.heap.size + 1, 1, none⟩ = some (.slice (some ⟨w.heap.size, 0, none⟩) N N)
  cs : ∀ i, i < N → W.cell? ⟨w.heap.size, i, none⟩ = some (.bool false) ∧ W.frozen? ⟨w.heap.size, i, none⟩ = false
  sz : w.heap.size + 1 < W.heap.size
theorem newI_start (w : World) (N : Nat) (T U : TypeId) : NewI w N 0 (.slice none 0 0) [] ((w.alloc (.cells (Array.replicate N (.bool false)) T)).alloc (.cells #[.pointer none, .slice (some ⟨w.heap.size, 0, none⟩) N N, .slice none 0 0] U)) := by
  refine ⟨((Nw.refl w).alloc _).alloc _, ⟨by simp [go_sem], by simp [go_sem], IS.nil _, by simp [Value.ownBlock]⟩, IHs.nil, by simp [Value.ownBlock], by simp [go_sem], by simp [go_sem], by simp [go_sem], fun i hi => ?_, by simp⟩
  constructor <;> simp [go_sem, hi]
theorem NewI.step {w W W' : World} {N k : Nat} {v : Value} {l : List Int} (h : NewI w N k v l W) (hp : IPushH W (w.heap.size + 1) 2 v (castL (List.range (k + 1))) W') : ∃ v' l', NewI w N (k + 1) v' l' W' := by
  obtain ⟨g', cap', l', hp, hs, hor, ht, hsd⟩ := hp
  have hsz := h.sz
  have n1 : ¬ IOf (w.heap.size + 1) v w.heap.size := fun e => e.elim (fun e => by omega) (fun e => by have := h.own _ e; omega)
  refine ⟨_, l', nw_tch h.nw ht (fun i e => ?_), hp.v, hs, fun b e => ?_, (hsd 0 (by omega)).1.trans h.c0, (hsd 0 (by omega)).2.trans h.f0, (hsd 1 (by omega)).1.trans h.c1, fun i hi => ⟨(ht.cell (by omega) n1).trans (h.cs i hi).1, (ht.froz (by omega) n1).trans (h.cs i hi).2⟩, by have := ht.size; omega⟩
  · rcases e with e | e
    · omega
    · have := h.own _ e; omega
  · simp [Value.ownBlock] at e
    subst e
    rcases hor with q | q
    · exact h.own _ q.symm
    · omega
/-- What New returns. -/
def PNewP (w : World) (N : Nat) (e : Ending) (W : World) : Prop := ∃ p F, e = .returned (.tuple #[.pointer (some ⟨p, 0, none⟩), .int .i64 0]) ∧ Pol W p (List.replicate N false) F ∧ Nw w W ∧ (∀ k, F k → w.heap.size ≤ k)
theorem NewI.done {w W : World} {N : Nat} {v : Value} {l : List Int} (h : NewI w N N v l W) (hN : N ≤ 128) : PNewP w N (.returned (.tuple #[.pointer (some ⟨w.heap.size + 1, 0, none⟩), .int .i64 0])) (W.setCell ⟨w.heap.size + 1, 0, none⟩ (.pointer (some ⟨w.heap.size + 1, 0, none⟩))) := by
  have t := setCell_at W ⟨w.heap.size + 1, 0, none⟩ (.pointer (some ⟨w.heap.size + 1, 0, none⟩))
  have hsz := h.sz
  have o : ∀ j, j ≠ 0 → (W.setCell ⟨w.heap.size + 1, 0, none⟩ (.pointer (some ⟨w.heap.size + 1, 0, none⟩))).cell? ⟨w.heap.size + 1, j, none⟩ = W.cell? ⟨w.heap.size + 1, j, none⟩ := fun j hj => World.cell?_setCell_other _ _ _ _ (fun r => hj (congrArg Addr.off r).symm)
  refine ⟨w.heap.size + 1, _, rfl, ⟨w.heap.size, v, l, ⟨World.cell?_setCell_same _ _ _ h.c0, by rw [List.length_replicate]; exact (o 1 (by omega)).trans h.c1, fun i hi => ?_, by simp; omega, ?_, by rw [frI_new]; exact h.hs, by omega, fun e => by have := h.own _ e; omega, by rw [List.length_replicate]; exact hN⟩, rfl⟩, nw_tch h.nw t (fun i e => by simp at e; omega), ?_⟩
  · rw [List.length_replicate] at hi
    have e : (List.replicate N false).getD i false = false := by simp [List.getD, hi]
    rw [e]
    exact ⟨(t.cell (by omega) (by simp)).trans (h.cs i hi).1, by rw [World.frozen?_setCell]; exact (h.cs i hi).2⟩
  · refine ⟨(o 2 (by omega)).trans h.hv.hd, by rw [World.frozen?_setCell]; exact h.hv.hf, IS.tch h.hv.row t (fun b e => ?_), h.hv.ne⟩
    have := h.own b e
    simp; omega
  · rintro k (e | e | e)
    · omega
    · omega
    · have := h.own _ e; omega
set_option maxRecDepth 10000 in
set_option maxHeartbeats 1000000 in
theorem pnew_any (N : Nat) (hN : N ≤ 128) (w : World) : Calls Try.prog 9 #[.int .i64 N] w (PNewP w N) := by
  have km := fun w => mk_bools w N (by omega)
  have HS := Lib.hid (newI_start w N 4 49)
  have hd : decide (128 < N) = false := by simp; omega
  have hd2 : decide ((128 : Int) < (N : Int)) = false := by simp; omega
  go_enter Try.func9, Try.ntmps9
  go_wp2
  go_loopw [17] (fun i wr => ∃ k : Nat, k ≤ N ∧ i = .int .i64 k ∧ ∃ v l, Hid (NewI w N k v l wr)) (fun i _ => N - (intOf i).toNat)
  case atStart => exact ⟨0, Nat.zero_le _, rfl, _, _, HS⟩
  case round =>
    obtain ⟨k, hk, rfl, v, l, HI⟩ := hrel
    by_cases hlt : k < N
    · have hp := ihpush_any (w.heap.size + 1) 2 v l (castL (List.range k)) k wr HI.out.hv HI.out.hs (by rw [HI.out.hs.len, castL_range_len]; omega)
      rw [range_ins] at hp
      have HP := Lib.hid hp
      clear hp
      go_wp2_with fail
      refine HP.out.mono ?_
      rintro e w1 ⟨rfl, hw1⟩
      obtain ⟨v', l', hI⟩ := HI.out.step hw1
      have HI' := Lib.hid hI
      clear hw1 hI
      go_wp2
      go_roundw
      case rel => exact ⟨k + 1, by omega, by go_num, v', l', HI'⟩
      case measure => simp [intOf]; omega
    · obtain rfl : k = N := by omega
      have c0 := HI.out.c0
      have f0 := HI.out.f0
      have hz := HI.out.sz
      have HD := Lib.hid (HI.out.done hN)
      go_wp2
      exact bodyPost_ret (v := .tuple #[.pointer (some ⟨w.heap.size + 1, 0, none⟩), .int .i64 0]) (by simp [results, Try.results9, go_sem]) rfl HD.out
theorem pnew_bad (n : Int) (w : World) (q : ¬ (0 ≤ n ∧ n ≤ 128)) : Calls Try.prog 9 #[.int .i64 n] w fun e W' => e = .returned (.tuple #[.pointer none, .int .i64 2]) ∧ w = W' := by
  by_cases d : n < 0
  · clear q
    go_enter Try.func9, Try.ntmps9
    go_wp2
    exact bodyPost_ret (v := .tuple #[.pointer none, .int .i64 2]) (by simp [results, Try.results9, go_sem]) rfl ⟨rfl, rfl⟩
  · have d2 : (128 : Int) < n := by omega
    clear q
    go_enter Try.func9, Try.ntmps9
    go_wp2
    exact bodyPost_ret (v := .tuple #[.pointer none, .int .i64 2]) (by simp [results, Try.results9, go_sem]) rfl ⟨rfl, rfl⟩
end Go.Proofs.Ytckbjgcelpmffaa
