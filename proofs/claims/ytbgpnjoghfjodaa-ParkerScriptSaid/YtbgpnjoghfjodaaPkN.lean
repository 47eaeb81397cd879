
/- The document's own parked threads: New. -/
import Derived.Test.YtbgpnjoghfjodaaPkR
namespace Go.Proofs.Ytbgpnjoghfjodaa
open Go.RowKit

theorem infoB : (Try.prog.info? 4).map (fun i => (i.zero, i.size, i.bytes)) = some (some (.bool false), 1, 1) := by kernel_rfl
theorem mk_bools (w : World) (N : Nat) (hN : N ≤ 1000) : (Instr.makeSlice 42 (.int .i64 N) (.int .i64 N)).run Try.prog w = .ok (.slice (some ⟨w.heap.size, 0, none⟩) N N) (w.alloc (.cells (Array.replicate N (.bool false)) 4)) := by
  obtain ⟨i0, hi, hz0, hz1, hz2⟩ := info_parts infoB
  have h := run_make (P := Try.prog) w 42 4 i0 (.bool false) Try.underlying42 hi hz0 .i64 .i64 N N (by omega) (Int.le_refl _) (by rw [hz2]; omega) (by omega)
  have e : madeCells (Value.bool false).cells (N * 1) = Array.replicate N (.bool false) := by
    apply Array.ext
    · simp [madeCells]
    · intro j h1 h2
      simp [madeCells, Value.cells, Nat.mod_one]
  rw [h, hz1]
  simp only [Int.toNat_natCast, e]
/-- What New leaves: three new blocks. -/
def RNewP (W : World) (N : Nat) (e : Ending) (W' : World) : Prop := ∃ o g r, e = .returned (.tuple #[.pointer (some ⟨o, 0, none⟩), .int .i64 0]) ∧ Rk W' o g r (List.replicate N 0) ∧ W.heap.size ≤ o ∧ W.heap.size ≤ g ∧ W.heap.size ≤ r ∧ Nw W W'
theorem rnew_laid (W0 W : World) (hW : Nw W0 W) (N : Nat) (n0 : 1 ≤ N) (n1 : N ≤ 8) (T U : TypeId) (a b : Nat) (hab : (a = W.heap.size ∧ b = W.heap.size + 1) ∨ (b = W.heap.size ∧ a = W.heap.size + 1)) :
    RNewP W0 N (.returned (.tuple #[.pointer (some ⟨W.heap.size + 1 + 1, 0, none⟩), .int .i64 0]))
      (((W.alloc (.cells (Array.replicate N (.bool false)) T)).alloc (.cells (Array.replicate N (.bool false)) T)).alloc (.cells #[.slice (some ⟨a, 0, none⟩) N N, .slice (some ⟨b, 0, none⟩) N N] U)) := by
  have hs := hW.sz
  have hd : decide ((0 : Int) = 1) = false ∧ decide ((0 : Int) = 2) = false := ⟨rfl, rfl⟩
  refine ⟨_, a, b, rfl, ?_, by omega, by omega, by omega, hW.trans ((((Nw.refl W).alloc _).alloc _).alloc _)⟩
  refine ⟨by simp [go_sem], by simp [go_sem], fun i hi => ?_, fun i hi => ?_, by simp, by simp; omega, by simp; omega, by omega, by omega, by omega, vl_new N n0 n1⟩
  · simp at hi
    rw [st_new, hd.1]
    rcases hab with ⟨rfl, rfl⟩ | ⟨rfl, rfl⟩ <;> constructor <;> simp [go_sem, hi]
  · simp at hi
    rw [st_new, hd.2]
    rcases hab with ⟨rfl, rfl⟩ | ⟨rfl, rfl⟩ <;> constructor <;> simp [go_sem, hi]
theorem rnew_at (N : Nat) (n0 : 1 ≤ N) (n1 : N ≤ 8) (w : World) : Calls Try.prog 18 #[.int .i64 N] w (RNewP w N) := by
  have HN := Lib.hid (fun a b h => rnew_laid w w.drew ((Nw.refl w).drewN 1) N n0 n1 4 54 a b h)
  have km := fun w => mk_bools w N (by omega)
  have d1 : decide ((N : Int) < 1) = false := by simp; omega
  have d2 : decide ((8 : Int) < (N : Int)) = false := by simp; omega
  go_enter Try.func18, Try.ntmps18
  go_wp2
  go_region
  all_goals
    go_wp2
    refine bodyPost_ret (v := .tuple #[.pointer (some ⟨w.heap.size + 1 + 1, 0, none⟩), .int .i64 0]) (by simp [results, Try.results18, go_sem]) rfl ?_
    first
      | exact HN.out _ _ (.inl ⟨rfl, rfl⟩)
      | exact HN.out _ _ (.inr ⟨rfl, rfl⟩)
theorem rnew_bad (n : Int) (w : World) (q : ¬ (1 ≤ n ∧ n ≤ 8)) : Calls Try.prog 18 #[.int .i64 n] w fun e W' => e = .returned (.tuple #[.pointer none, .int .i64 2]) ∧ w = W' := by
  by_cases d : n < 1
  · clear q
    go_enter Try.func18, Try.ntmps18
    go_wp2
    exact bodyPost_ret (v := .tuple #[.pointer none, .int .i64 2]) (by simp [results, Try.results18, go_sem]) rfl ⟨rfl, rfl⟩
  · have d2 : (8 : Int) < n := by omega
    clear q
    go_enter Try.func18, Try.ntmps18
    go_wp2
    exact bodyPost_ret (v := .tuple #[.pointer none, .int .i64 2]) (by simp [results, Try.results18, go_sem]) rfl ⟨rfl, rfl⟩
end Go.Proofs.Ytbgpnjoghfjodaa
