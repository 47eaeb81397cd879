
/- The document's own New; Same on what Held returns is in Ints. -/
import Derived.Test.YtloendfkfginjaaLtR
namespace Go.Proofs.Ytloendfkfginjaa
open Go.RowKit

theorem rnew_bad (n : Int) (W : World) (hn : ¬ (1 ≤ n ∧ n ≤ 16)) : Calls Try.prog 17 #[.int .i64 n] W fun e W' => e = .returned (.tuple #[.pointer none, .int .i64 2]) ∧ W = W' := by
  by_cases d : n < 1
  · clear hn
    go_enter Try.func17, Try.ntmps17
    go_wp2
    exact bodyPost_ret (v := .tuple #[.pointer none, .int .i64 2]) (by simp [results, Try.results17, go_sem]) rfl ⟨rfl, rfl⟩
  · have d2 : (16 : Int) < n := by omega
    clear hn
    go_enter Try.func17, Try.ntmps17
    go_wp2
    exact bodyPost_ret (v := .tuple #[.pointer none, .int .i64 2]) (by simp [results, Try.results17, go_sem]) rfl ⟨rfl, rfl⟩
theorem lr_new (w : World) (T : TypeId) : Lr (w.alloc (.cells #[.slice none 0 0] T)) w.heap.size (.slice none 0 0) [] :=
  ⟨by simp [go_sem], by simp [go_sem], by simp, IS.nil _, fun k e => by simp [Value.ownBlock] at e⟩
theorem rnew_at (N : Nat) (n0 : 1 ≤ N) (n1 : N ≤ 16) (W : World) : Calls Try.prog 17 #[.int .i64 N] W fun e W' => ∃ o g cap, e = .returned (.tuple #[.pointer (some ⟨o, 0, none⟩), .int .i64 0]) ∧ Lg W' o g cap (List.replicate N (-1)) ∧ W.heap.size ≤ o ∧ W.heap.size ≤ g ∧ Nw W W' := by
  have HV := Lib.hid (vl_new N n0 n1)
  have HN := Lib.hid (lr_new W 54)
  have d1 : decide ((N : Int) < 1) = false := by simp; omega
  have d2 : decide ((16 : Int) < (N : Int)) = false := by simp; omega
  go_enter Try.func17, Try.ntmps17
  go_wp2
  go_loopw [5] (fun i wr => ∃ k : Nat, k ≤ N ∧ i = .int .i64 k ∧ ∃ v, Hid (Lr wr W.heap.size v (List.replicate k (-1))) ∧ (∀ k, v.ownBlock = some k → W.heap.size ≤ k) ∧ Nw W wr) (fun i _ => N - (intOf i).toNat)
  case atStart => exact ⟨0, Nat.zero_le _, rfl, _, Lib.hid HN.out, fun k e => by simp [Value.ownBlock] at e, (Nw.refl W).alloc _⟩
  case round =>
    obtain ⟨k, hk, rfl, v, hL, hv, hG⟩ := hrel
    by_cases hlt : k < N
    · obtain ⟨v', w1, hrun, q1, q2, q3, g', cap', rfl⟩ := IS.push _ v (List.replicate k (-1)) (-1) hL.out.is (by simp; omega)
      have nv : ∀ g, v.ownBlock = some g → g ≠ W.heap.size := hL.out.ne
      have nS : ¬ (fun k => v.ownBlock = some k) W.heap.size := fun e => nv _ e rfl
      have c0 := hL.out.lst
      have olt := hL.out.lt
      have c1 : w1.cell? ⟨W.heap.size, 0, none⟩ = some v := (q2.cell olt nS).trans c0
      have f1 : w1.frozen? ⟨W.heap.size, 0, none⟩ = false := (q2.froz olt nS).trans hL.out.fz
      have t1 := setCell_at w1 ⟨W.heap.size, 0, none⟩ (.slice (some ⟨g', 0, none⟩) ((List.replicate k (-1 : Int)).length + 1) cap')
      have ng : g' ≠ W.heap.size := fun e => (q3 g' rfl).elim (fun q => nv _ q e) (fun q => by omega)
      have HP := Lib.hid (show Lr (w1.setCell ⟨W.heap.size, 0, none⟩ (.slice (some ⟨g', 0, none⟩) (k + 1) cap')) W.heap.size (.slice (some ⟨g', 0, none⟩) (k + 1) cap') (List.replicate (k + 1) (-1)) from by
        refine ⟨World.cell?_setCell_same _ _ _ c1, by rw [World.frozen?_setCell]; exact f1, by simpa using Nat.lt_of_lt_of_le olt q2.size, ?_, fun k e => by simp [Value.ownBlock] at e; omega⟩
        have q1' := q1.tch t1 (fun k e q => ng ((show g' = k by simpa [Value.ownBlock] using e).trans q))
        simpa [List.replicate_succ', List.length_replicate] using q1')
      have HG := Lib.hid (show Nw W (w1.setCell ⟨W.heap.size, 0, none⟩ (.slice (some ⟨g', 0, none⟩) (k + 1) cap')) from by
        simp only [List.length_replicate] at t1
        exact nw_tch (nw_tch hG q2 (fun i e => hv i e)) t1 (fun i e => by subst e; exact Nat.le_refl _))
      have hq : ∀ j, (Value.slice (some ⟨g', 0, none⟩) (k + 1) cap').ownBlock = some j → W.heap.size ≤ j := fun j e => (q3 j (by simpa [Value.ownBlock] using e)).elim (hv j) (fun q => Nat.le_trans hG.sz q)
      simp only [List.length_replicate] at hrun
      have HR := Lib.hid hrun
      clear hrun q1 q2 q3 nv nS t1 ng
      obtain ⟨ao, cap, rfl, _⟩ := hL.out.is.box
      simp only [List.length_replicate] at c0 c1 HR
      go_wp2_with (at_builtin; refine wpList_append_run (by rfl) (.tmp 23) (.tmp 24) 33 rfl _ _ _ _ rfl rfl HR.out ?_)
      go_roundw
      case rel => exact ⟨k + 1, by omega, by go_num, _, Lib.hid HP.out, hq, HG.out⟩
      case measure => simp [intOf]; omega
    · obtain rfl : k = N := by omega
      have HL := Lib.hid hL.out
      rcases hL.out.is.form with ⟨_, q⟩ | ⟨g, cap, rfl⟩
      · simp at q; omega
      · have hgb := hv g rfl
        have HF := Lib.hid (show Lg _ W.heap.size g cap (List.replicate k (-1)) from ⟨hL.out, HV.out⟩)
        clear hL hv
        go_wp2
        exact bodyPost_ret (v := .tuple #[.pointer (some ⟨W.heap.size, 0, none⟩), .int .i64 0]) (by simp [results, Try.results17, go_sem]) rfl ⟨_, g, cap, rfl, HF.out, Nat.le_refl _, hgb, hG⟩
end Go.Proofs.Ytloendfkfginjaa
