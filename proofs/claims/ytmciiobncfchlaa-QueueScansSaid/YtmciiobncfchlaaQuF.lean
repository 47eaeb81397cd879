
/- The document's own queue: copied, Find, Mode. -/
import Derived.Test.YtmciiobncfchlaaQuE
namespace Go.Proofs.Ytmciiobncfchlaa
open Go.RowKit
set_option linter.unusedVariables false      -- a contract need not use every name

set_option maxHeartbeats 400000 in
theorem r9copied (t r W : Int) (v : Value) (q : List Rq) (w : World) (hl : q.length ≤ 1000) (h : RqAt w v q) :
    Calls Try.prog 62 #[hdV t r v W] w fun e w' => ∃ v', e = .returned (hdV t r v' W) ∧ Nw w w' ∧ RqOwn w' w.heap.size v' q := by
  unfold hdV
  have hN2 : Nw w ((w.alloc (.cells #[.int .i64 t, .int .i64 r, v, .int .i64 W] 27)).alloc (.cells #[.int .i64 0, .int .i64 0, .slice none 0 0, .int .i64 0] 27)) := ((Nw.refl w).alloc _).alloc _
  have hb := hN2.sz
  have hp0 := allocAt w (.cells #[.int .i64 t, .int .i64 r, v, .int .i64 W] 27)
  have hp := ((Nw.refl _).alloc (.cells #[.int .i64 0, .int .i64 0, .slice none 0 0, .int .i64 0] 27)).at' hp0
  have hq := allocAt (w.alloc (.cells #[.int .i64 t, .int .i64 r, v, .int .i64 W] 27)) (.cells #[.int .i64 0, .int .i64 0, .slice none 0 0, .int .i64 0] 27)
  obtain ⟨v', w1, hrun, hO, hN⟩ := own_clone elemRq (h.nw hN2) (by omega)
  have hp1 := hN.at' hp
  have hq1 := hN.at' hq
  have hOl := fun g hg => oge hO (g := g) hg
  obtain ⟨a, c, rfl⟩ := h.form
  obtain ⟨a', c', hv'⟩ := (RqOwn.rd hO).form
  subst hv'
  have hz : w.heap.size + 1 ≤ ((w.alloc (.cells #[.int .i64 t, .int .i64 r, .slice a q.length c, .int .i64 W] 27)).alloc (.cells #[.int .i64 0, .int .i64 0, .slice none 0 0, .int .i64 0] 27)).heap.size := by simp
  have hsz1 : (w.alloc (.cells #[.int .i64 t, .int .i64 r, .slice a q.length c, .int .i64 W] 27)).heap.size = w.heap.size + 1 := by simp
  rw [hsz1] at hq hq1
  have hsz2 : ((w.alloc (.cells #[.int .i64 t, .int .i64 r, .slice a q.length c, .int .i64 W] 27)).alloc (.cells #[.int .i64 0, .int .i64 0, .slice none 0 0, .int .i64 0] 27)).heap.size = w.heap.size + 1 + 1 := by simp
  rw [hsz2] at hrun hO hOl
  have HR := Lib.hid hrun
  have hw1 := hN2.trans hN
  have hz1 : w.heap.size + 1 < w1.heap.size := Nat.lt_of_lt_of_le (by rw [hsz2]; omega) hN.sz
  have hpc : ∀ k, w1.cell? ⟨w.heap.size, k, none⟩ = _ := fun k => hcell (j := k) hp1
  have c0 := hpc 0
  have c1 := hpc 1
  have c2 := hpc 2
  have c3 := hpc 3
  have hqc : ∀ k, w1.cell? ⟨w.heap.size + 1, k, none⟩ = _ := fun k => hcell (j := k) hq1
  have d0 := hqc 0
  have d1 := hqc 1
  have d2 := hqc 2
  have d3 := hqc 3
  have fz := fun k => hfz (j := k) hp1
  have fz' := fun k => hfz (j := k) hq1
  have HX := Lib.hid (And.intro hO (And.intro hw1 (And.intro hp1 (And.intro hq1 hOl))))
  clear hrun hO hw1 hp1 hq1 hp hq hp0 hN hN2 h hb hOl hpc hqc hsz1 hsz2 hz
  go_enter Try.func62, Try.ntmps62
  go_wp2_with (at_builtin; refine wpl_app (by rfl) (.tmp 3) (.tmp 5) 25 rfl _ _ _ _ rfl rfl HR.out ?_)
  refine bodyPost_ret (v := .agg #[.int .i64 t, .int .i64 r, .slice a' q.length c', .int .i64 W]) (by simp [results, Try.results62, go_sem, *]) rfl ⟨_, rfl, ?_, ?_⟩
  · exact ((((HX.out.2.1.st (Nat.le_refl _) _).st (Nat.le_succ _) _).st (Nat.le_succ _) _).st (Nat.le_succ _) _).st (Nat.le_succ _) _
  · have hO := HX.out.1
    have hr := own_st (own_st (own_st (own_st (own_st hO (p := ⟨w.heap.size, 2, none⟩) (by show w.heap.size < _; omega) (.slice a' q.length c')) (p := ⟨w.heap.size + 1, 0, none⟩) (by show w.heap.size + 1 < _; omega) (.int .i64 t)) (p := ⟨w.heap.size + 1, 1, none⟩) (by show w.heap.size + 1 < _; omega) (.int .i64 r)) (p := ⟨w.heap.size + 1, 2, none⟩) (by show w.heap.size + 1 < _; omega) (.slice a' q.length c')) (p := ⟨w.heap.size + 1, 3, none⟩) (by show w.heap.size + 1 < _; omega) (.int .i64 W)
    exact olow hr (fun g hg => by have := oge hr hg; omega)
end Go.Proofs.Ytmciiobncfchlaa
