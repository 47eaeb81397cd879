
/- The checker's kit on heads: Own, OwnHead, LightHeads. -/
import Derived.Test.YtmciiobncfchlaaQuN
namespace Go.Proofs.Ytmciiobncfchlaa
open Go.RowKit
set_option linter.unusedVariables false      -- a contract need not use every name

theorem kOwn (v : Value) (q : List Rq) (w : World) (hl : q.length ≤ 1000) (h : RqAt w v q) :
    Calls Try.prog 49 #[v] w fun e w' => ∃ v', e = .returned v' ∧ Nw w w' ∧ RqOwn w' w.heap.size v' q := by
  obtain ⟨v', w1, hrun, hO, hN⟩ := own_clone elemRq h (by omega)
  obtain ⟨a, c, rfl⟩ := h.form
  have HR := Lib.hid hrun
  have HO := Lib.hid (And.intro hN hO)
  clear hrun hO hN h
  go_enter Try.func49, Try.ntmps49
  go_wp2_with (at_builtin; refine wpl_app (by rfl) (.tmp 3) (.tmp 4) 25 rfl _ _ _ _ rfl rfl HR.out ?_)
  go_ret
  exact ⟨_, rfl, HO.out.1, HO.out.2⟩
set_option maxHeartbeats 2000000 in
theorem kOwnHead (t r W : Int) (v : Value) (q : List Rq) (w : World) (hl : q.length ≤ 1000) (h : RqAt w v q) :
    Calls Try.prog 16 #[hdV t r v W] w fun e w' => ∃ v', e = .returned (hdV t r v' W) ∧ Nw w w' ∧ RqOwn w' w.heap.size v' q := by
  have HK := Lib.hid (fun (w1 : World) (g : Nw w w1) => kOwn v q w1 hl (h.nw g))
  unfold hdV
  obtain ⟨a, c, rfl, h⟩ := h
  clear h
  have HX := Lib.hid (two_boxes w (.cells #[.int .i64 t, .int .i64 r, .slice a q.length c, .int .i64 W] 27) (.cells #[.int .i64 0, .int .i64 0, .slice none 0 0, .int .i64 0] 27))
  go_enter Try.func16, Try.ntmps16
  go_wp2_with fail
  refine (HK.out _ HX.out.2.2.1).mono ?_
  rintro e w1 ⟨v1, rfl, g1, hO⟩
  obtain ⟨a1, k1, rfl⟩ := (RqOwn.rd hO).form
  have hp := g1.at' HX.out.1
  have hq := g1.at' HX.out.2.1
  have hN := HX.out.2.2.1.trans g1
  rw [HX.out.2.2.2] at hO
  have c0 := hcell (j := 0) hp
  have c1 := hcell (j := 1) hp
  have c2 := hcell (j := 2) hp
  have c3 := hcell (j := 3) hp
  have fz' := fun k => hfz (j := k) hp
  have d0 := hcell (j := 0) hq
  have d1 := hcell (j := 1) hq
  have d2 := hcell (j := 2) hq
  have d3 := hcell (j := 3) hq
  have fz := fun k => hfz (j := k) hq
  have HO := Lib.hid (And.intro hN hO)
  clear hp hq hN hO HX HK g1
  go_wp2
  refine bodyPost_ret (v := .agg #[.int .i64 t, .int .i64 r, .slice a1 q.length k1, .int .i64 W]) (by simp [results, Try.results16, go_sem, *]) rfl ⟨_, rfl, fill_nw (HO.out.1.st (Nat.le_refl _) _) (Nat.le_succ _) _ _ _ _, ?_⟩
  have h5 := own_st HO.out.2 (p := ⟨w.heap.size, 2, none⟩) (by show w.heap.size < _; omega) (.slice a1 q.length k1)
  have hr := fill_own (rb := w.heap.size + 1) h5 (by omega) (.int .i64 t) (.int .i64 r) (.slice a1 q.length k1) (.int .i64 W)
  exact olow hr (fun g hg => by have := oge hr hg; omega)
end Go.Proofs.Ytmciiobncfchlaa
