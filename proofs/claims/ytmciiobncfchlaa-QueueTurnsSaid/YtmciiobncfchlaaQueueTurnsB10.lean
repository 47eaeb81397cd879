/- Texts merged: QvY, Shelf, QwA, Rf, QvQ, QvR -/
import Derived.Test.YtmciiobncfchlaaQueueTurnsB9
import Derived.Deep.QuietTactic
import Derived.BigQuiet
import Derived.Shelf.Small.Wraps
import Derived.Shelf.Sort.Plain
import Derived.Ground.Names2Prog
import Derived.Shelf.Slices.CompactI
import Derived.Shelf.Slices.Cells
import Derived.Shelf.Slices.In.SortNone
import Derived.Test.YtmciiobncfchlaaProg
import Derived.Sort.OwnSortedInts
import Derived.Lib.RowBridge
import Derived.RangeFuncNested
import Derived.RangeFuncBound
import Derived.RangeFuncCalls
import Derived.RangeFuncLeaves
import Derived.Shelf.RegionOpen
import Derived.OwnWalkIn
import Derived.TacticsInMore
import Derived.LoopNIn
import Derived.LoopIn
import Derived.Shelf.Abstract

/- The developers' package queue: Group, Same. -/
section
namespace Go.Proofs.Ytmciiobncfchlaa
open Go.RowKit
set_option linter.unusedVariables false      -- a contract need not use every name

set_option maxHeartbeats 1000000 in
theorem dGroup1 (v : Value) (l : List Int) (w : World) (hl : l.length ≤ 1000) (hkn : ∀ z ∈ l, knI z = true) (h : Rd 1 mdrow w v l) :
    Calls Try.prog 54 #[v] w fun e w' => e = .returned (.int .i64 (l.foldl supT 0)) ∧ Nw w w' := by
  have HK := Lib.hid (fun k => (fold_cov 0 rfl (l.take k) 0 rfl (fun z hz => hkn z (List.mem_of_mem_take hz))).1)
  have HKn := Lib.hid hkn
  clear hkn
  obtain ⟨a, c, rfl, ⟨rfl, _⟩ | ⟨b, o, rfl, hc⟩⟩ := h
  · go_enter Try.func54, Try.ntmps54
    go_wp2
    refine wp_loop_rounds 1 ?_
    rw [rounds_succ]
    go_wp2
    go_ret
    exact ⟨rfl, Nw.refl _⟩
  · have HC := Lib.hid hc
    clear hc
    go_enter Try.func54, Try.ntmps54
    go_wp2
    go_loopw [3, 8] (fun s i wr => ∃ k : Nat, k ≤ l.length ∧ i = .int .i64 k ∧ s = .int .i64 ((l.take k).foldl supT 0) ∧ Nw w wr) (fun _ i _ => l.length - (intOf i).toNat)
    case atStart => exact ⟨0, Nat.zero_le _, rfl, rfl, Nw.refl _⟩
    case round =>
      obtain ⟨k, hk, rfl, rfl, hG⟩ := hrel
      by_cases hlt : k < l.length
      · have hce := (HC.out.nw hG).cell k hlt 0 _ rfl
        simp only [Nat.mul_one, Nat.add_zero] at hce
        have HS := Lib.hid (show (l.take (k + 1)).foldl supT 0 = supT ((l.take k).foldl supT 0) l[k] by rw [List.take_add_one, List.getElem?_eq_getElem hlt, List.foldl_append]; rfl)
        have HSp := Lib.hid (fun w => dSup ((l.take k).foldl supT 0) l[k] w (HK.out k) (HKn.out _ (List.getElem_mem hlt)))
        generalize (l.take k).foldl supT 0 = s at *
        generalize l[k] = z at *
        have HG := Lib.hid hG
        clear hG
        go_wp2_with (go_at_call 43; refine (HSp.out _).mono ?_; rintro e w' ⟨rfl, hg⟩)
        go_roundw
        case rel => exact ⟨k + 1, by omega, by go_num, by rw [HS.out], Nw.trans HG.out hg⟩
        case measure => simp [intOf]; omega
      · obtain rfl : k = l.length := by omega
        have HG := Lib.hid hG
        clear hG
        rw [List.take_of_length_le (Nat.le_refl _)]
        go_wp2
        go_ret
        exact ⟨rfl, HG.out⟩
set_option maxRecDepth 100000 in
set_option maxHeartbeats 4000000 in
theorem dGroup (t r W : Int) (v : Value) (q : List Rq) (w : World) (hl : q.length ≤ 1000) (hkn : ∀ R ∈ q, knI R.md = true) (h : RqAt w v q) :
    Calls Try.prog 21 #[hdV t r v W] w fun e w' => e = .returned (.int .i64 (grpQ q)) ∧ Nw w w' := by
  have HGr := Lib.hid (fun (v2 : Value) (w1 : World) (h : Rd 1 mdrow w1 v2 (q.map fun x => x.md)) => dGroup1 v2 (q.map fun x => x.md) w1 (by simpa using hl) (fun z hz => by obtain ⟨R, hR, rfl⟩ := List.mem_map.1 hz; exact hkn R hR) h)
  clear hkn
  have HAt := Lib.hid h
  obtain ⟨a, c, rfl, _⟩ := h
  unfold hdV
  have hx1 := allocAt w (.cells #[.int .i64 t, .int .i64 r, .slice a q.length c, .int .i64 W] 27)
  have hN : Nw w (w.alloc (.cells #[.int .i64 t, .int .i64 r, .slice a q.length c, .int .i64 W] 27)) := (Nw.refl w).alloc _
  obtain ⟨w1, hw1⟩ : ∃ w1, w.alloc (.cells #[.int .i64 t, .int .i64 r, .slice a q.length c, .int .i64 W] 27) = w1 := ⟨_, rfl⟩
  rw [hw1] at hx1 hN
  have HW1 := Lib.hid hw1
  have HB := Lib.hid (And.intro hx1 hN)
  have c2 := hcell (j := 2) hx1
  have hpl := hlt hx1
  clear hw1 hx1 hN
  go_enter Try.func21, Try.ntmps21
  go_wp2_with fail
  rw [HW1.out]
  go_wp2
  clear c2 hpl HW1
  go_loopw [3, 9] (fun m i wr => ∃ k : Nat, k ≤ q.length ∧ i = .int .i64 k ∧ Own 32 1 mdrow wr w1.heap.size m ((q.map fun x => x.md).take k) ∧ Nw w1 wr) (fun _ i _ => q.length - (intOf i).toNat)
  case atStart => exact ⟨0, Nat.zero_le _, rfl, World.ownsRow_nil _ _ _ _, Nw.refl _⟩
  case round =>
    obtain ⟨k, hk, rfl, hO, hG⟩ := hrel
    by_cases hlt : k < q.length
    · obtain ⟨a', c', e, ⟨e4, _⟩ | ⟨b, o, e4, hc⟩⟩ := (HAt.out.nw (HB.out.2.trans hG))
      · subst e4; simp at hlt
      simp only [Value.slice.injEq, true_and] at e
      obtain ⟨rfl, rfl⟩ := e
      subst e4
      have hki : (k : Int) < (q.length : Int) := by omega
      have hce := hc.cell k hlt
      have HX := Lib.hid (show (q.map fun x => x.md).take (k + 1) = (q.map fun x => x.md).take k ++ [q[k].md] by rw [List.take_add_one, List.getElem?_map, List.getElem?_eq_getElem hlt]; rfl)
      generalize q[k] = R at *
      obtain ⟨b0, b1, b2, b3, b4⟩ := R
      have e0 := hce 0 _ rfl
      have e1 := hce 1 _ rfl
      have e2 := hce 2 _ rfl
      have e3 := hce 3 _ rfl
      have e4 := hce 4 _ rfl
      simp only [Nat.add_zero] at e0
      simp only at HX
      have g6 : Nw wr (wr.alloc (.cells #[.int .i64 b0, .int .i64 b1, .int .i64 b2, .int .i64 b3, .int .i64 b4] 41)) := (Nw.refl wr).alloc _
      obtain ⟨w6, hw6⟩ : ∃ w6, wr.alloc (.cells #[.int .i64 b0, .int .i64 b1, .int .i64 b2, .int .i64 b3, .int .i64 b4] 41) = w6 := ⟨_, rfl⟩
      have hs6 : w6.heap.size = wr.heap.size + 1 := by rw [← hw6]; simp
      have hq6 := RqB.made wr b0 b1 b2 b3 b4 41
      rw [hw6] at g6 hq6
      obtain ⟨hlq, y0, y1, y2, y3, y4⟩ := hq6
      have HW6 := Lib.hid hw6
      have hNa : Nw w6 (w6.alloc (.cells #[.int .i64 b2] 32)) := (Nw.refl w6).alloc _
      have hal := allocAt w6 (.cells #[.int .i64 b2] 32)
      obtain ⟨v3, y3', hrun, hO3, hG3, hb3, g3, cap3, hv3⟩ := Own.push elemMd (onw hO (g6.trans hNa)) b2 w6.heap.size 1 (fun j u hu => by
        rw [hcell hal]
        simpa [mdrow] using hu) (by rw [List.length_take]; omega) (Nat.le_trans (hG.trans g6).sz hNa.sz)
      rw [← HX.out] at hO3
      have hN3 : Nw w1 y3' := ((hG.trans g6).trans hNa).gro hG3 (fun k hk => oge hO hk)
      have hlen : ((q.map fun x => x.md).take k).length = k := by simp; omega
      subst hv3
      rw [hlen] at hO3 hrun
      rw [hs6, ← hw6] at hrun
      clear hs6
      have HO3 := Lib.hid hO3
      have HN3 := Lib.hid hN3
      have HR2 := Lib.hid hrun
      clear hrun hO3 hN3 hG3 hb3 hal hNa hO hG hce hc g6 hw6
      clear HW6 y0 y1 y2 y3 y4 hlq
      go_wp2_with (at_builtin; (refine wpl_app (by rfl) (.tmp 13) (.tmp 16) 84 rfl _ _ _ _ rfl rfl HR2.out ?_))
      go_roundw
      case rel => exact ⟨k + 1, by omega, by go_num, HO3.out, HN3.out⟩
      case measure => simp [intOf]; omega
    · obtain rfl : k = q.length := by omega
      rw [List.take_of_length_le (by simp)] at hO
      have HO := Lib.hid (Own.rd (sz := 1) (row := mdrow) (fun _ => rfl) hO)
      have HG := Lib.hid hG
      clear hO hG
      go_wp2_with fail
      go_at_call 54
      refine (HGr.out _ _ HO.out).mono ?_
      rintro e w2 ⟨rfl, g⟩
      have HG2 := Lib.hid (HB.out.2.trans (HG.out.trans g))
      clear g HG HO HB
      go_wp2
      go_ret
      exact ⟨rfl, HG2.out⟩
set_option maxRecDepth 100000 in
set_option maxHeartbeats 4000000 in
theorem dEqual (v v' : Value) (q q' : List Rq) (w : World) (hl : q.length ≤ 1000) (h : RqAt w v q) (h' : RqAt w v' q') :
    Calls Try.prog 56 #[v, v'] w fun e w' => ∃ f, e = .returned (.bool f) ∧ Nw w w' ∧ (f = true ↔ q = q') := by
  obtain ⟨a, c, rfl, hh⟩ := h
  obtain ⟨a', c', rfl, hh'⟩ := h'
  by_cases hn : q.length = q'.length
  rotate_left
  · have hni : ((q.length : Int) != (q'.length : Int)) = true := by rw [bne_iff_ne]; omega
    clear hh hh'
    go_enter Try.func56, Try.ntmps56
    go_wp2
    go_ret
    exact ⟨_, rfl, Nw.refl _, by constructor <;> intro e; cases e; exact absurd (by rw [e]) hn⟩
  rw [← hn]
  have hni : ((q.length : Int) != (q.length : Int)) = false := by simp
  have HC := Lib.hid (And.intro hh hh')
  have HNn := Lib.hid hn
  clear hh hh' hn
  go_enter Try.func56, Try.ntmps56
  go_wp2
  go_loopw [13] (fun i wr => ∃ k : Nat, k ≤ q.length ∧ i = .int .i64 k ∧ q.take k = q'.take k ∧ Nw w wr) (fun i _ => q.length - (intOf i).toNat)
  case atStart => exact ⟨0, Nat.zero_le _, rfl, rfl, Nw.refl _⟩
  case round =>
    obtain ⟨k, hk, rfl, hf, hG⟩ := hrel
    have HG := Lib.hid hG
    by_cases hlt : k < q.length
    · have hlt' : k < q'.length := by have := HNn.out; omega
      rcases HC.out.1 with ⟨e4, _⟩ | ⟨b, o, e4, hc⟩
      · subst e4; simp at hlt
      rcases HC.out.2 with ⟨e5, _⟩ | ⟨b', o', e5, hc'⟩
      · subst e5; simp at hlt'
      subst e4 e5
      have hki : (k : Int) < (q.length : Int) := by omega
      have hce := (hc.nw hG).cell k hlt
      have hde := (hc'.nw hG).cell k hlt'
      have HNe := Lib.hid (fun e => take_ne hlt hlt' e)
      have HEq := Lib.hid (fun e => take_two hlt hlt' hf e)
      generalize q[k] = R at *
      generalize q'[k] = R' at *
      obtain ⟨b0, b1, b2, b3, b4⟩ := R
      obtain ⟨f0, f1, f2, f3, f4⟩ := R'
      have e0 := hce 0 _ rfl
      have e1 := hce 1 _ rfl
      have e2 := hce 2 _ rfl
      have e3 := hce 3 _ rfl
      have e4 := hce 4 _ rfl
      have g0 := hde 0 _ rfl
      have g1 := hde 1 _ rfl
      have g2 := hde 2 _ rfl
      have g3 := hde 3 _ rfl
      have g4 := hde 4 _ rfl
      simp only [Nat.add_zero] at e0 g0
      clear hce hde hc hc' hf hG
      by_cases x0 : b0 = f0
      rotate_left
      · have y0 : (b0 == f0) = false := by simpa using x0
        have HQ := Lib.hid (HNe.out (fun e => x0 (by injection e)))
        clear x0 HNe HEq
        go_wp2_with fail
        go_quiet (fail)
        go_wp2
        go_ret
        exact ⟨false, rfl, HG.out.drewN _, by simpa using HQ.out⟩
      subst x0
      by_cases x1 : b1 = f1
      rotate_left
      · have y1 : (b1 == f1) = false := by simpa using x1
        have HQ := Lib.hid (HNe.out (fun e => x1 (by injection e)))
        clear x1 HNe HEq
        go_wp2_with fail
        go_quiet (fail)
        go_wp2
        go_ret
        exact ⟨false, rfl, HG.out.drewN _, by simpa using HQ.out⟩
      subst x1
      by_cases x2 : b2 = f2
      rotate_left
      · have y2 : (b2 == f2) = false := by simpa using x2
        have HQ := Lib.hid (HNe.out (fun e => x2 (by injection e)))
        clear x2 HNe HEq
        go_wp2_with fail
        go_quiet (fail)
        go_wp2
        go_ret
        exact ⟨false, rfl, HG.out.drewN _, by simpa using HQ.out⟩
      subst x2
      by_cases x3 : b3 = f3
      rotate_left
      · have y3 : (b3 == f3) = false := by simpa using x3
        have HQ := Lib.hid (HNe.out (fun e => x3 (by injection e)))
        clear x3 HNe HEq
        go_wp2_with fail
        go_quiet (fail)
        go_wp2
        go_ret
        exact ⟨false, rfl, HG.out.drewN _, by simpa using HQ.out⟩
      subst x3
      by_cases x4 : b4 = f4
      rotate_left
      · have y4 : (b4 == f4) = false := by simpa using x4
        have HQ := Lib.hid (HNe.out (fun e => x4 (by injection e)))
        clear x4 HNe HEq
        go_wp2_with fail
        go_quiet (fail)
        go_wp2
        go_ret
        exact ⟨false, rfl, HG.out.drewN _, by simpa using HQ.out⟩
      subst x4
      have HQ := Lib.hid (HEq.out rfl)
      clear HNe HEq
      go_wp2_with fail
      go_quiet (fail)
      go_wp2
      go_roundw
      case rel => exact ⟨k + 1, by omega, by go_num, HQ.out, HG.out.drewN _⟩
      case measure => simp [intOf]; omega
    · obtain rfl : k = q.length := by omega
      clear hG
      go_wp2
      go_ret
      exact ⟨_, rfl, HG.out, by
        have h2 := hf
        rw [List.take_of_length_le (Nat.le_refl _), List.take_of_length_le (by have := HNn.out; omega)] at h2
        simp [h2]⟩
set_option maxRecDepth 100000 in
set_option maxHeartbeats 4000000 in
theorem kSameRq (v v' : Value) (q q' : List Rq) (w : World) (hl : q.length ≤ 1000) (h : RqAt w v q) (h' : RqAt w v' q') :
    Calls Try.prog 19 #[v, v'] w fun e w' => ∃ f, e = .returned (.bool f) ∧ Nw w w' ∧ (f = true ↔ q = q') := by
  obtain ⟨a, c, rfl, hh⟩ := h
  obtain ⟨a', c', rfl, hh'⟩ := h'
  by_cases hn : q.length = q'.length
  rotate_left
  · have hni : ((q.length : Int) != (q'.length : Int)) = true := by rw [bne_iff_ne]; omega
    clear hh hh'
    go_enter Try.func19, Try.ntmps19
    go_wp2
    go_ret
    exact ⟨_, rfl, Nw.refl _, by constructor <;> intro e; cases e; exact absurd (by rw [e]) hn⟩
  rw [← hn]
  have hni : ((q.length : Int) != (q.length : Int)) = false := by simp
  have HC := Lib.hid (And.intro hh hh')
  have HNn := Lib.hid hn
  clear hh hh' hn
  go_enter Try.func19, Try.ntmps19
  go_wp2
  go_loopw [5] (fun i wr => ∃ k : Nat, k ≤ q.length ∧ i = .int .i64 k ∧ q.take k = q'.take k ∧ Nw w wr) (fun i _ => q.length - (intOf i).toNat)
  case atStart => exact ⟨0, Nat.zero_le _, rfl, rfl, Nw.refl _⟩
  case round =>
    obtain ⟨k, hk, rfl, hf, hG⟩ := hrel
    have HG := Lib.hid hG
    by_cases hlt : k < q.length
    · have hlt' : k < q'.length := by have := HNn.out; omega
      rcases HC.out.1 with ⟨e4, _⟩ | ⟨b, o, e4, hc⟩
      · subst e4; simp at hlt
      rcases HC.out.2 with ⟨e5, _⟩ | ⟨b', o', e5, hc'⟩
      · subst e5; simp at hlt'
      subst e4 e5
      have hki : (k : Int) < (q.length : Int) := by omega
      have hce := (hc.nw hG).cell k hlt
      have hde := (hc'.nw hG).cell k hlt'
      have HNe := Lib.hid (fun e => take_ne hlt hlt' e)
      have HEq := Lib.hid (fun e => take_two hlt hlt' hf e)
      generalize q[k] = R at *
      generalize q'[k] = R' at *
      obtain ⟨b0, b1, b2, b3, b4⟩ := R
      obtain ⟨f0, f1, f2, f3, f4⟩ := R'
      have e0 := hce 0 _ rfl
      have e1 := hce 1 _ rfl
      have e2 := hce 2 _ rfl
      have e3 := hce 3 _ rfl
      have e4 := hce 4 _ rfl
      have g0 := hde 0 _ rfl
      have g1 := hde 1 _ rfl
      have g2 := hde 2 _ rfl
      have g3 := hde 3 _ rfl
      have g4 := hde 4 _ rfl
      simp only [Nat.add_zero] at e0 g0
      clear hce hde hc hc' hf hG
      by_cases x0 : b0 = f0
      rotate_left
      · have y0 : (b0 == f0) = false := by simpa using x0
        have HQ := Lib.hid (HNe.out (fun e => x0 (by injection e)))
        clear x0 HNe HEq
        go_wp2_with fail
        go_quiet (fail)
        go_wp2
        go_ret
        exact ⟨false, rfl, HG.out.drewN _, by simpa using HQ.out⟩
      subst x0
      by_cases x1 : b1 = f1
      rotate_left
      · have y1 : (b1 == f1) = false := by simpa using x1
        have HQ := Lib.hid (HNe.out (fun e => x1 (by injection e)))
        clear x1 HNe HEq
        go_wp2_with fail
        go_quiet (fail)
        go_wp2
        go_ret
        exact ⟨false, rfl, HG.out.drewN _, by simpa using HQ.out⟩
      subst x1
      by_cases x2 : b2 = f2
      rotate_left
      · have y2 : (b2 == f2) = false := by simpa using x2
        have HQ := Lib.hid (HNe.out (fun e => x2 (by injection e)))
        clear x2 HNe HEq
        go_wp2_with fail
        go_quiet (fail)
        go_wp2
        go_ret
        exact ⟨false, rfl, HG.out.drewN _, by simpa using HQ.out⟩
      subst x2
      by_cases x3 : b3 = f3
      rotate_left
      · have y3 : (b3 == f3) = false := by simpa using x3
        have HQ := Lib.hid (HNe.out (fun e => x3 (by injection e)))
        clear x3 HNe HEq
        go_wp2_with fail
        go_quiet (fail)
        go_wp2
        go_ret
        exact ⟨false, rfl, HG.out.drewN _, by simpa using HQ.out⟩
      subst x3
      by_cases x4 : b4 = f4
      rotate_left
      · have y4 : (b4 == f4) = false := by simpa using x4
        have HQ := Lib.hid (HNe.out (fun e => x4 (by injection e)))
        clear x4 HNe HEq
        go_wp2_with fail
        go_quiet (fail)
        go_wp2
        go_ret
        exact ⟨false, rfl, HG.out.drewN _, by simpa using HQ.out⟩
      subst x4
      have HQ := Lib.hid (HEq.out rfl)
      clear HNe HEq
      go_wp2_with fail
      go_quiet (fail)
      go_wp2
      go_roundw
      case rel => exact ⟨k + 1, by omega, by go_num, HQ.out, HG.out.drewN _⟩
      case measure => simp [intOf]; omega
    · obtain rfl : k = q.length := by omega
      clear hG
      go_wp2
      go_ret
      exact ⟨_, rfl, HG.out, by
        have h2 := hf
        rw [List.take_of_length_le (Nat.le_refl _), List.take_of_length_le (by have := HNn.out; omega)] at h2
        simp [h2]⟩
set_option maxRecDepth 100000 in
set_option maxHeartbeats 4000000 in
theorem dSame (t r W t2 r2 W2 : Int) (v v2 : Value) (q q2 : List Rq) (w : World) (hl : q.length ≤ 1000) (h : RqAt w v q) (h2 : RqAt w v2 q2) :
    Calls Try.prog 23 #[hdV t r v W, hdV t2 r2 v2 W2] w fun e w' => ∃ f, e = .returned (.bool f) ∧ Nw w w' ∧ (f = true ↔ t = t2 ∧ r = r2 ∧ W = W2 ∧ q = q2) := by
  have HE := Lib.hid (fun (z : World) (g : Nw w z) => dEqual v v2 q q2 z hl (h.nw g) (h2.nw g))
  obtain ⟨a, c, rfl, _⟩ := h
  obtain ⟨a2, c2, rfl, _⟩ := h2
  obtain ⟨n2, hn2⟩ : ∃ n, q2.length = n := ⟨_, rfl⟩
  rw [hn2] at HE ⊢
  clear hn2
  unfold hdV
  obtain ⟨hx1, hx2, hx3, _⟩ := two_boxes w (.cells #[.int .i64 t, .int .i64 r, .slice a q.length c, .int .i64 W] 27) (.cells #[.int .i64 t2, .int .i64 r2, .slice a2 n2 c2, .int .i64 W2] 27)
  obtain ⟨w1, hw1⟩ : ∃ w1, (w.alloc (.cells #[.int .i64 t, .int .i64 r, .slice a q.length c, .int .i64 W] 27)).alloc (.cells #[.int .i64 t2, .int .i64 r2, .slice a2 n2 c2, .int .i64 W2] 27) = w1 := ⟨_, rfl⟩
  rw [hw1] at hx1 hx2 hx3
  have HN := Lib.hid hx3
  have HW := Lib.hid hw1
  have HE1 := Lib.hid (HE.out w1 hx3)
  have x0 := hcell (j := 0) hx1
  have x1 := hcell (j := 1) hx1
  have x2 := hcell (j := 2) hx1
  have x3 := hcell (j := 3) hx1
  have xl := hlt hx1
  have y0 := hcell (j := 0) hx2
  have y1 := hcell (j := 1) hx2
  have y2 := hcell (j := 2) hx2
  have y3 := hcell (j := 3) hx2
  have yl := hlt hx2
  clear hx1 hx2 hx3 hw1 HE
  by_cases e1 : t = t2
  rotate_left
  · have d : (t == t2) = false := by simpa using e1
    have E1 := Lib.hid e1
    clear e1
    go_enter Try.func23, Try.ntmps23
    go_wp2_with fail
    rw [HW.out]
    go_wp2
    go_ret
    exact ⟨_, rfl, HN.out, by simp [E1.out]⟩
  by_cases e2 : r = r2
  rotate_left
  · have d : (r == r2) = false := by simpa using e2
    have E2 := Lib.hid e2
    subst e1
    clear e2
    go_enter Try.func23, Try.ntmps23
    go_wp2_with fail
    rw [HW.out]
    go_wp2
    go_ret
    exact ⟨_, rfl, HN.out, by simp [E2.out]⟩
  by_cases e3 : W = W2
  rotate_left
  · have d : (W == W2) = false := by simpa using e3
    have E3 := Lib.hid e3
    subst e1 e2
    clear e3
    go_enter Try.func23, Try.ntmps23
    go_wp2_with fail
    rw [HW.out]
    go_wp2
    go_ret
    exact ⟨_, rfl, HN.out, by simp [E3.out]⟩
  subst e1 e2 e3
  go_enter Try.func23, Try.ntmps23
  go_wp2_with fail
  rw [HW.out]
  go_wp2_with fail
  go_at_call 56
  refine HE1.out.mono ?_
  rintro e w2 ⟨f, rfl, g2, hf⟩
  have HF := Lib.hid (And.intro g2 hf)
  clear x0 x1 x2 x3 xl y0 y1 y2 y3 yl g2 hf HE1
  go_wp2
  go_ret
  exact ⟨_, rfl, HN.out.trans HF.out.1, by simp [HF.out.2]⟩
end Go.Proofs.Ytmciiobncfchlaa
end

/- Contracts of the library's functions at this program, laid by the kit's own command in plain words; only those that are used. -/
section
namespace Go.Proofs
open Go.Shelf
def Try.lays189_ren : Go.Shelf.Ren := ⟨fun | 189 => 52 | 125 => 82 | 257 => 81 | 128 => 103 | 129 => 104 | 294 => 94 | 295 => 95 | 296 => 96 | 297 => 97 | 298 => 98 | 299 => 99 | 216 => 100 | 300 => 101 | 301 => 102 | 328 => 114 | 329 => 115 | 330 => 116 | 331 => 117 | 332 => 118 | 215 => 113 | 343 => 121 | n => n, fun | 28 => 36 | 3 => 3 | 46 => 106 | 0 => 0 | 51 => 122 | 53 => 124 | 4 => 4 | 183 => 114 | 182 => 113 | 131 => 119 | 5 => 5 | 9 => 9 | 218 => 127 | 222 => 131 | 228 => 137 | 229 => 138 | n => n, fun | n => n⟩
theorem Try.lays189 : Go.Proofs.Lays.n189 Try.prog Try.lays189_ren := {
  mixed := by kernel_rfl
  f125 := Try.func82.trans (congrArg some (by kernel_rfl))
  f128 := Try.func103.trans (congrArg some (by kernel_rfl))
  f129 := Try.func104.trans (congrArg some (by kernel_rfl))
  f189 := Try.func52.trans (congrArg some (by kernel_rfl))
  f215 := Try.func113.trans (congrArg some (by kernel_rfl))
  f216 := Try.func100.trans (congrArg some (by kernel_rfl))
  f257 := Try.func81.trans (congrArg some (by kernel_rfl))
  f294 := Try.func94.trans (congrArg some (by kernel_rfl))
  f295 := Try.func95.trans (congrArg some (by kernel_rfl))
  f296 := Try.func96.trans (congrArg some (by kernel_rfl))
  f297 := Try.func97.trans (congrArg some (by kernel_rfl))
  f298 := Try.func98.trans (congrArg some (by kernel_rfl))
  f299 := Try.func99.trans (congrArg some (by kernel_rfl))
  f300 := Try.func101.trans (congrArg some (by kernel_rfl))
  f301 := Try.func102.trans (congrArg some (by kernel_rfl))
  f328 := Try.func114.trans (congrArg some (by kernel_rfl))
  f329 := Try.func115.trans (congrArg some (by kernel_rfl))
  f330 := Try.func116.trans (congrArg some (by kernel_rfl))
  f331 := Try.func117.trans (congrArg some (by kernel_rfl))
  f332 := Try.func118.trans (congrArg some (by kernel_rfl))
  f343 := Try.func121.trans (congrArg some (by kernel_rfl))
  t0 := Try.underlying0
  a0 := Try.isAgg0
  z0 := Try.sizeOf0
  v0 := Try.zeroValue0
  t3 := Try.underlying3
  a3 := Try.isAgg3
  z3 := Try.sizeOf3
  v3 := Try.zeroValue3
  t4 := Try.underlying4
  a4 := Try.isAgg4
  z4 := Try.sizeOf4
  v4 := Try.zeroValue4
  t5 := Try.underlying5
  a5 := Try.isAgg5
  z5 := Try.sizeOf5
  v5 := Try.zeroValue5
  t9 := Try.underlying9
  a9 := Try.isAgg9
  z9 := Try.sizeOf9
  v9 := Try.zeroValue9
  t28 := Try.underlying36
  a28 := Try.isAgg36
  z28 := Try.sizeOf36
  v28 := Try.zeroValue36
  t46 := Try.underlying106
  a46 := Try.isAgg106
  z46 := Try.sizeOf106
  v46 := Try.zeroValue106
  t51 := Try.underlying122
  a51 := Try.isAgg122
  z51 := Try.sizeOf122
  v51 := Try.zeroValue122
  t53 := Try.underlying124
  a53 := Try.isAgg124
  z53 := Try.sizeOf124
  v53 := Try.zeroValue124
  t131 := Try.underlying119
  a131 := Try.isAgg119
  z131 := Try.sizeOf119
  v131 := Try.zeroValue119
  t182 := Try.underlying113
  a182 := Try.isAgg113
  z182 := Try.sizeOf113
  v182 := Try.zeroValue113
  t183 := Try.underlying114
  a183 := Try.isAgg114
  z183 := Try.sizeOf114
  v183 := Try.zeroValue114
  t218 := Try.underlying127
  a218 := Try.isAgg127
  z218 := Try.sizeOf127
  v218 := Try.zeroValue127
  t222 := Try.underlying131
  a222 := Try.isAgg131
  z222 := Try.sizeOf131
  v222 := Try.zeroValue131
  t228 := Try.underlying137
  a228 := Try.isAgg137
  z228 := Try.sizeOf137
  v228 := Try.zeroValue137
  t229 := Try.underlying138
  a229 := Try.isAgg138
  z229 := Try.sizeOf138
  v229 := Try.zeroValue138 }
open Go.Sort Go.RowKit in
theorem Try.slices_Sort_int (blk off cap : Nat) (zs : List Int) (w : World) (hH : Holds (Value.int .i64) w blk off zs.toArray) (hblk : blk < w.heap.size) (hsz : zs.length < 4611686018427387904) :
    Calls Try.prog 52 #[.slice (some ⟨blk, off, none⟩) zs.length cap] w fun e w' =>
      e = .returned (.tuple #[]) ∧ ∃ n os, w' = grow (putRow (Value.int .i64) (Sort.ahead w n) blk off (zs.mergeSort fun x y => decide (x ≤ y)).toArray) os := Any.slices_Sort_int Try.lays189 blk off cap zs w hH hblk hsz
def Try.laysNm220_ren : Go.Shelf.Ren := ⟨fun | 20 => 53 | n => n, fun | 22 => 36 | 3 => 3 | 4 => 4 | 0 => 0 | n => n, fun | n => n⟩
theorem Try.laysNm220 : Go.Proofs.Lays2.n20 Try.prog Try.laysNm220_ren := {
  mixed := by kernel_rfl
  f20 := Try.func53.trans (congrArg some (by kernel_rfl))
  t0 := Try.underlying0
  a0 := Try.isAgg0
  z0 := Try.sizeOf0
  v0 := Try.zeroValue0
  t3 := Try.underlying3
  a3 := Try.isAgg3
  z3 := Try.sizeOf3
  v3 := Try.zeroValue3
  t4 := Try.underlying4
  a4 := Try.isAgg4
  z4 := Try.sizeOf4
  v4 := Try.zeroValue4
  t22 := Try.underlying36
  a22 := Try.isAgg36
  z22 := Try.sizeOf36
  v22 := Try.zeroValue36
  i3 := by kernel_rfl }
open Go.RowKit Go.Lib Go.Sort in
theorem Try.slices_Compact_int (blk off cap : Nat) (zs : List Int) (w : World) (hH : Holds (Value.int .i64) w blk off zs.toArray) (hsz : zs.length ≤ 9223372036854775807) (hcap : zs.length ≤ cap) :
    Calls Try.prog 53 #[.slice (some ⟨blk, off, none⟩) zs.length cap] w fun e w' => e = .returned (.slice (some ⟨blk, off, none⟩) (Lib.compact zs).length cap) ∧ ∃ q, w' = putRow (Value.int .i64) (Sort.ahead w q) blk off (Lib.compact zs ++ List.replicate (zs.length - (Lib.compact zs).length) 0).toArray := Any.slices_Compact_int Try.laysNm220 blk off cap zs w hH hsz hcap
open Go.RowKit Go.Lib Go.Sort in
theorem Try.slices_Compact_int_empty (a : Option Addr) (cap : Nat) (w : World) :
    Calls Try.prog 53 #[.slice a 0 cap] w fun e w' => e = .returned (.slice a 0 cap) ∧ w' = w := Any.slices_Compact_int_empty Try.laysNm220 a cap w
open Go.RowKit Go.Sort in
theorem Try.slices_Sort_int_none (p : Option Addr) (cap : Nat) (w : World) :
    Calls Try.prog 52 #[.slice p 0 cap] w fun e w' => e = .returned (.tuple #[]) ∧ w' = w := Any.slices_Sort_int_none Try.lays189 p cap w
end Go.Proofs
end

/- The library's Sort and Compact at rows of ints that the call owns; plain facts of sorted lists. -/
section
namespace Go.Proofs.Ytmciiobncfchlaa
open Go.RowKit Go.Sort
set_option linter.unusedVariables false

theorem sorted_ext : ∀ {a b : List Int}, a.Pairwise (· < ·) → b.Pairwise (· < ·) → (∀ x, x ∈ a ↔ x ∈ b) → a = b
  | [], b, _, _, h => by
    cases b with
    | nil => rfl
    | cons y b => exact absurd ((h y).2 (by simp)) (by simp)
  | x :: a, [], _, _, h => absurd ((h x).1 (by simp)) (by simp)
  | x :: a, y :: b, ha, hb, h => by
    rw [List.pairwise_cons] at ha hb
    have e : x = y := by
      rcases List.mem_cons.1 ((h x).1 (by simp)) with e | e
      · exact e
      · rcases List.mem_cons.1 ((h y).2 (by simp)) with e2 | e2
        · exact e2.symm
        · have := hb.1 x e; have := ha.1 y e2; omega
    subst e
    congr 1
    refine sorted_ext ha.2 hb.2 (fun z => ?_)
    have hz := h z
    rw [List.mem_cons, List.mem_cons] at hz
    constructor
    · intro m
      rcases hz.1 (.inr m) with e | e
      · have := ha.1 z m; omega
      · exact e
    · intro m
      rcases hz.2 (.inr m) with e | e
      · have := hb.1 z m; omega
      · exact e
theorem cmp_upto (l : List Int) (hs : l.Pairwise (· ≤ ·)) : ∀ m, m ≤ l.length → (Lib.compactUpTo l.toArray m).Pairwise (· < ·) ∧ ∀ x, x ∈ Lib.compactUpTo l.toArray m ↔ ∃ j, j < m ∧ l.toArray[j]! = x
  | 0, _ => by
    have : Lib.compactUpTo l.toArray 0 = [] := rfl
    rw [this]
    exact ⟨List.Pairwise.nil, fun x => by simp⟩
  | m + 1, hm => by
    obtain ⟨h1, h2⟩ := cmp_upto l hs m (by omega)
    have hle : ∀ i j, i < j → j < l.length → l.toArray[i]! ≤ l.toArray[j]! := fun i j hij hj => by
      have := List.pairwise_iff_getElem.1 hs i j (by omega) hj hij
      simpa [hj, show i < l.length by omega] using this
    rw [Lib.compactUpTo_succ]
    by_cases k : Lib.keeps l.toArray m = true
    · rw [if_pos k]
      refine ⟨List.pairwise_append.2 ⟨h1, by simp, fun x hx y hy => ?_⟩, fun x => ?_⟩
      · obtain rfl := List.mem_singleton.1 hy
        obtain ⟨j, hj, rfl⟩ := (h2 x).1 hx
        have hk : l.toArray[m]! ≠ l.toArray[m - 1]! := by
          unfold Lib.keeps at k
          simp at k
          rcases k with k | k
          · omega
          · simpa using k
        have a1 : l.toArray[j]! ≤ l.toArray[m - 1]! := by
          by_cases e : j = m - 1
          · rw [e]; exact Int.le_refl _
          · exact hle j (m - 1) (by omega) (by omega)
        have a2 := hle (m - 1) m (by omega) (by omega)
        omega
      · rw [List.mem_append, List.mem_singleton, h2 x]
        constructor
        · rintro (⟨j, hj, e⟩ | e)
          · exact ⟨j, by omega, e⟩
          · exact ⟨m, by omega, e.symm⟩
        · rintro ⟨j, hj, e⟩
          by_cases q : j = m
          · subst q; exact .inr e.symm
          · exact .inl ⟨j, by omega, e⟩
    · rw [if_neg k, List.append_nil]
      refine ⟨h1, fun x => ?_⟩
      rw [h2 x]
      have hk : 0 < m ∧ l.toArray[m]! = l.toArray[m - 1]! := by
        unfold Lib.keeps at k
        simp at k
        refine ⟨by omega, ?_⟩
        have := k.2
        simpa using this
      constructor
      · rintro ⟨j, hj, e⟩; exact ⟨j, by omega, e⟩
      · rintro ⟨j, hj, e⟩
        by_cases q : j = m
        · subst q; exact ⟨j - 1, by omega, by rw [← hk.2]; exact e⟩
        · exact ⟨j, by omega, e⟩
theorem arr_at (l : List Int) (j : Nat) (h : j < l.length) : l.toArray[j]! = l[j] := by simp [h]
/-- Sorted, each once. -/
theorem cmp_sorted (l : List Int) : (Lib.compact (l.mergeSort fun x y => decide (x ≤ y))).Pairwise (· < ·) ∧ ∀ x, x ∈ Lib.compact (l.mergeSort fun x y => decide (x ≤ y)) ↔ x ∈ l := by
  have hs : (l.mergeSort fun x y => decide (x ≤ y)).Pairwise (· ≤ ·) := by
    have := List.pairwise_mergeSort (le := fun (x y : Int) => decide (x ≤ y)) (fun a b c h1 h2 => by simp at *; omega) (fun a b => by simp; omega) l
    exact this.imp (fun h => by simpa using h)
  obtain ⟨h1, h2⟩ := cmp_upto _ hs _ (Nat.le_refl _)
  refine ⟨h1, fun x => ?_⟩
  have h3 := h2 x
  unfold Lib.compact
  rw [h3, ← (List.mergeSort_perm l _).mem_iff (a := x), List.mem_iff_getElem]
  constructor
  · rintro ⟨j, hj, e⟩
    exact ⟨j, hj, (arr_at _ j hj).symm.trans e⟩
  · rintro ⟨j, hj, e⟩
    exact ⟨j, hj, (arr_at _ j hj).trans e⟩
theorem dSortI (v : Value) (l : List Int) (w : World) (h : IS w v l) (hl : l.length ≤ 1000) :
    Calls Try.prog 52 #[v] w fun e w' => e = .returned (.tuple #[]) ∧ IS w' v (l.mergeSort fun x y => decide (x ≤ y)) ∧ Tch (fun i => v.ownBlock = some i) w w' := by
  rcases h.2 with ⟨rfl, e⟩ | ⟨g, cap, cur, rfl, _, hb, h1, h2, h3, ht⟩
  · obtain rfl := List.length_eq_zero_iff.1 e
    refine (Try.slices_Sort_int_none none 0 w).mono ?_
    rintro e w' ⟨rfl, h⟩
    exact ⟨rfl, by simpa using IS.nil w', by first | (subst h; exact Tch.refl _ _) | (obtain ⟨n, rfl⟩ := h; exact (Tch.refl _ _).drewN _)⟩
  · rw [Nat.mul_one] at ht
    have hH := holds_of_blockI hb ht
    have hlen : (l.mergeSort fun x y => decide (x ≤ y)).length = l.length := List.length_mergeSort _
    refine (Try.slices_Sort_int g 0 cap l w hH (hlt hb) (by omega)).mono ?_
    rintro e w' ⟨rfl, n, os, rfl⟩
    refine ⟨rfl, ?_, (Tch.refl _ w).grown (grownBy_sortedI _) (fun k hk => .inl hk)⟩
    unfold IS
    rw [hlen]
    exact ownsRow_sortedI hlen (Nat.zero_le _) hb h1 h2 h3
theorem dCompactI (v : Value) (l : List Int) (w : World) (h : IS w v l) (hl : l.length ≤ 1000) :
    Calls Try.prog 53 #[v] w fun e w' => ∃ v', e = .returned v' ∧ IS w' v' (Lib.compact l) ∧ v'.ownBlock = v.ownBlock ∧ Tch (fun i => v.ownBlock = some i) w w' := by
  rcases h.2 with ⟨rfl, e⟩ | ⟨g, cap, cur, rfl, _, hb, h1, h2, h3, ht⟩
  · obtain rfl := List.length_eq_zero_iff.1 e
    refine (Try.slices_Compact_int_empty none 0 w).mono ?_
    rintro e w' ⟨rfl, rfl⟩
    exact ⟨_, rfl, IS.nil _, rfl, Tch.refl _ _⟩
  · rw [Nat.mul_one] at ht
    have hH := holds_of_blockI hb ht
    have hle := Lib.compact_length_le l
    refine (Try.slices_Compact_int g 0 cap l w hH (by omega) h1).mono ?_
    rintro e w' ⟨rfl, n, rfl⟩
    have hg := grownBy_sortedI (w := w) (g := g) (n := n) (os := #[]) (Lib.compact l ++ List.replicate (l.length - (Lib.compact l).length) 0).toArray
    have hh := heap_sortedI (n := n) (os := #[]) (Lib.compact l ++ List.replicate (l.length - (Lib.compact l).length) 0).toArray hb
    rw [grow_empty] at hg hh
    refine ⟨_, rfl, ⟨by simp, .inr ⟨g, cap, _, rfl, Nat.zero_le _, hh, by omega, h2, by simp [putCells, h3], ?_⟩⟩, rfl, (Tch.refl _ w).grown hg (fun k hk => .inl hk)⟩
    have hlen : (Lib.compact l ++ List.replicate (l.length - (Lib.compact l).length) 0).length = l.length := by simp; omega
    have hta := take_putCellsI cur (Lib.compact l ++ List.replicate (l.length - (Lib.compact l).length) 0) (by rw [hlen]; omega)
    have hta2 := congrArg (List.take (Lib.compact l).length) hta
    rw [List.take_take, hlen, Nat.min_eq_left hle, List.map_append, List.take_append_of_le_length (by simp)] at hta2
    rw [Nat.mul_one, hta2]
    exact List.take_of_length_le (by simp)
end Go.Proofs.Ytmciiobncfchlaa
end

/- A range over a function that hands out ints and writes memory of its own: the iterator owns a set of blocks, which grows; the loop's body leaves them alone, the iterator leaves all others alone. The function may be a method value. Of no program. -/
section
namespace Go.Proofs.Ytmciiobncfchlaa
open Go.RowKit Go.Shelf

/-- What lies in S lies as it lay. -/
structure KpS (S : Nat → Prop) (A B : World) : Prop where
  size : A.heap.size ≤ B.heap.size
  same : ∀ k, S k → B.heap[k]? = A.heap[k]?
theorem KpS.refl (S : Nat → Prop) (A : World) : KpS S A A := ⟨Nat.le_refl _, fun _ _ => rfl⟩
theorem KpS.trans {S : Nat → Prop} {A B C : World} (h : KpS S A B) (k : KpS S B C) : KpS S A C := ⟨Nat.le_trans h.size k.size, fun i hi => (k.same i hi).trans (h.same i hi)⟩
theorem KpS.mono {S S' : Nat → Prop} {A B : World} (h : KpS S A B) (hs : ∀ k, S' k → S k) : KpS S' A B := ⟨h.size, fun i hi => h.same i (hs i hi)⟩
theorem KpS.tch {S T : Nat → Prop} {A B : World} (h : Tch T A B) (hs : ∀ k, S k → k < A.heap.size ∧ ¬ T k) : KpS S A B := ⟨h.size, fun i hi => h.block i (hs i hi).1 (hs i hi).2⟩
theorem KpS.put {S : Nat → Prop} {A : World} {l : Nat} (o : Obj) (hl : ¬ S l) : KpS S A (A.putObj l o) := ⟨by simp, fun i hi => World.putObj_heap_other (fun e => hl (e ▸ hi))⟩

/-- What an iterator, or the loop's own book-keeping, may do: blocks of S, new blocks, and the loop's two blocks, which are no cells. -/
structure Ch' (n₀ : Nat) (S : Nat → Prop) (A B : World) : Prop where
  os : B.os = A.os
  tape : B.tape = A.tape
  output : B.output = A.output
  size : A.heap.size ≤ B.heap.size
  block : ∀ k, k < A.heap.size → ¬ S k → B.heap[k]? = A.heap[k]? ∨ ((k = n₀ ∨ k = n₀ + 1) ∧ ∃ o, A.heap[k]? = some o ∧ o.isCells = false)
theorem Ch'.of_tch {n₀ : Nat} {S : Nat → Prop} {A B : World} (h : Tch S A B) : Ch' n₀ S A B := ⟨h.os, h.tape, h.output, h.size, fun k hk hn => .inl (h.block k hk hn)⟩
theorem Ch'.put {n₀ : Nat} {S : Nat → Prop} {A : World} {l : Nat} {o : Obj} (o' : Obj) (hn : l = n₀ ∨ l = n₀ + 1) (h : A.heap[l]? = some o) (ho : o.isCells = false) : Ch' n₀ S A (A.putObj l o') :=
  ⟨rfl, rfl, rfl, by simp, fun k _ _ => by
    by_cases e : k = l
    · subst e; exact .inr ⟨hn, o, h, ho⟩
    · exact .inl (World.putObj_heap_other e)⟩
theorem Ch'.cells {n₀ : Nat} {S : Nat → Prop} {A B : World} {k : Nat} {c : Array Value} {t : TypeId} {f : Nat × Nat} (h : Ch' n₀ S A B) (hk : A.heap[k]? = some (.cells c t f)) (hn : ¬ S k) : B.heap[k]? = some (.cells c t f) := by
  rcases h.block k (Array.getElem?_eq_some_iff.1 hk).1 hn with e | ⟨_, o, ho, hc⟩
  · exact e.trans hk
  · rw [hk] at ho; cases ho; cases hc
theorem Ch'.row {n₀ : Nat} {S : Nat → Prop} {A B : World} {v : Value} {n : Nat} {e : TypeId} {size : Nat} {xs : List Value} (h : Ch' n₀ S A B) (hr : A.ownsRow 0 e size v n xs) (hn : ∀ k, v.ownBlock = some k → ¬ S k) : B.ownsRow 0 e size v n xs := by
  refine ⟨hr.1, ?_⟩
  rcases hr.2 with h0 | ⟨g, cap, cur, rfl, hb, hg, rest⟩
  · exact .inl h0
  · exact .inr ⟨g, cap, cur, rfl, hb, h.cells hg (hn g rfl), rest⟩
/-- From w on nothing has changed but blocks of T and what came later. -/
theorem Ch'.tch {n₀ : Nat} {S T : Nat → Prop} {w A B : World} (h : Ch' n₀ S A B) (k : Tch T w A) (hn : w.heap.size ≤ n₀) (hS : ∀ i, i < w.heap.size → S i → T i) : Tch T w B :=
  ⟨h.os.trans k.os, h.tape.trans k.tape, h.output.trans k.output, Nat.le_trans k.size h.size, fun i hi ht => by
    rcases h.block i (Nat.lt_of_lt_of_le hi k.size) (fun e => ht (hS i hi e)) with e | ⟨e, _⟩
    · exact e.trans (k.block i hi ht)
    · omega⟩

/-- The loop's two blocks lie as they lay. -/
def KpD (n₀ : Nat) (A B : World) : Prop := ∀ k, (k = n₀ ∨ k = n₀ + 1) → B.heap[k]? = A.heap[k]?
/-- The iterator's contract. -/
def SeqH (F : Fence) (n : Nat) (P : Program) (g : Nat) (fa lb : Array Value) (xs : List Int) (S0 : Nat → Prop) (End : World → Prop) (w : World) : Prop :=
  ∀ (l : Nat) (J Jx : (Nat → Prop) → List Int → World → Prop) (W : World), Nw w W →
    (∀ S S' pre A B, J S pre A → Tch S A B → (∀ k, S k → S' k) → (∀ k, S' k → S k ∨ A.heap.size ≤ k) → (∀ k, S' k → k < B.heap.size) → J S' pre B) →
    (∀ S S' pre A B, Jx S pre A → Tch S A B → (∀ k, S k → S' k) → (∀ k, S' k → S k ∨ A.heap.size ≤ k) → (∀ k, S' k → k < B.heap.size) → Jx S' pre B) →
    (∀ S pre x A, J S pre A → (∀ k, S0 k → S k) → (∀ k, S k → k < A.heap.size) → (pre ++ [x]) <+: xs → YieldAt F (n - 1) P l #[.int .i64 x] A fun e B =>
      (e = .returned (.bool true) ∧ J S (pre ++ [x]) B ∧ KpS S A B) ∨ (e = .returned (.bool false) ∧ Jx S (pre ++ [x]) B ∧ KpS S A B)) →
    J S0 [] W →
    CallsIn F n P g (fa ++ #[.func (.yield l) #[] #[]] ++ lb) W fun e W' => (∃ v, e = .returned v) ∧ ((∃ S, J S xs W' ∧ End W') ∨ (∃ S pre, pre <+: xs ∧ Jx S pre W'))

/-- How the body of a round may be left. -/
def rfPost (n₀ : Nat) (S : Nat → Prop) (I : (Nat → Prop) → List Int → World → Prop) (Ix : Code → (Nat → Prop) → List Int → World → Prop) (pre : List Int) (A : World) : Exit → Act → World → Prop
  | .normal, _, B => KpD n₀ A B ∧ KpS S A B ∧ I S pre B
  | .ret, _, B => KpD n₀ A B ∧ KpS S A B ∧ Ix .ret S pre B
  | .exit id, _, B => KpD n₀ A B ∧ KpS S A B ∧ Ix (.exit id) S pre B
  | .goto t, _, B => KpD n₀ A B ∧ KpS S A B ∧ Ix (.goto t) S pre B
  | .panic _, _, _ => False
  | .outgrown, _, _ => False

variable {F : Fence} {n : Nat} {P : Program}
theorem rf_law {g : Operand} {ps : Array Tmp} {assign body : Code} {Q : Exit → Act → World → Prop} {a : Act} {w : World}
    (hro : F.round = none) (h1 : 1 ≤ n) {gf : Nat} {fa lb : Array Value} (hg : a.eval g = .func (.func gf) fa lb) (hFg : F.fn gf) (eg : ∀ args w, (callFunc gf args).run P w = .ok (.enter gf args) w)
    {xs : List Int} {S0 : Nat → Prop} {End : World → Prop} (hS0 : ∀ k, S0 k → k < w.heap.size) (hseq : SeqH F (n - 1) P gf fa lb xs S0 End w) (hps : ps.size = 1)
    (hEnd : ∀ (A : World) (l : Nat) (o o' : Obj), w.heap.size ≤ l → A.heap[l]? = some o → o.isCells = false → End A → End (A.putObj l o'))
    (I : (Nat → Prop) → List Int → World → Prop) (Ix : Code → (Nat → Prop) → List Int → World → Prop)
    (hI : ∀ S S' pre A B, I S pre A → Ch' w.heap.size S A B → (∀ k, S k → S' k) → (∀ k, S' k → S k ∨ A.heap.size ≤ k) → (∀ k, S' k → k < B.heap.size) → I S' pre B)
    (hIx : ∀ c S S' pre A B, Ix c S pre A → Ch' w.heap.size S A B → (∀ k, S k → S' k) → (∀ k, S' k → S k ∨ A.heap.size ≤ k) → (∀ k, S' k → k < B.heap.size) → Ix c S' pre B)
    (h0 : I S0 [] w) (a₁ : Int → Act)
    (hassign : ∀ (l : Nat) (x : Int) (A : World) (K : Act → World → Prop), K (a₁ x) A →
      assign.wpIn (F.inRound l) (n - 1 - 1) P (Exit.then K (fun _ _ _ => False)) { tmps := (ps.zip #[.int .i64 x]).foldl (fun t (p, v) => t.setIfInBounds p v) a.tmps, defers := [] } A)
    (hbody : ∀ (l : Nat) (S : Nat → Prop) (pre : List Int) (x : Int) (A : World), I S pre A → (∀ k, S0 k → S k) → (∀ k, S k → k < A.heap.size) → (∀ k, (k = w.heap.size ∨ k = w.heap.size + 1) → ¬ S k ∧ ∃ o, A.heap[k]? = some o ∧ o.isCells = false) →
      (pre ++ [x]) <+: xs → body.wpIn (F.inRound l) (n - 1 - 1) P (rfPost w.heap.size S I Ix (pre ++ [x]) A) (a₁ x) A)
    (hdone : ∀ (D : Nat) (S : Nat → Prop) (W : World), D = w.heap.size → (∀ k, S k → k < W.heap.size) → I S xs W → End W → W.heap[D]? = some (.deferred (some [])) → Q .normal { a with defers := { target := .collected D, args := #[] } :: a.defers } W)
    (hstop : ∀ (D : Nat) (c : Code) (S : Nat → Prop) (pre : List Int) (W : World), D = w.heap.size → pre <+: xs → Ix c S pre W → W.heap[D]? = some (.deferred (some [])) → c.wpIn F n P Q { a with defers := { target := .collected D, args := #[] } :: a.defers } W) :
    (Code.rangeFunc g ps assign body).wpIn F n P Q a w := by
  refine wpIn_rangeFunc ?_
  intro fn hfn
  rw [hro]
  obtain ⟨rec, hrec⟩ : ∃ rec : LoopState → Option Code → Loop, rec = fun st pe => { state := st, pending := pe, fn, tmps := a.tmps, params := ps, assign, body, defers := w.heap.size } := ⟨_, rfl⟩
  obtain ⟨W1, hW1⟩ : ∃ W1, (w.alloc (.deferred (some []))).alloc (.loop (rec .ready none)) = W1 := ⟨_, rfl⟩
  have hL1 : W1.heap[w.heap.size + 1]? = some (.loop (rec .ready none)) := by
    rw [← hW1]; have := World.alloc_heap_new (w.alloc (.deferred (some []))) (.loop (rec .ready none)); rwa [World.size_alloc] at this
  have hK1 : W1.heap[w.heap.size]? = some (.deferred (some [])) := by
    rw [← hW1]; exact (Below.heap_alloc _ _ _ (by simp)).trans (World.alloc_heap_new w _)
  have hb1 : Nw w W1 := by rw [← hW1]; exact ((Nw.refl w).alloc _).alloc _
  have hI1 : I S0 [] W1 := hI S0 S0 [] w W1 h0 (Ch'.of_tch (Tch.nw hb1)) (fun _ e => e) (fun _ e => .inl e) (fun k e => Nat.lt_of_lt_of_le (hS0 k e) hb1.sz)
  refine ⟨w.heap.size + 1, [{ target := .collected w.heap.size, args := #[] }], W1, { target := .fn (.func gf) lb, args := fa ++ #[.func (.yield (w.heap.size + 1)) #[] #[]] }, W1, gf,
    fa ++ #[.func (.yield (w.heap.size + 1)) #[] #[]] ++ lb, W1, ?_, ?_, ?_, ?_, fun _ => h1, ?_⟩
  · rw [← hW1, hrec]; exact run_enterLoop_outer _ _ _ _ _
  · simp only [resolve, hg]
    simp [go_sem]
  · intro f' hf'; simp [Target.leads] at hf'; subst hf'; exact hFg
  · simp [invoke, go_sem, eg]
  · have lt_of : ∀ {A : World} {k : Nat} {o : Obj}, A.heap[k]? = some o → k < A.heap.size := fun h => (Array.getElem?_eq_some_iff.1 h).1
    refine (hseq (w.heap.size + 1)
      (fun S pre W => I S pre W ∧ W.heap[w.heap.size + 1]? = some (.loop (rec .ready none)) ∧ W.heap[w.heap.size]? = some (.deferred (some [])) ∧ ¬ S (w.heap.size + 1) ∧ ¬ S w.heap.size ∧ (∀ k, S k → k < W.heap.size))
      (fun S pre W => ∃ c, Ix c S pre W ∧ W.heap[w.heap.size + 1]? = some (.loop (rec .done (some c))) ∧ W.heap[w.heap.size]? = some (.deferred (some [])) ∧ ¬ S (w.heap.size + 1) ∧ ¬ S w.heap.size ∧ (∀ k, S k → k < W.heap.size))
      W1 hb1 ?_ ?_ ?_ ⟨hI1, hL1, hK1, fun e => by have := hS0 _ e; omega, fun e => by have := hS0 _ e; omega, fun k e => Nat.lt_of_lt_of_le (hS0 k e) hb1.sz⟩).mono ?_
    · rintro S S' pre A B ⟨hi, hl, hk, hn1, hn2, hbd⟩ ht hs1 hs2 hs3
      exact ⟨hI S S' pre A B hi (Ch'.of_tch ht) hs1 hs2 hs3, (ht.block _ (lt_of hl) hn1).trans hl, (ht.block _ (lt_of hk) hn2).trans hk,
        fun e => (hs2 _ e).elim hn1 (fun h => by have := lt_of hl; omega), fun e => (hs2 _ e).elim hn2 (fun h => by have := lt_of hk; omega), hs3⟩
    · rintro S S' pre A B ⟨c, hi, hl, hk, hn1, hn2, hbd⟩ ht hs1 hs2 hs3
      exact ⟨c, hIx c S S' pre A B hi (Ch'.of_tch ht) hs1 hs2 hs3, (ht.block _ (lt_of hl) hn1).trans hl, (ht.block _ (lt_of hk) hn2).trans hk,
        fun e => (hs2 _ e).elim hn1 (fun h => by have := lt_of hl; omega), fun e => (hs2 _ e).elim hn2 (fun h => by have := lt_of hk; omega), hs3⟩
    · -- one round
      rintro S pre x W ⟨hi, hl, hk, hn1, hn2, hbd⟩ hsub hex hpre
      have hy := run_yield (P := P) (args := #[.int .i64 x]) hl (by rw [hrec]; exact hps.symm)
      rw [hrec] at hy
      refine ⟨fn, _, assign, body, hy, roundIn_of_wpIn hfn (hassign _ x W _ ?_)⟩
      clear hy
      have nw1 : Nw W W := Nw.refl W
      have hl1 : W.heap[w.heap.size + 1]? = some (.loop (rec .ready none)) := (nw1.block _ (lt_of hl)).trans hl
      have hk1 : W.heap[w.heap.size]? = some (.deferred (some [])) := (nw1.block _ (lt_of hk)).trans hk
      have hlW := lt_of hl
      have hi1 : I S pre W := hI S S pre W W hi (Ch'.of_tch (Tch.nw nw1)) (fun _ e => e) (fun _ e => .inl e) (fun k e => Nat.lt_of_lt_of_le (hex k e) nw1.sz)
      refine ⟨_, run_beginRound hl1 (by rw [hrec]), ?_⟩
      obtain ⟨A2, hA2⟩ : ∃ A2, W.putObj (w.heap.size + 1) (.loop { rec .ready none with state := .busy }) = A2 := ⟨_, rfl⟩
      rw [hA2]
      have hl2 : A2.heap[w.heap.size + 1]? = some (.loop { rec .ready none with state := .busy }) := by rw [← hA2]; exact World.putObj_heap_same (lt_of hl1)
      have hk2 : A2.heap[w.heap.size]? = some (.deferred (some [])) := by rw [← hA2]; exact (World.putObj_heap_other (by omega)).trans hk1
      have hi2 : I S pre A2 := by rw [← hA2]; exact hI S S pre W _ hi1 (Ch'.put _ (.inr rfl) hl1 rfl) (fun _ e => e) (fun _ e => .inl e) (fun k e => by rw [World.putObj_size]; exact Nat.lt_of_lt_of_le (hex k e) nw1.sz)
      have hsz2 : W.heap.size ≤ A2.heap.size := by rw [← hA2]; simp
      have kps : KpS S W A2 := by
        rw [← hA2]
        exact (KpS.tch (Tch.nw (S := fun _ => False) nw1) (fun k e => ⟨hex k e, fun h => h⟩)).trans (KpS.put _ hn1)
      refine wpIn_mono (hbody _ S pre x A2 hi2 hsub (fun k e => Nat.lt_of_lt_of_le (hex k e) hsz2) (fun k e => by
        rcases e with rfl | rfl
        · exact ⟨hn2, _, hk2, rfl⟩
        · exact ⟨hn1, _, hl2, rfl⟩) hpre) ?_
      have fin : ∀ (jump : Option Code) (W3 : World), KpD w.heap.size A2 W3 →
          (Instr.endRound (w.heap.size + 1) jump).run P W3 = .ok (.bool jump.isNone) (W3.putObj (w.heap.size + 1) (.loop (rec (if jump.isNone then .ready else .done) jump))) ∧
          W3.heap[w.heap.size + 1]? = some (.loop { rec .ready none with state := .busy }) ∧
          (W3.putObj (w.heap.size + 1) (.loop (rec (if jump.isNone then .ready else .done) jump))).heap[w.heap.size + 1]? = some (.loop (rec (if jump.isNone then .ready else .done) jump)) ∧
          (W3.putObj (w.heap.size + 1) (.loop (rec (if jump.isNone then .ready else .done) jump))).heap[w.heap.size]? = some (.deferred (some [])) := fun jump W3 hk3 => by
        have hl3 := (hk3 _ (.inr rfl)).trans hl2
        have := run_endRound (P := P) jump hl3
        rw [hrec] at this ⊢
        exact ⟨this, by rw [hrec] at hl3; exact hl3, World.putObj_heap_same (lt_of hl3), (World.putObj_heap_other (by omega)).trans ((hk3 _ (.inl rfl)).trans hk2)⟩
      have b3 : ∀ {W3 : World}, KpS S A2 W3 → ∀ {jj : Obj} (k : Nat), S k → k < (W3.putObj (w.heap.size + 1) jj).heap.size := fun h3 _ k e => by rw [World.putObj_size]; exact Nat.lt_of_lt_of_le (hex k e) (kps.trans h3).size
      rintro e a3 W3 hp
      cases e with
      | normal =>
        obtain ⟨hk3, hkp3, hi3⟩ := hp
        obtain ⟨hr, hl3, hl4, hk4⟩ := fin none W3 hk3
        exact ⟨_, _, hr, .inl ⟨rfl, ⟨hI S S _ W3 _ hi3 (Ch'.put _ (.inr rfl) hl3 rfl) (fun _ e => e) (fun _ e => .inl e) (b3 hkp3), hl4, hk4, hn1, hn2, b3 hkp3⟩, (kps.trans hkp3).trans (KpS.put _ hn1)⟩⟩
      | ret =>
        obtain ⟨hk3, hkp3, hi3⟩ := hp
        obtain ⟨hr, hl3, hl4, hk4⟩ := fin (some .ret) W3 hk3
        exact ⟨_, _, hr, .inr ⟨rfl, ⟨.ret, hIx _ S S _ W3 _ hi3 (Ch'.put _ (.inr rfl) hl3 rfl) (fun _ e => e) (fun _ e => .inl e) (b3 hkp3), hl4, hk4, hn1, hn2, b3 hkp3⟩, (kps.trans hkp3).trans (KpS.put _ hn1)⟩⟩
      | exit id =>
        obtain ⟨hk3, hkp3, hi3⟩ := hp
        obtain ⟨hr, hl3, hl4, hk4⟩ := fin (some (.exit id)) W3 hk3
        exact ⟨_, _, hr, .inr ⟨rfl, ⟨.exit id, hIx _ S S _ W3 _ hi3 (Ch'.put _ (.inr rfl) hl3 rfl) (fun _ e => e) (fun _ e => .inl e) (b3 hkp3), hl4, hk4, hn1, hn2, b3 hkp3⟩, (kps.trans hkp3).trans (KpS.put _ hn1)⟩⟩
      | goto t =>
        obtain ⟨hk3, hkp3, hi3⟩ := hp
        obtain ⟨hr, hl3, hl4, hk4⟩ := fin (some (.goto t)) W3 hk3
        exact ⟨_, _, hr, .inr ⟨rfl, ⟨.goto t, hIx _ S S _ W3 _ hi3 (Ch'.put _ (.inr rfl) hl3 rfl) (fun _ e => e) (fun _ e => .inl e) (b3 hkp3), hl4, hk4, hn1, hn2, b3 hkp3⟩, (kps.trans hkp3).trans (KpS.put _ hn1)⟩⟩
      | panic ch => exact hp.elim
      | outgrown => exact hp.elim
    · -- behind the iterator
      rintro e W2 ⟨⟨v, rfl⟩, (⟨S, ⟨hi, hl, hk, hn1, hn2, hbd⟩, hE⟩ | ⟨S, pre, hp, c, hi, hl, hk, hn1, hn2, hbd⟩)⟩
      · exact ⟨none, _, by have := run_endLoop (P := P) hl (by rw [hrec]; simp); rw [hrec] at this; exact this,
          hdone _ S _ rfl (fun k e => by rw [World.putObj_size]; exact hbd k e) (hI S S _ W2 _ hi (Ch'.put _ (.inr rfl) hl rfl) (fun _ e => e) (fun _ e => .inl e) (fun k e => by rw [World.putObj_size]; exact hbd k e)) (hEnd _ _ _ _ (by omega) hl rfl hE) ((World.putObj_heap_other (by omega)).trans hk)⟩
      · exact ⟨some c, _, by have := run_endLoop (P := P) hl (by rw [hrec]; simp); rw [hrec] at this; exact this,
          hstop _ c S pre _ rfl hp (hIx c S S _ W2 _ hi (Ch'.put _ (.inr rfl) hl rfl) (fun _ e => e) (fun _ e => .inl e) (fun k e => by rw [World.putObj_size]; exact hbd k e)) ((World.putObj_heap_other (by omega)).trans hk)⟩
end Go.Proofs.Ytmciiobncfchlaa
end

/- AppendSeq, Collect of ints. -/
section
namespace Go.Proofs.Ytmciiobncfchlaa
open Go.RowKit Go.Shelf
attribute [local go_sem] Oper.semAt_some

theorem cell_isCells {w : World} {a : Addr} {v : Value} (h : w.cell? a = some v) : ∃ o : Obj, w.heap[a.block]? = some o ∧ o.isCells = true := by
  unfold World.cell? at h
  cases ho : w.heap[a.block]? with
  | none => simp [ho] at h
  | some o => exact ⟨o, rfl, by cases o <;> simp_all [Obj.isCells]⟩
theorem Ch'.same {n₀ : Nat} {S : Nat → Prop} {A B : World} {a : Addr} {v : Value} (h : Ch' n₀ S A B) (hc : A.cell? a = some v) (hn : ¬ S a.block) : B.heap[a.block]? = A.heap[a.block]? := by
  obtain ⟨o, ho, hco⟩ := cell_isCells hc
  rcases h.block a.block (Array.getElem?_eq_some_iff.1 ho).1 hn with e | ⟨_, o', ho', hc'⟩
  · exact e
  · rw [ho] at ho'; cases ho'; rw [hco] at hc'; cases hc'
theorem SeqH.later {F : Fence} {n : Nat} {P : Program} {g : Nat} {fa lb : Array Value} {xs : List Int} {S0 : Nat → Prop} {End : World → Prop} {w w' : World} (h : SeqH F n P g fa lb xs S0 End w) (k : Nw w w') : SeqH F n P g fa lb xs S0 End w' :=
  fun l J Jx W hW => h l J Jx W (k.trans hW)
theorem wpListIn_append_run {F : Fence} {n : Nat} {P : Program} {w : World} {ops : Array Oper} {rest : List Oper} {o : Oper} {a : Act} {Q : Exit → Act → World → Prop}
    (hg : o.guard = none) (s x : Operand) (t : TypeId) (hop : o.op = Op.call { callee := Callee.builtin Builtin.append, args := #[s, x], argTypes := #[t, t] })
    (v u v' : Value) (w' : World) (hs : a.eval s = v) (hx : a.eval x = u) (hr : (Builtin.append_ #[t, t] o.type #[v, u]).run P w = .ok v' w') (h : wpListIn F n P ops Q rest (a.put o.dst v') w') : wpListIn F n P ops Q (o :: rest) a w := by
  refine wpListIn_plain hg fun K hK' => ?_
  unfold Oper.wpIn
  refine ⟨?_, ?_⟩
  · simp [Oper.about, hop, resolve, Target.leads, Sem.run_pure]
  · rw [Oper.semAt_plain F _ _ (by rw [hop]; intro c hc'; cases hc')]
    simp [execOp, hop, resolve, invoke, builtin, hs, hx, hr, Result.andThen]
    exact hK' _ _ h
theorem keepsD {a n₀ : Nat} {A B : World} (h : KeepsFrom a A B) (k : a ≤ n₀) (hn : ∀ k, (k = n₀ ∨ k = n₀ + 1) → ∃ o, A.heap[k]? = some o ∧ o.isCells = false) : KpD n₀ A B := fun i hi => by
  obtain ⟨o, ho, hc⟩ := hn i hi
  exact (h.same i o (by omega) ho hc).trans ho.symm
/-- What AppendSeq holds between two rounds. -/
def AsI (w : World) (S0 : Nat → Prop) (S : Nat → Prop) (pre : List Int) (A : World) : Prop :=
  ∃ v, A.cell? ⟨w.heap.size, 0, none⟩ = some v ∧ A.frozen? ⟨w.heap.size, 0, none⟩ = false ∧ IS A v pre ∧ (∀ k, v.ownBlock = some k → w.heap.size < k ∧ ¬ S k) ∧ ¬ S w.heap.size ∧ (∀ k, S k → S0 k ∨ w.heap.size ≤ k) ∧ Tch S0 w A
theorem AsI.step {w : World} {n₀ : Nat} {S0 S S' : Nat → Prop} {pre : List Int} {A B : World} (hn : w.heap.size ≤ n₀) (h : AsI w S0 S pre A) (k : Ch' n₀ S A B) (_h1 : ∀ k, S k → S' k) (h2 : ∀ k, S' k → S k ∨ A.heap.size ≤ k) : AsI w S0 S' pre B := by
  obtain ⟨v, a0, af, a1, a2, a3, a4, a5⟩ := h
  have e := k.same a0 a3
  refine ⟨v, (World.cell?_of_block e).trans a0, (World.frozen?_of_block e).trans af, k.row a1 (fun g e => (a2 g e).2), fun g e => ⟨(a2 g e).1, fun hs => ?_⟩, fun hs => ?_, fun i hs => ?_, k.tch a5 hn (fun i hi hs => (a4 i hs).resolve_right (by omega))⟩
  · rcases h2 g hs with h | h
    · exact (a2 g e).2 h
    · have := a1.lt e; omega
  · rcases h2 _ hs with h | h
    · exact a3 h
    · have := World.block_lt_of_cell? _ _ a0; simp only at this; omega
  · rcases h2 i hs with h | h
    · exact a4 i h
    · exact .inr (Nat.le_trans a5.size h)
/-- An append in a round. -/
theorem AsI.push {w : World} {S0 S : Nat → Prop} {pre : List Int} {x : Int} {A w1 : World} {v v' : Value} (a0 : A.cell? ⟨w.heap.size, 0, none⟩ = some v) (af : A.frozen? ⟨w.heap.size, 0, none⟩ = false) (a1 : IS A v pre) (a2 : ∀ k, v.ownBlock = some k → w.heap.size < k ∧ ¬ S k) (a3 : ¬ S w.heap.size) (a4 : ∀ k, S k → S0 k ∨ w.heap.size ≤ k) (a5 : Tch S0 w A)
    (hex : ∀ k, S k → k < A.heap.size) (p1 : IS w1 v' (pre ++ [x])) (p2 : Tch (fun k => v.ownBlock = some k) A w1) (p3 : ∀ k, v'.ownBlock = some k → v.ownBlock = some k ∨ A.heap.size ≤ k) :
    w1.cell? ⟨w.heap.size, 0, none⟩ = some v ∧ w1.frozen? ⟨w.heap.size, 0, none⟩ = false ∧ AsI w S0 S (pre ++ [x]) (w1.setCell ⟨w.heap.size, 0, none⟩ v') ∧ KpS S A (w1.setCell ⟨w.heap.size, 0, none⟩ v') ∧ KeepsFrom w.heap.size A (w1.setCell ⟨w.heap.size, 0, none⟩ v') := by
  have hbl := World.block_lt_of_cell? _ _ a0
  simp only at hbl
  have hnv : v.ownBlock ≠ some w.heap.size := fun e => by have := (a2 _ e).1; omega
  have c1 : w1.cell? ⟨w.heap.size, 0, none⟩ = some v := (p2.cell hbl hnv).trans a0
  have f1 : w1.frozen? ⟨w.heap.size, 0, none⟩ = false := (p2.froz hbl hnv).trans af
  have p4 : Tch (fun k => v.ownBlock = some k ∨ k = w.heap.size) A (w1.setCell ⟨w.heap.size, 0, none⟩ v') := (p2.mono (fun _ _ e => .inl e)).set (p := ⟨w.heap.size, 0, none⟩) (.inl (.inr rfl)) v'
  have hne : ∀ k, v'.ownBlock = some k → k ≠ w.heap.size := fun k e q => by
    rcases p3 k e with h | h
    · have := (a2 k h).1; omega
    · omega
  have hI : IS (w1.setCell ⟨w.heap.size, 0, none⟩ v') v' (pre ++ [x]) := p1.tch (setCell_at w1 ⟨w.heap.size, 0, none⟩ v') (fun g e q => hne g e q)
  refine ⟨c1, f1, ⟨v', ?_, ?_, hI, fun k e => ?_, a3, a4, a5.trans' p4 fun i hi e => ?_⟩, KpS.tch p4 fun k e => ⟨hex k e, fun q => ?_⟩, ⟨p4.size, fun k o hk h0 ho => ?_⟩⟩
  · exact World.cell?_setCell_same _ _ _ c1
  · rw [World.frozen?_setCell]; exact f1
  · rcases p3 k e with h | h
    · exact a2 k h
    · exact ⟨by omega, fun q => by have := hex k q; omega⟩
  · rcases e with e | rfl
    · have := (a2 i e).1; omega
    · omega
  · rcases q with q | rfl
    · exact (a2 k q).2 e
    · exact a3 e
  · refine (p4.block k (Array.getElem?_eq_some_iff.1 h0).1 ?_).trans h0
    rintro (e | rfl)
    · rcases a1.form with ⟨rfl, _⟩ | ⟨g, cap, rfl⟩
      · simp [Value.ownBlock] at e
      · rcases a1.2 with ⟨h', _⟩ | ⟨g2, cap2, cur, h', _, hg, _⟩
        · simp at h'
        · simp only [Value.slice.injEq, Option.some.injEq, Addr.mk.injEq, and_true, true_and] at h'
          obtain ⟨rfl, rfl⟩ := h'
          simp [Value.ownBlock] at e
          subst e
          rw [h0] at hg; cases hg; cases ho
    · obtain ⟨o', ho', hc'⟩ := cell_isCells a0
      rw [h0] at ho'; cases ho'; rw [ho] at hc'; cases hc'
def AsPost (w : World) (S0 : Nat → Prop) (End : World → Prop) (xs : List Int) (e : Ending) (W : World) : Prop :=
  ∃ v, e = .returned v ∧ IS W v xs ∧ (∀ k, v.ownBlock = some k → w.heap.size ≤ k) ∧ End W ∧ Tch S0 w W
set_option maxRecDepth 100000 in
set_option maxHeartbeats 4000000 in
theorem appendSeq_in (n : Nat) (hn : 3 ≤ n) (gf : Nat) (fa lb : Array Value) (eg : ∀ args w, (callFunc gf args).run Try.prog w = .ok (.enter gf args) w) (xs : List Int) (S0 : Nat → Prop) (End : World → Prop) (w : World) (hsm : xs.length ≤ 100000)
    (hS0 : ∀ k, S0 k → k < w.heap.size) (hseq : SeqH Fence.wide (n - 1) Try.prog gf fa lb xs S0 End w) (hEnd : ∀ (A : World) (l : Nat) (o o' : Obj), w.heap.size ≤ l → A.heap[l]? = some o → o.isCells = false → End A → End (A.putObj l o')) :
    CallsIn Fence.wide n Try.prog 77 #[.slice none 0 0, .func (.func gf) fa lb] w (AsPost w S0 End xs) := by
  have h1 : 1 ≤ n := by omega
  refine callsIn_of_wp_marks Try.func77 rfl trivial ?_ rfl
  simp only [Try.ntmps77, List.size_toArray, List.length_cons, List.length_nil, Nat.reduceAdd, Nat.reduceSub, Array.replicate_succ, Array.replicate_zero, List.push_toArray, List.append_toArray, List.nil_append, List.cons_append]
  gi_wp2
  have hA0 : AsI w S0 S0 [] (w.alloc (.cells #[.slice none 0 0] 36)) :=
    ⟨.slice none 0 0, by simp [go_sem], by simp [go_sem], World.ownsRow_nil _ _ _ _, fun k e => by simp [Value.ownBlock] at e, fun e => by have := hS0 _ e; omega, fun k e => .inl e, (Tch.refl _ _).alloc _⟩
  have hsz : (w.alloc (.cells #[.slice none 0 0] 36)).heap.size = w.heap.size + 1 := by simp
  have hnw : Nw w (w.alloc (.cells #[.slice none 0 0] 36)) := (Nw.refl w).alloc _
  obtain ⟨W0, hW0⟩ : ∃ W0, w.alloc (.cells #[.slice none 0 0] 36) = W0 := ⟨_, rfl⟩
  rw [hW0] at hA0 hsz hnw ⊢
  clear hW0
  refine rf_law rfl h1 (gf := gf) (fa := fa) (lb := lb) rfl trivial eg (S0 := S0) (End := End) (xs := xs) (fun k e => by have := hS0 k e; omega) (hseq.later hnw) rfl (fun A l o o' hl => hEnd A l o o' (by omega))
    (AsI w S0) (fun _ _ _ _ => False) (fun S S' pre A B hi hc e1 e2 _ => hi.step (by omega) hc e1 e2) (fun _ _ _ _ _ _ h _ _ _ _ => h) hA0
    (fun x => { tmps := #[.slice none 0 0, .func (.func gf) fa lb, .pointer (some ⟨w.heap.size, 0, none⟩), undef, .slice none 0 0, .int .i64 x, .func (.func gf) fa lb, .int .i64 x, undef, undef, undef, undef, undef], defers := [] }) ?assign ?body ?done ?stop
  case assign =>
    intro l x A K hK
    gi_wp2
    exact hK
  case body =>
    intro l S pre x A hi hsub hex hnc hpre
    obtain ⟨v, a0, af, a1, a2, a3, a4, a5⟩ := hi
    have hln : pre.length + 1 ≤ xs.length := by have := hpre.length_le; simpa using this
    obtain ⟨v', w1, hr, q1, q2, q3, ⟨g', cap', hv'⟩⟩ := IS.push A v pre x a1 (by omega)
    have HR := Lib.hid hr
    have HE0 := AsI.push a0 af a1 a2 a3 a4 a5 hex q1 q2 q3
    have hlt := World.block_lt_of_cell? _ _ a0
    have hf := a1.form
    have HN := Lib.hid hnc
    have c1 := HE0.1
    have f1 := HE0.2.1
    have HE := Lib.hid HE0.2.2
    have hlt1 := World.block_lt_of_cell? _ _ c1
    subst hv'
    clear hr q1 q2 q3 af a1 a2 a3 a4 a5 hex hsub hnc hpre hseq hEnd hA0 HE0
    have HSZ := Lib.hid hsz
    clear hsz
    rcases hf with ⟨rfl, hp0⟩ | ⟨g, cap, rfl⟩
    all_goals
      try clear hp0
      gi_wp2_with (gi_at_builtin; refine wpListIn_append_run rfl (.tmp 8) (.tmp 10) 36 rfl _ _ _ _ rfl rfl HR.out ?_)
      exact ⟨keepsD HE.out.2.2 (by have := HSZ.out; omega) (fun k e => (HN.out k e).2), HE.out.2.1, HE.out.1⟩
  case done =>
    intro D S W hD _ hi hE hK
    obtain ⟨v, a0, af, a1, a2, a3, a4, a5⟩ := hi
    have hlt := World.block_lt_of_cell? _ _ a0
    have HE : Hid (AsPost w S0 End xs (.returned v) (W.putObj D (.deferred none))) := by
      have hc : Ch' D (fun _ => False) W (W.putObj D (.deferred none)) := Ch'.put _ (.inl rfl) hK rfl
      exact ⟨v, rfl, hc.row a1 (fun _ _ e => e), fun k e => Nat.le_of_lt (a2 k e).1, hEnd W D _ _ (by omega) hK rfl hE, hc.tch a5 (by omega) (fun _ _ e => e.elim)⟩
    have hf := a1.form
    clear hseq hEnd hA0 a1 a2 a3 a4 a5 hE hS0 hD
    have HSZ := Lib.hid hsz
    clear hsz
    rcases hf with ⟨rfl, hp0⟩ | ⟨g, cap, rfl⟩
    all_goals
      try clear hp0
      gi_wp2
      refine ⟨by simp, .inl ⟨_, _, rfl, run_takeDeferred hK, ?_⟩⟩
      exact ⟨_, results_tmp (t := 4) rfl _ _ _, HE.out⟩
  case stop =>
    intro D c S pre W _ _ h _
    exact h.elim
theorem collect_any (gf : Nat) (fa lb : Array Value) (eg : ∀ args w, (callFunc gf args).run Try.prog w = .ok (.enter gf args) w) (xs : List Int) (S0 : Nat → Prop) (End : World → Prop) (w : World) (hsm : xs.length ≤ 100000)
    (hS0 : ∀ k, S0 k → k < w.heap.size) (hseq : SeqH Fence.wide 4 Try.prog gf fa lb xs S0 End w) (hEnd : ∀ (A : World) (l : Nat) (o o' : Obj), w.heap.size ≤ l → A.heap[l]? = some o → o.isCells = false → End A → End (A.putObj l o')) :
    Calls Try.prog 45 #[.func (.func gf) fa lb] w (AsPost w S0 End xs) := by
  have H := Lib.hid (callsIn_wide.1 (appendSeq_in 5 (by omega) gf fa lb eg xs S0 End w hsm hS0 hseq hEnd))
  clear hseq hEnd hS0
  go_enter Try.func45, Try.ntmps45
  go_wp2_with fail
  refine H.out.mono ?_
  rintro e w1 h
  obtain ⟨v, rfl, h⟩ := h
  have HP := Lib.hid h
  clear h
  go_wp2
  go_ret
  exact ⟨v, rfl, HP.out⟩
end Go.Proofs.Ytmciiobncfchlaa
end

/- The developers' package queue: grants, an iterator; Scan. -/
section
namespace Go.Proofs.Ytmciiobncfchlaa
open Go.RowKit Go.Shelf Go.Maps Go.ChangeMaps
attribute [local go_sem] Oper.semAt_some
set_option linter.unusedVariables false

theorem e_grants : ∀ args w, (callFunc 46 args).run Try.prog w = .ok (.enter 46 args) w := enters_of Try.func46 (by kernel_rfl) rfl
theorem rq_int_ne : 41 ≠ 3 := by decide
def SL (p b : Nat) (v : Value) : Nat → Prop := fun k => k = p ∨ k = b ∨ v.ownBlock = some k
theorem Ln.bound {w : World} {g0 p : Nat} {t r W : Int} {v : Value} {b n : Nat} {q : List Rq} {c : Int → Int} (h : Ln w g0 p t r W v b n q c) : ∀ k, SL p b v k → k < w.heap.size := by
  rintro k (rfl | rfl | e)
  · exact hlt h.obj
  · exact h.map.lt
  · exact olt h.own e
theorem Ln.kps {S : Nat → Prop} {A B : World} {g0 p : Nat} {t r W : Int} {v : Value} {b n : Nat} {q : List Rq} {c : Int → Int} (h : Ln A g0 p t r W v b n q c) (k : KpS S A B) (hS : ∀ i, SL p b v i → S i) : Ln B g0 p t r W v b n q c := by
  refine ⟨(k.same p (hS p (.inl rfl))).trans h.obj, ?_, ?_, h.gp, h.gb⟩
  · refine ⟨h.own.1, ?_⟩
    rcases h.own.2 with e | ⟨g, cap, cur, rfl, hb, hg, rest⟩
    · exact .inl e
    · exact .inr ⟨g, cap, cur, rfl, hb, (k.same g (hS g (.inr (.inr rfl)))).trans hg, rest⟩
  · obtain ⟨D, ⟨es, cl, hb, F, hs, hD⟩, h2, h3⟩ := h.map
    exact ⟨D, ⟨es, cl, (k.same b (hS b (.inr (.inl rfl)))).trans hb, F, hs, hD⟩, h2, h3⟩
theorem IS.kps {S : Nat → Prop} {A B : World} {v : Value} {l : List Int} (h : IS A v l) (k : KpS S A B) (hS : ∀ g, v.ownBlock = some g → S g) : IS B v l := by
  refine ⟨h.1, ?_⟩
  rcases h.2 with e | ⟨g, cap, cur, rfl, hb, hg, rest⟩
  · exact .inl e
  · exact .inr ⟨g, cap, cur, rfl, hb, (k.same g (hS g rfl)).trans hg, rest⟩
/-- What holds between two grants. -/
structure GrI (J : (Nat → Prop) → List Int → World → Prop) (S : Nat → Prop) (g0 p : Nat) (t r W : Int) (v : Value) (b n : Nat) (q : List Rq) (T : List Int) (vt : Value) (i : Nat) (pre : List Int) (q' : List Rq) (wr : World) : Prop where
  j : J S pre wr
  bd : ∀ k, S k → k < wr.heap.size
  row : IS wr vt T
  st : Steps q pre q'
  ti : TInv q q' T i
  ln : ∃ n', n' ≤ n + 2 * i ∧ Ln wr g0 p t r W v b n' q' (cntQ q')
def EndL (g0 p : Nat) (t r W : Int) (v : Value) (b : Nat) (q : List Rq) (w : World) : Prop := ∃ n', Ln w g0 p t r W v b n' q (cntQ q)
set_option maxRecDepth 100000 in
set_option maxHeartbeats 4000000 in
theorem grants_in (m : Nat) (hm : 1 ≤ m) (g0 p b n : Nat) (t r W : Int) (v : Value) (q : List Rq) (w : World) (h : Ln w g0 p t r W v b n q (cntQ q)) (hok : Ok W q) (hl : q.length ≤ 1000) (hn : n ≤ 2000) (hst : StOk (tC q) (wpl q q.length)) :
    SeqH Fence.wide m Try.prog 46 #[.pointer (some ⟨p, 0, none⟩)] #[] (scanQ q).1 (SL p b v) (EndL g0 p t r W v b (scanQ q).2) w := by
  intro L J Jx W0 hW hJ hJx hY h0
  have hL0 := h.nw hW
  have HTu := Lib.hid (dTurns hL0 hl hst)
  have hTk := tok_of hok hst
  obtain ⟨T, hT⟩ : ∃ T, stR (tC q) (wpl q q.length) = T := ⟨_, rfl⟩
  rw [hT] at HTu hTk
  have hTl : T.length ≤ 1000 := by rw [← hT, (stR_perm (tC q) _).length_eq]; have := wpl_len q q.length; omega
  have HJ := Lib.hid hJ
  have HY := Lib.hid hY
  have H0 := Lib.hid (And.intro h0 (And.intro hL0 (And.intro hok hTk)))
  clear h hW hJ hJx hY h0 hL0 hok hTk hT hst
  refine callsIn_of_wp Try.func46 rfl trivial ?_ rfl
  simp only [Try.ntmps46, List.size_toArray, List.length_cons, List.length_nil, Nat.reduceAdd, Nat.reduceSub, Array.replicate_succ, Array.replicate_zero, List.push_toArray, List.append_toArray, List.nil_append, List.cons_append]
  gi_wp2_with fail
  refine ⟨trivial, (callsIn_wide.2 HTu.out).mono ?_⟩
  rintro e w1 ⟨vt, rfl, g1, hIT, hfT⟩
  obtain ⟨S, hS⟩ : ∃ S : Nat → Prop, (fun k => SL p b v k ∨ (W0.heap.size ≤ k ∧ k < w1.heap.size)) = S := ⟨_, rfl⟩
  have hSL : ∀ k, SL p b v k → S k := fun k e => by rw [← hS]; exact .inl e
  have hST : ∀ g, vt.ownBlock = some g → S g := fun g e => by rw [← hS]; exact .inr ⟨hfT g e, hIT.lt e⟩
  have hbd1 : ∀ k, S k → k < w1.heap.size := fun k e => by
    rw [← hS] at e
    rcases e with e | e
    · exact Nat.lt_of_lt_of_le (H0.out.2.1.bound k e) g1.sz
    · exact e.2
  have hG0 : GrI J S g0 p t r W v b n q T vt 0 [] q w1 :=
    ⟨HJ.out (SL p b v) S [] W0 w1 H0.out.1 (Tch.nw g1) hSL (fun k e => by rw [← hS] at e; rcases e with e | e; exact .inl e; exact .inr e.1) hbd1, hbd1, hIT, .refl, ti_start H0.out.2.2.2, n, by omega, H0.out.2.1.nw g1⟩
  have HG := Lib.hid hG0
  have HS := Lib.hid (And.intro hSL hST)
  obtain ⟨at1, ct, hvt, _⟩ := hIT.box
  subst hvt
  clear hG0 hSL hST hbd1 hS g1 hIT hfT HTu
  gi_wp2
  gi_loopw [10] (fun x wr => ∃ (i : Nat) (pre : List Int) (q' : List Rq), x = .int .i64 i ∧ i ≤ T.length ∧ Hid (GrI J S g0 p t r W v b n q T (.slice at1 T.length ct) i pre q' wr)) (fun x _ => T.length - (intOf x).toNat)
  case atStart => exact ⟨0, [], q, rfl, Nat.zero_le _, HG⟩
  case round =>
    obtain ⟨i, pre, q', rfl, hi, HR⟩ := hrel
    by_cases hlt : i < T.length
    · obtain ⟨k, eT, hk, hqk, hsn, hfy, hfn⟩ := turn_next H0.out.2.2.1 HR.out.st H0.out.2.2.2 HR.out.ti hlt
      obtain ⟨n', hn', hLn⟩ := HR.out.ln
      have hlen := steps_len HR.out.st H0.out.2.2.1
      have okq := HR.out.st.ok H0.out.2.2.1
      obtain ⟨g, cap, hv, hg0, hgl, hce⟩ := RqOwn.at hLn.own hk
      subst hv
      obtain ⟨ao, c2, hvv, hbx⟩ := HR.out.row.box
      obtain ⟨gt, rfl, _⟩ := hbx (by omega)
      simp only [Value.slice.injEq, true_and] at hvv
      obtain ⟨rfl, rfl⟩ := hvv
      have hTc := HR.out.row.cell i hlt
      rw [show T.getD i 0 = (k : Int) by rw [← eT]; simp [List.getD, hlt]] at hTc
      have hTl2 := HR.out.row.glt
      have hii : (i : Int) < (T.length : Int) := by omega
      have hkk : (k : Int) < (q'.length : Int) := by omega
      have hpl := heap_lt' hLn.obj
      have m2 := hcell (j := 2) hLn.obj
      have hrt := okq.rt _ (List.getElem_mem hk)
      have hcb := cntQ_bd q'
      have hql : q'.length ≤ 1000 := by omega
      have hts := fun hc => turn_step H0.out.2.2.1 HR.out.st H0.out.2.2.2 HR.out.ti hlt eT hk hc
      have hgr := fun (w7 : World) (hN : Nw wr w7) => dGrant (hLn.nw hN) k hk hrt.md hrt.wt (fun y => by have := hcb y; omega) (by omega) hql
      have hcs := cntQ_set q' k hk (grtR q'[k])
      generalize hR : q'[k] = R at *
      obtain ⟨b0, b1, b2, b3, b4⟩ := R
      have e0 := hce 0 _ rfl
      have e1 := hce 1 _ rfl
      have e2 := hce 2 _ rfl
      have e3 := hce 3 _ rfl
      have e4 := hce 4 _ rfl
      simp only [Nat.add_zero] at e0
      simp only at hrt hfy hfn hts hgr hcs hsn
      have g6 : Nw wr (wr.alloc (.cells #[.int .i64 b0, .int .i64 b1, .int .i64 b2, .int .i64 b3, .int .i64 b4] 41)) := (Nw.refl wr).alloc _
      have hq6 := RqB.made wr b0 b1 b2 b3 b4 41
      obtain ⟨w6, hw6⟩ : ∃ w6, wr.alloc (.cells #[.int .i64 b0, .int .i64 b1, .int .i64 b2, .int .i64 b3, .int .i64 b4] 41) = w6 := ⟨_, rfl⟩
      rw [hw6] at g6 hq6
      have hF := dFits p b n' (cntQ q') b2 b3 _ _ _ _ _ w6 (hLn.nw g6).obj (hLn.nw g6).map (fun y => by have := hcb y; omega) hrt.wt
      obtain ⟨hlq, y0, y1, y2, y3, y4⟩ := hq6
      obtain ⟨B, hB⟩ : ∃ B, fitB (cntQ q') b2 b3 = B := ⟨_, rfl⟩
      rw [hB] at hF hfy hfn
      have HW6 := Lib.hid hw6
      have HF := Lib.hid hF
      have HGr := Lib.hid hgr
      have HTs := Lib.hid (And.intro hts (And.intro hcs (And.intro hn' g6)))
      have HY0 := Lib.hid (And.intro y0 (And.intro hlq (And.intro hLn.map.lt hgl)))
      cases B
      · have hd := hfn rfl
        have hsc := HR.out.st.scan H0.out.2.2.1 hd
        have HSc := Lib.hid hsc
        clear hce hrt hfy hfn hts hgr hcs hR hF hB hw6 hLn hlen okq hcb hd hsc eT hqk hsn
        gi_wp2_with fail
        rw [HW6.out]
        gi_wp2_with fail
        refine ⟨trivial, (callsIn_wide.2 HF.out).mono ?_⟩
        rintro e w7 ⟨rfl, g7⟩
        have HE : Hid ((∃ S, J S (scanQ q).1 w7 ∧ EndL g0 p t r W (.slice (some ⟨g, 0, none⟩) q'.length cap) b (scanQ q).2 w7) ∨ ∃ S pre, pre <+: (scanQ q).1 ∧ Jx S pre w7) := Lib.hid (by
          rw [HSc.out]
          have hN := HTs.out.2.2.2.trans g7
          obtain ⟨n'', _, hl2⟩ := HR.out.ln
          exact .inl ⟨S, HJ.out S S pre wr w7 HR.out.j (Tch.nw hN) (fun _ e => e) (fun _ e => .inl e) (fun k e => Nat.lt_of_lt_of_le (HR.out.bd k e) hN.sz), n'', hl2.nw hN⟩)
        clear g7 y0 y1 y2 y3 y4 hlq
        gi_wp2
        refine bodyPost_ret (results_none rfl _ _ _) rfl ?_
        exact ⟨⟨_, rfl⟩, HE.out⟩
      · have hst2 := hts (hfy rfl)
        have HSt := Lib.hid hst2
        have HC := Lib.hid hcs
        clear hce hrt hfy hfn hts hgr hcs hR hF hB hw6 hLn hlen okq hcb eT hqk hsn hst2
        gi_wp2_with fail
        rw [HW6.out]
        gi_wp2_with fail
        refine ⟨trivial, (callsIn_wide.2 HF.out).mono ?_⟩
        rintro e w7 ⟨rfl, g7⟩
        have HG7 := Lib.hid (HTs.out.2.2.2.trans g7)
        have HK7 := Lib.hid g7
        clear g7 y0 y1 y2 y3 y4 hlq
        gi_wp2_with fail
        refine ⟨trivial, (callsIn_wide.2 (HGr.out w7 HG7.out)).mono ?_⟩
        rintro e w8 ⟨rfl, hL8, hT8⟩
        have hbxl : wr.heap.size < w7.heap.size := Nat.lt_of_lt_of_le HY0.out.2.1 HK7.out.sz
        have z0 : w8.cell? ⟨wr.heap.size, 0, none⟩ = some (.int .i64 b0) := (hT8.cell hbxl (fun e => by have := HY0.out.2.2; omega)).trans (HK7.out.kp HY0.out.1)
        have hz0 := World.block_lt_of_cell? _ _ z0
        have hTS : Tch S wr w8 := (Tch.nw HG7.out).trans' hT8 (fun i _ e => by
          rcases e with rfl | rfl
          · exact HS.out.1 _ (.inr (.inl rfl))
          · exact HS.out.1 _ (.inr (.inr rfl)))
        have hbd8 : ∀ k, S k → k < w8.heap.size := fun k e => Nat.lt_of_lt_of_le (HR.out.bd k e) hTS.size
        have hJ8 : J S pre w8 := HJ.out S S pre wr w8 HR.out.j hTS (fun _ e => e) (fun _ e => .inl e) hbd8
        have hpre := steps_pre HSt.out.1 H0.out.2.2.1
        obtain ⟨fn, tmps, assign, body, hy, hRd⟩ := HY.out S pre b0 w8 hJ8 HS.out.1 hbd8 hpre
        have hI8 : IS w8 (.slice (some ⟨gt, 0, none⟩) T.length ct) T := (HR.out.row.nw HG7.out).tch hT8 (fun g' e q1 => by
          have hg' := HS.out.2 g' e
          have e1 := Option.some.inj e
          subst e1
          rcases q1 with q1 | q1
          · obtain ⟨es, cl, ob⟩ := (HR.out.ln.choose_spec.2).map.obj
            rcases HR.out.row.2 with ⟨h', _⟩ | ⟨g2, cap2, cur, h', _, hg2, _⟩
            · simp at h'
            · simp only [Value.slice.injEq, Option.some.injEq, Addr.mk.injEq, and_true, true_and] at h'
              obtain ⟨rfl, rfl⟩ := h'
              simp only at q1
              rw [q1, ob] at hg2; cases hg2
          · obtain ⟨cs, hc⟩ := oheap (HR.out.ln.choose_spec.2).own (g := g) rfl
            rcases HR.out.row.2 with ⟨h', _⟩ | ⟨g2, cap2, cur, h', _, hg2, _⟩
            · simp at h'
            · simp only [Value.slice.injEq, Option.some.injEq, Addr.mk.injEq, and_true, true_and] at h'
              obtain ⟨rfl, rfl⟩ := h'
              simp only at q1
              rw [q1, hc] at hg2
              injection hg2 with hg2
              injection hg2 with _ hg2
              exact absurd hg2 rq_int_ne)
        have HN8 := Lib.hid (And.intro hI8 (And.intro hL8 (And.intro hbd8 hpre)))
        clear hL8 hT8 hTS hbd8 hJ8 hpre hI8
        gi_wp2
        refine hRd.mono ?_
        rintro e w9 (⟨rfl, j2, k2⟩ | ⟨rfl, jx2, _⟩)
        · have H2 : Hid (GrI J S g0 p t r W (.slice (some ⟨g, 0, none⟩) q'.length cap) b n q T (.slice (some ⟨gt, 0, none⟩) T.length ct) (i + 1) (pre ++ [b0]) (q'.set k (grtR ⟨b0, b1, b2, b3, b4⟩)) w9) := Lib.hid
            ⟨j2, fun k e => Nat.lt_of_lt_of_le (HN8.out.2.2.1 k e) k2.size, HN8.out.1.kps k2 HS.out.2, HSt.out.1, HSt.out.2, n' + 2, by have := HTs.out.2.2.1; omega, (HN8.out.2.1.eq HC.out.symm).kps k2 HS.out.1⟩
          clear j2 k2 hy hRd
          gi_wp2
          go_roundw
          case rel => exact ⟨i + 1, _, _, by go_num, by omega, H2⟩
          case measure => simp [intOf]; omega
        · have H2 := Lib.hid jx2
          clear jx2 hy hRd
          gi_wp2
          refine bodyPost_ret (results_none rfl _ _ _) rfl ?_
          exact ⟨⟨_, rfl⟩, .inr ⟨S, pre ++ [b0], HN8.out.2.2.2, H2.out⟩⟩
    · have hd := turn_end H0.out.2.2.1 HR.out.st HR.out.ti hlt
      have hsc := HR.out.st.scan H0.out.2.2.1 hd
      have HE : Hid ((∃ S, J S (scanQ q).1 wr ∧ EndL g0 p t r W v b (scanQ q).2 wr) ∨ ∃ S pre, pre <+: (scanQ q).1 ∧ Jx S pre wr) := Lib.hid (by
        rw [hsc]
        obtain ⟨n'', _, hl2⟩ := HR.out.ln
        exact .inl ⟨S, HR.out.j, n'', hl2⟩)
      obtain rfl : i = T.length := by omega
      clear hd hsc
      gi_wp2
      refine bodyPost_end (results_none rfl _ _ _) rfl ?_
      exact ⟨⟨_, rfl⟩, HE.out⟩
theorem is_fill {w : World} {v : Value} {l : List Int} {rb : Nat} (h : IS w v l) (hb : ∀ g, v.ownBlock = some g → g ≠ rb) (u0 u1 u2 u3 : Value) : IS ((((w.setCell ⟨rb, 0, none⟩ u0).setCell ⟨rb, 1, none⟩ u1).setCell ⟨rb, 2, none⟩ u2).setCell ⟨rb, 3, none⟩ u3) v l :=
  (((h.tch (setCell_at w ⟨rb, 0, none⟩ u0) hb).tch (setCell_at _ ⟨rb, 1, none⟩ u1) hb).tch (setCell_at _ ⟨rb, 2, none⟩ u2) hb).tch (setCell_at _ ⟨rb, 3, none⟩ u3) hb
theorem endl_put {g0 p : Nat} {t r W : Int} {v : Value} {b : Nat} {q : List Rq} {m : Nat} (hb : ∀ k, SL p b v k → k < m) (A : World) (l : Nat) (o o' : Obj) (hl : m ≤ l) (h : EndL g0 p t r W v b q A) : EndL g0 p t r W v b q (A.putObj l o') := by
  obtain ⟨n', h⟩ := h
  refine ⟨n', h.kps (S := SL p b v) ⟨by simp, fun k e => ?_⟩ (fun _ e => e)⟩
  exact World.putObj_heap_other (fun e2 => by have := hb k e; omega)
set_option maxRecDepth 100000 in
set_option maxHeartbeats 4000000 in
theorem dScan (t r W : Int) (v : Value) (q : List Rq) (w : World) (hl : q.length ≤ 1000) (hok : Ok W q) (h : RqAt w v q) (hst : StOk (tC q) (wpl q q.length)) :
    Calls Try.prog 12 #[hdV t r v W] w fun e w' => ∃ v' vi, e = .returned (.tuple #[hdV t r v' W, vi]) ∧ Nw w w' ∧ RqAt w' v' (scanQ q).2 ∧ capOk v' ∧ IS w' vi (scanQ q).1 ∧ Fresh w v' (scanQ q).2 ∧ ∀ g, vi.ownBlock = some g → w.heap.size ≤ g := by
  have HLi := Lib.hid (fun (w1 : World) (g : Nw w w1) => dLineOf t r W v q w1 hl (fun R hR => (hok.rt R hR).md) (h.nw g))
  obtain ⟨a, c, rfl⟩ := h.form
  unfold hdV at HLi ⊢
  obtain ⟨hx1, hx2, hx3, hx4⟩ := two_boxes w (.cells #[.int .i64 t, .int .i64 r, .slice a q.length c, .int .i64 W] 27) (.cells #[.int .i64 0, .int .i64 0, .slice none 0 0, .int .i64 0] 27)
  obtain ⟨w1, hw1⟩ : ∃ w1, (w.alloc (.cells #[.int .i64 t, .int .i64 r, .slice a q.length c, .int .i64 W] 27)).alloc (.cells #[.int .i64 0, .int .i64 0, .slice none 0 0, .int .i64 0] 27) = w1 := ⟨_, rfl⟩
  rw [hw1] at hx2 hx3
  have HX := Lib.hid (And.intro hx2 hx3)
  have HW1 := Lib.hid hw1
  clear hx1 hx2 hx3 hx4 h hw1
  go_enter Try.func12, Try.ntmps12
  go_wp2_with fail
  rw [HW1.out]
  go_at_call 39
  refine (HLi.out _ HX.out.2).mono ?_
  rintro e w2 ⟨p, v1, b, n, rfl, g2, hL2, hnq⟩
  have hq2 := g2.at' HX.out.1
  have HQ := Lib.hid (And.intro hq2 (And.intro (HX.out.2.trans g2) (And.intro hL2 (hlt HX.out.1))))
  have hsl := hL2.bound
  have hls : (scanQ q).1.length ≤ 100000 := by
    have hw := (scan_steps hok).1.wtg hok
    have : wtg q ≤ q.length := List.countP_le_length
    omega
  have hC := collect_any _ #[.pointer (some ⟨p, 0, none⟩)] #[] e_grants (scanQ q).1 (SL p b v1) (EndL w1.heap.size p t r W v1 b (scanQ q).2) w2 hls hsl (grants_in 4 (by omega) w1.heap.size p b n t r W v1 q w2 hL2 hok hl (by omega) hst) (fun A l o o' h1 _ _ h2 => endl_put hsl A l o o' h1 h2)
  have HC := Lib.hid hC
  have HSL := Lib.hid (And.intro hsl (fun k (e : SL p b v1 k) => show w1.heap.size ≤ k by
    rcases e with rfl | rfl | e
    · exact hL2.gp
    · exact hL2.gb
    · exact oge hL2.own e))
  clear hq2 g2 hL2 hsl hls hC hst HLi HX
  go_wp2_with fail
  go_at_call 45
  refine HC.out.mono ?_
  rintro e w3 ⟨vi, rfl, hIi, hif, ⟨n3, hL3⟩, hT3⟩
  have hq3 := (hT3.block (w.heap.size + 1) (hlt HQ.out.1) (fun e => by have := HSL.out.2 _ e; have := HQ.out.2.2.2; omega)).trans HQ.out.1
  have hN3 : Nw w w3 := nw_tch HQ.out.2.1 hT3 (fun k e => by have := HSL.out.2 k e; have := HQ.out.2.2.2; omega)
  obtain ⟨a2, k2, hv2⟩ := (RqOwn.rd hL3.own).form
  obtain ⟨n2, hn2⟩ : ∃ n, (scanQ q).2.length = n := ⟨_, rfl⟩
  rw [hn2] at hv2
  subst hv2
  obtain ⟨ai, ci, hvi, _⟩ := hIi.box
  obtain ⟨ni, hni⟩ : ∃ n, (scanQ q).1.length = n := ⟨_, rfl⟩
  rw [hni] at hvi
  subst hvi
  have HE := Lib.hid (And.intro hN3 (And.intro hL3 (And.intro hIi (And.intro hif HQ.out.2.2.2))))
  have hpl := hlt hL3.obj
  have e0 := hcell (j := 0) hL3.obj
  have e1 := hcell (j := 1) hL3.obj
  have e2 := hcell (j := 2) hL3.obj
  have e3 := hcell (j := 3) hL3.obj
  have d0 := hcell (j := 0) hq3
  have d1 := hcell (j := 1) hq3
  have d2 := hcell (j := 2) hq3
  have d3 := hcell (j := 3) hq3
  have fz := fun k => hfz (j := k) hq3
  have hsl2 := hlt hq3
  have HS2 := Lib.hid (hlt HQ.out.1)
  have HQF : Hid (w.heap.size ≤ w1.heap.size) := Lib.hid (by have := HQ.out.2.2.2; omega)
  clear hL3 hT3 hN3 hq3 hIi hif hn2 hni HC HSL HQ
  go_wp2
  exact bodyPost_ret (v := .tuple #[.agg #[.int .i64 t, .int .i64 r, .slice a2 n2 k2, .int .i64 W], .slice ai ni ci]) (by simp only [results, Try.results12]; simp [go_sem, *]) rfl ⟨_, _, rfl, fill_nw HE.out.1 (Nat.le_succ _) _ _ _ _, (HE.out.2.1.done HE.out.2.2.2.2 _ _ _ _).1, HE.out.2.1.own.cap, is_fill HE.out.2.2.1 (fun g e => by have := HE.out.2.2.2.1 g e; have := HS2.out; omega) _ _ _ _, HE.out.2.1.own.fresh HQF.out, fun g e => by have := HE.out.2.2.2.1 g e; have := HS2.out; omega⟩
end Go.Proofs.Ytmciiobncfchlaa
end
