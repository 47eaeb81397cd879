
/- TicksScript: the walk. -/
import Derived.Test.YtolpccchhjcddaaTkRG
namespace Go.Proofs.Ytolpccchhjcddaa
open Go.RowKit Go.Shelf

theorem nxt_form (s : List Tm) : ∃ x0 x1 x2 b, nxtV s = .tuple #[.agg #[.int .i64 x0, .int .i64 x1, .int .i64 x2], .bool b] := by
  cases s with
  | nil => exact ⟨0, 0, 0, false, rfl⟩
  | cons a s => exact ⟨a.1, a.2.1, a.2.2, true, rfl⟩
def Keeps (w W : World) (ca cb k : Nat) : Prop := ∃ F t s v, s.length ≤ k ∧ Sc w W ca t s F cb t v s ∧ ∀ x ∈ s, x.1 ≤ 9223372036854775807

set_option maxRecDepth 100000 in
set_option maxHeartbeats 8000000 in
theorem script_walk (a0 : Option Addr) (len0 cap0 : Nat) (f : Nat → Nat → Int) (w : World) (w0 : IsActs w a0 len0 cap0 f) (h0 : len0 ≤ 60) :
    Calls Try.prog 4 #[.slice a0 len0 cap0] w fun e w' => e = .returned (.bool true) ∧ Nw w w' := by
  have k0 : ¬ (60 : Int) < (len0 : Int) := by omega
  have R0 := Lib.hid w0
  clear w0
  go_enter Try.func4, Try.ntmps4
  go_wp2_with fail
  refine (lives_ok _).mono ?_
  rintro e wl ⟨rfl, g0⟩
  have G0 := Lib.hid g0
  clear g0
  go_wp2_with fail
  refine (acc_new w wl G0.out).mono ?_
  rintro e wa ⟨ca, Fa, rfl, ha, na, fa⟩
  have HA := Lib.hid ha
  clear ha na fa k0
  go_wp2_with fail
  refine (rnew_any wa).mono ?_
  rintro e wb ⟨cb, rfl, rb, lb, nb⟩
  have H0 := Lib.hid (sc_start HA.out rb lb nb)
  clear rb lb nb HA
  go_wp2
  go_loopw [5] (fun vi wr => ∃ k : Nat, vi = .int .i64 k ∧ k ≤ len0 ∧ Hid (Keeps w wr ca cb k)) (fun vi _ => len0 - (intOf vi).toNat)
  case atStart => exact ⟨0, rfl, Nat.zero_le _, Lib.hid ⟨Fa, 0, [], _, Nat.le_refl _, H0.out, by simp⟩⟩
  case round =>
    clear H0
    obtain ⟨k, rfl, hk, HK⟩ := hrel
    by_cases hlt : k < len0
    · obtain ⟨b, o, rfl, hml, hbl, hcs⟩ := R0.out.at (by omega)
      obtain ⟨F, t, s, v, hsl, HS, hbd⟩ := HK.out
      have HB := Lib.hid hbd
      have NN := HS.a.nw
      have c0 : wr.cell? ⟨b, o + k * 5, none⟩ = some (.int .i64 (f k 0)) := (NN.cell hbl).trans (by have := (hcs k 0 hlt (by omega)).1; simpa using this)
      have c1 : wr.cell? ⟨b, o + k * 5 + 1, none⟩ = some (.int .i64 (f k 1)) := (NN.cell hbl).trans (by have := (hcs k 1 hlt (by omega)).1; rwa [← Nat.add_assoc] at this)
      have c2 : wr.cell? ⟨b, o + k * 5 + 2, none⟩ = some (.int .i64 (f k 2)) := (NN.cell hbl).trans (by have := (hcs k 2 hlt (by omega)).1; rwa [← Nat.add_assoc] at this)
      have c3 : wr.cell? ⟨b, o + k * 5 + 3, none⟩ = some (.int .i64 (f k 3)) := (NN.cell hbl).trans (by have := (hcs k 3 hlt (by omega)).1; rwa [← Nat.add_assoc] at this)
      have c4 : wr.cell? ⟨b, o + k * 5 + 4, none⟩ = some (.int .i64 (f k 4)) := (NN.cell hbl).trans (by have := (hcs k 4 hlt (by omega)).1; rwa [← Nat.add_assoc] at this)
      have hw1 := (i64_bd (hcs k 1 hlt (by omega)).2).2
      generalize f k = g at *
      have H := Lib.hid HS
      have hsm : s.length ≤ 50000 := by omega
      clear hcs NN HS hbd HK
      go_wp2_with fail
      have hp0 : 0 ≤ g 0 % 4 := Int.emod_nonneg _ (by omega)
      have hp1 : g 0 % 4 < 4 := Int.emod_lt_of_pos _ (by omega)
      refine (pick_any (g 0) 4 _ (by omega) (by omega)).mono ?_
      rintro e wx ⟨rfl, hwx⟩
      have NX : Nw wr wx := hwx ▸ (Nw.refl _).alloc _
      obtain ⟨xb, hxb⟩ : ∃ xb, wr.heap.size = xb := ⟨_, rfl⟩
      have HX0 := Lib.hid (show Bx wx xb F cb g from ⟨by rw [← hwx, ← hxb]; simp, fun e => by have := H.out.a.ck.own xb e; omega, fun e => by have := H.out.b.lt; omega, fun j hj => by
        rw [← hwx, ← hxb]
        match j, hj with
        | 0, _ => simp [go_sem]
        | 1, _ => simp [go_sem]
        | 2, _ => simp [go_sem]
        | 3, _ => simp [go_sem]
        | 4, _ => simp [go_sem]⟩)
      have H1 := Lib.hid (H.out.nw NX)
      have hxl := HX0.out.lt
      obtain ⟨x0, x1, x2, x3, x4⟩ := HX0.out.five
      rw [hxb]
      clear hwx NX hxb H c0 c1 c2 c3 c4
      generalize g 0 % 4 = p at *
      have hp : p = 0 ∨ p = 1 ∨ p = 2 ∨ p = 3 := by omega
      clear hp0 hp1
      rcases hp with rfl | rfl | rfl | rfl
      · go_wp2
        have hS0 : Five xb (g 0) (g 1) (g 2) (g 3) (g 4) wx.drew := (HX0.out.nw ((Nw.refl wx).drewN 1)).five
        have H1d := Lib.hid (H1.out.nw ((Nw.refl wx).drewN 1))
        have HX0d := Lib.hid (HX0.out.nw ((Nw.refl wx).drewN 1))
        change Hid (Sc w wx.drew _ _ _ _ _ _ _ _) at H1d
        change Hid (Bx wx.drew _ _ _ _) at HX0d
        have q1 : ∀ x, Five xb (g 0) (g 1) (g 2) (g 3) (g 4) x → x.cell? ⟨xb, 1, none⟩ = some (.int .i64 (g 1)) := fun x h => h.2.1
        have q2 : ∀ x, Five xb (g 0) (g 1) (g 2) (g 3) (g 4) x → x.cell? ⟨xb, 2, none⟩ = some (.int .i64 (g 2)) := fun x h => h.2.2.1
        have q3 : ∀ x, Five xb (g 0) (g 1) (g 2) (g 3) (g 4) x → x.cell? ⟨xb, 3, none⟩ = some (.int .i64 (g 3)) := fun x h => h.2.2.2.1
        clear x0 x1 x2 x3 x4
        refine region_told [some true, some true, some true, some true, some true, some true, some true, some false, some true, some true, some true, some true, some true, some true, some true, none, some false, none, some true, some true] (Five xb (g 0) (g 1) (g 2) (g 3) (g 4)) (by kernel_rfl) (by kernel_rfl) (by kernel_rfl) hS0 ?_
        repeat (first
          | (refine HW.off ?_)
          | (refine HW.take' ?_; apply Exists.intro; refine ⟨Or.inl ⟨by rfl, ?_⟩, ?_⟩; (intro x hx; go_simp; first | done | with_reducible rfl); (try simp only [Act.put, List.setIfInBounds_toArray, List.set_cons_zero, List.set_cons_succ]))
          | (refine HW.go (fun K hK => ?_); go_simp; (first | (go_at_call 9; (with_reducible refine (sx_setA H1d.out HX0d.out hsm _ _ _).mono ?_); rintro e wy ⟨rfl, F2, p1, p2⟩; have H1e := Lib.hid p1; have HX1 := Lib.hid p2; clear p1 p2; refine hK.out _ _ HX1.out.five ?_; intro _; clear hK K) | (go_at_call 18; (with_reducible refine (sx_setB H1e.out HX1.out hsm _ _ _).mono ?_); rintro e wz ⟨rfl, v2, p1, p2⟩; have H2 := Lib.hid p1; have HX2 := Lib.hid p2; clear p1 p2; refine hK.out _ _ HX2.out.five ?_; intro _; clear hK K)); (try simp only [Act.put, List.setIfInBounds_toArray, List.set_cons_zero, List.set_cons_succ])))
        refine HW.end_ ?_
        refine NoPanic.normal ?_
        clear q1 q2 q3 hS0 HX0 HX0d H1 H1d H1e HX1 HX2
        have HB2 := Lib.hid (setS_bd (t := t) (who := g 2) (mark := g 3) HB.out hw1)
        have hl2 : (setS t s (g 1) (g 2) (g 3)).length ≤ k + 1 := by have := setS_len t s (g 1) (g 2) (g 3); omega
        clear HB hsl hsm
        generalize setS t s (g 1) (g 2) (g 3) = s2 at *
        obtain ⟨X0, X1, X2, XB, hnx⟩ := nxt_form (s2)
        have HX := Lib.hid hnx
        clear hnx
        go_wp2_with fail
        refine (next_any _ _ _ _ _ H2.out.a.ck (by omega)).mono ?_
        rintro e wm ⟨rfl, g1⟩
        rw [HX.out]
        have H3 := Lib.hid (H2.out.nw g1)
        clear g1
        go_wp2_with fail
        have H4 := Lib.hid (H3.out.nw ((Nw.refl _).alloc (.cells #[.int .i64 X0, .int .i64 X1, .int .i64 X2] 28)))
        refine (rnext_any _ _ _ _ _ H4.out.b).mono ?_
        rintro e wn ⟨rfl, g1⟩
        rw [HX.out]
        have e0 : wn.cell? ⟨wm.heap.size, 0, none⟩ = some (.int .i64 X0) := (g1.cell (by simp)).trans (by simp [go_sem])
        have e1 : wn.cell? ⟨wm.heap.size, 1, none⟩ = some (.int .i64 X1) := (g1.cell (by simp)).trans (by simp [go_sem])
        have e2 : wn.cell? ⟨wm.heap.size, 2, none⟩ = some (.int .i64 X2) := (g1.cell (by simp)).trans (by simp [go_sem])
        have el : wm.heap.size < wn.heap.size := by have := g1.sz; simp at this; omega
        have H5 := Lib.hid (H4.out.nw g1)
        clear g1
        go_wp2_with fail
        have g2 : Nw wn (wn.alloc (.cells #[.int .i64 X0, .int .i64 X1, .int .i64 X2] 28)) := (Nw.refl _).alloc _
        have H6 := Lib.hid (H5.out.nw g2)
        refine (timers_any ca _ _ _ 70 _ H6.out.a.ck (by omega) (by omega) HB2.out).mono ?_
        rintro e wp hw
        obtain ⟨vp, rfl, r1, r2, r3⟩ := hw
        have y0 : wp.cell? ⟨wn.heap.size, 0, none⟩ = some (.int .i64 X0) := (r3.cell (by simp)).trans (by simp [go_sem])
        have y1 : wp.cell? ⟨wn.heap.size, 1, none⟩ = some (.int .i64 X1) := (r3.cell (by simp)).trans (by simp [go_sem])
        have y2 : wp.cell? ⟨wn.heap.size, 2, none⟩ = some (.int .i64 X2) := (r3.cell (by simp)).trans (by simp [go_sem])
        have z0 := ((g2.trans r3).cell el).trans e0
        have z1 := ((g2.trans r3).cell el).trans e1
        have z2 := ((g2.trans r3).cell el).trans e2
        have el2 : wm.heap.size < wp.heap.size := Nat.lt_of_lt_of_le el (g2.trans r3).sz
        have yl2 : wn.heap.size < wp.heap.size := by have := r3.sz; simp at this; omega
        have H7 := Lib.hid (H6.out.nw r3)
        have TP := Lib.hid r1
        clear r1 r2 r3 g2 e0 e1 e2
        go_wp2_with fail
        refine (now_any _ _ _ _ _ H7.out.a.ck).mono ?_
        rintro e wq ⟨rfl, rfl⟩
        go_wp2_with fail
        refine (rnow_any _ _ _ _ _ H7.out.b).mono ?_
        rintro e wq ⟨rfl, rfl⟩
        go_wp2_with fail
        refine (clen_any _ _ _ _ _ H7.out.a.ck).mono ?_
        rintro e wq ⟨rfl, rfl⟩
        go_wp2_with fail
        refine (rlen_any _ _ _ _ _ H7.out.b).mono ?_
        rintro e wq ⟨rfl, rfl⟩
        go_wp2_with fail
        refine (reach_any _ _ _ _ _ H7.out.b (by omega)).mono ?_
        rintro e wq ⟨vq, rfl, q1, q2⟩
        have H8 := Lib.hid (H7.out.nw q2)
        have TQ := Lib.hid q1
        replace TP := Lib.hid (TP.out.nw q2)
        clear q1 q2 y0 y1 y2 z0 z1 z2
        go_wp2_with fail
        refine (same_any _ _ _ _ TP.out TQ.out).mono ?_
        rintro e wu ⟨rfl, g1⟩
        have H9 := Lib.hid (H8.out.nw g1)
        clear g1
        go_wp2
        go_roundw
        case rel => exact ⟨k + 1, by go_num, by omega, Lib.hid ⟨_, _, _, _, hl2, H9.out, HB2.out⟩⟩
        case measure => simp [intOf]; omega
      · go_wp2
        have hu := H1.out.uq
        have hS0 : Five xb (g 0) (g 1) (g 2) (g 3) (g 4) wx.drew := (HX0.out.nw ((Nw.refl wx).drewN 1)).five
        have H1d := Lib.hid (H1.out.nw ((Nw.refl wx).drewN 1))
        have HX0d := Lib.hid (HX0.out.nw ((Nw.refl wx).drewN 1))
        change Hid (Sc w wx.drew _ _ _ _ _ _ _ _) at H1d
        change Hid (Bx wx.drew _ _ _ _) at HX0d
        have q1' : ∀ x, Five xb (g 0) (g 1) (g 2) (g 3) (g 4) x → x.cell? ⟨xb, 1, none⟩ = some (.int .i64 (g 1)) := fun x h => h.2.1
        have q2 : ∀ x, Five xb (g 0) (g 1) (g 2) (g 3) (g 4) x → x.cell? ⟨xb, 2, none⟩ = some (.int .i64 (g 2)) := fun x h => h.2.2.1
        have q3 : ∀ x, Five xb (g 0) (g 1) (g 2) (g 3) (g 4) x → x.cell? ⟨xb, 3, none⟩ = some (.int .i64 (g 3)) := fun x h => h.2.2.2.1
        clear x0 x1 x2 x3 x4
        refine region_told [some true, some true, some true, some true, some true, some false, some true, some true, some true, some true, some true, none, some false, none, some true, some true] (Five xb (g 0) (g 1) (g 2) (g 3) (g 4)) (by kernel_rfl) (by kernel_rfl) (by kernel_rfl) hS0 ?_
        repeat (first
          | (refine HW.off ?_)
          | (refine HW.take' ?_; apply Exists.intro; refine ⟨Or.inl ⟨by rfl, ?_⟩, ?_⟩; (intro x hx; go_simp; first | done | with_reducible rfl); (try simp only [Act.put, List.setIfInBounds_toArray, List.set_cons_zero, List.set_cons_succ]))
          | (refine HW.go (fun K hK => ?_); go_simp; (first | (go_at_call 12; (with_reducible refine (sx_dropA H1d.out HX0d.out hsm _ _).mono ?_); rintro e wy ⟨rfl, F2, p1, p2⟩; have H1e := Lib.hid p1; have HX1 := Lib.hid p2; clear p1 p2; refine hK.out _ _ HX1.out.five ?_; intro _; clear hK K) | (go_at_call 19; (with_reducible refine (sx_dropB H1e.out HX1.out hsm hu _ _).mono ?_); rintro e wz ⟨rfl, v2, p1, p2⟩; have H2 := Lib.hid p1; have HX2 := Lib.hid p2; clear p1 p2; refine hK.out _ _ HX2.out.five ?_; intro _; clear hK K)); (try simp only [Act.put, List.setIfInBounds_toArray, List.set_cons_zero, List.set_cons_succ])))
        refine HW.end_ ?_
        refine NoPanic.normal ?_
        clear q1' q2 q3 hS0 HX0 HX0d H1 H1d H1e HX1 HX2 hu
        have HB2 := Lib.hid (drp_bd (who := g 2) (mark := g 3) HB.out)
        have hl2 : (drp s (g 2) (g 3)).length ≤ k + 1 := by have := drp_len s (g 2) (g 3); omega
        clear HB hsl hsm
        generalize drp s (g 2) (g 3) = s2 at *
        obtain ⟨X0, X1, X2, XB, hnx⟩ := nxt_form (s2)
        have HX := Lib.hid hnx
        clear hnx
        go_wp2_with fail
        refine (next_any _ _ _ _ _ H2.out.a.ck (by omega)).mono ?_
        rintro e wm ⟨rfl, g1⟩
        rw [HX.out]
        have H3 := Lib.hid (H2.out.nw g1)
        clear g1
        go_wp2_with fail
        have H4 := Lib.hid (H3.out.nw ((Nw.refl _).alloc (.cells #[.int .i64 X0, .int .i64 X1, .int .i64 X2] 28)))
        refine (rnext_any _ _ _ _ _ H4.out.b).mono ?_
        rintro e wn ⟨rfl, g1⟩
        rw [HX.out]
        have e0 : wn.cell? ⟨wm.heap.size, 0, none⟩ = some (.int .i64 X0) := (g1.cell (by simp)).trans (by simp [go_sem])
        have e1 : wn.cell? ⟨wm.heap.size, 1, none⟩ = some (.int .i64 X1) := (g1.cell (by simp)).trans (by simp [go_sem])
        have e2 : wn.cell? ⟨wm.heap.size, 2, none⟩ = some (.int .i64 X2) := (g1.cell (by simp)).trans (by simp [go_sem])
        have el : wm.heap.size < wn.heap.size := by have := g1.sz; simp at this; omega
        have H5 := Lib.hid (H4.out.nw g1)
        clear g1
        go_wp2_with fail
        have g2 : Nw wn (wn.alloc (.cells #[.int .i64 X0, .int .i64 X1, .int .i64 X2] 28)) := (Nw.refl _).alloc _
        have H6 := Lib.hid (H5.out.nw g2)
        refine (timers_any ca _ _ _ 70 _ H6.out.a.ck (by omega) (by omega) HB2.out).mono ?_
        rintro e wp hw
        obtain ⟨vp, rfl, r1, r2, r3⟩ := hw
        have y0 : wp.cell? ⟨wn.heap.size, 0, none⟩ = some (.int .i64 X0) := (r3.cell (by simp)).trans (by simp [go_sem])
        have y1 : wp.cell? ⟨wn.heap.size, 1, none⟩ = some (.int .i64 X1) := (r3.cell (by simp)).trans (by simp [go_sem])
        have y2 : wp.cell? ⟨wn.heap.size, 2, none⟩ = some (.int .i64 X2) := (r3.cell (by simp)).trans (by simp [go_sem])
        have z0 := ((g2.trans r3).cell el).trans e0
        have z1 := ((g2.trans r3).cell el).trans e1
        have z2 := ((g2.trans r3).cell el).trans e2
        have el2 : wm.heap.size < wp.heap.size := Nat.lt_of_lt_of_le el (g2.trans r3).sz
        have yl2 : wn.heap.size < wp.heap.size := by have := r3.sz; simp at this; omega
        have H7 := Lib.hid (H6.out.nw r3)
        have TP := Lib.hid r1
        clear r1 r2 r3 g2 e0 e1 e2
        go_wp2_with fail
        refine (now_any _ _ _ _ _ H7.out.a.ck).mono ?_
        rintro e wq ⟨rfl, rfl⟩
        go_wp2_with fail
        refine (rnow_any _ _ _ _ _ H7.out.b).mono ?_
        rintro e wq ⟨rfl, rfl⟩
        go_wp2_with fail
        refine (clen_any _ _ _ _ _ H7.out.a.ck).mono ?_
        rintro e wq ⟨rfl, rfl⟩
        go_wp2_with fail
        refine (rlen_any _ _ _ _ _ H7.out.b).mono ?_
        rintro e wq ⟨rfl, rfl⟩
        go_wp2_with fail
        refine (reach_any _ _ _ _ _ H7.out.b (by omega)).mono ?_
        rintro e wq ⟨vq, rfl, q1, q2⟩
        have H8 := Lib.hid (H7.out.nw q2)
        have TQ := Lib.hid q1
        replace TP := Lib.hid (TP.out.nw q2)
        clear q1 q2 y0 y1 y2 z0 z1 z2
        go_wp2_with fail
        refine (same_any _ _ _ _ TP.out TQ.out).mono ?_
        rintro e wu ⟨rfl, g1⟩
        have H9 := Lib.hid (H8.out.nw g1)
        clear g1
        go_wp2
        go_roundw
        case rel => exact ⟨k + 1, by go_num, by omega, Lib.hid ⟨_, _, _, _, hl2, H9.out, HB2.out⟩⟩
        case measure => simp [intOf]; omega
      · by_cases hn : 0 ≤ g 4 ∧ g 4 ≤ 1000
        · obtain ⟨n0, n1⟩ := hn
          have tb := H1.out.tb
          go_wp2_with fail
          refine (sx_passA H1.out HX0.out hsm (g 4) (by omega) (by omega)).mono ?_
          rintro e wy ⟨vx, F2, rfl, p1, p2, p3⟩
          have H1e := Lib.hid p1
          have GX := Lib.hid p2
          have z4 := p3.cell 4 (by omega)
          have zl := p3.lt
          clear p1 p2 p3 x0 x1 x2 x3 x4
          go_wp2_with fail
          refine (sc_passB H1e.out GX.out hsm tb.1 tb.2 (g 4) (by omega) (by omega)).mono ?_
          rintro e wz ⟨vy, v2, rfl, p1, p2, p3⟩
          have H2a := Lib.hid p1
          have TX := Lib.hid p2.ts
          have TY := Lib.hid p3
          clear p1 p2 p3 z4 zl
          go_wp2_with fail
          refine (same_any _ _ _ _ TX.out TY.out).mono ?_
          rintro e wz2 ⟨rfl, g1⟩
          have H2 := Lib.hid (H2a.out.nw g1)
          clear g1 H2a TX TY GX H1e H1 HX0
          have HB2 := Lib.hid (late_bd HB.out (passT t (g 4)))
          have hl2 : (late (passT t (g 4)) s).length ≤ k + 1 := by have := late_len (passT t (g 4)) s; omega
          clear HB hsl hsm tb
          generalize late (passT t (g 4)) s = s2 at *
          generalize passT t (g 4) = t2 at *
          obtain ⟨X0, X1, X2, XB, hnx⟩ := nxt_form (s2)
          have HX := Lib.hid hnx
          clear hnx
          go_wp2_with fail
          refine (next_any _ _ _ _ _ H2.out.a.ck (by omega)).mono ?_
          rintro e wm ⟨rfl, g1⟩
          rw [HX.out]
          have H3 := Lib.hid (H2.out.nw g1)
          clear g1
          go_wp2_with fail
          have H4 := Lib.hid (H3.out.nw ((Nw.refl _).alloc (.cells #[.int .i64 X0, .int .i64 X1, .int .i64 X2] 28)))
          refine (rnext_any _ _ _ _ _ H4.out.b).mono ?_
          rintro e wn ⟨rfl, g1⟩
          rw [HX.out]
          have e0 : wn.cell? ⟨wm.heap.size, 0, none⟩ = some (.int .i64 X0) := (g1.cell (by simp)).trans (by simp [go_sem])
          have e1 : wn.cell? ⟨wm.heap.size, 1, none⟩ = some (.int .i64 X1) := (g1.cell (by simp)).trans (by simp [go_sem])
          have e2 : wn.cell? ⟨wm.heap.size, 2, none⟩ = some (.int .i64 X2) := (g1.cell (by simp)).trans (by simp [go_sem])
          have el : wm.heap.size < wn.heap.size := by have := g1.sz; simp at this; omega
          have H5 := Lib.hid (H4.out.nw g1)
          clear g1
          go_wp2_with fail
          have g2 : Nw wn (wn.alloc (.cells #[.int .i64 X0, .int .i64 X1, .int .i64 X2] 28)) := (Nw.refl _).alloc _
          have H6 := Lib.hid (H5.out.nw g2)
          refine (timers_any ca _ _ _ 70 _ H6.out.a.ck (by omega) (by omega) HB2.out).mono ?_
          rintro e wp hw
          obtain ⟨vp, rfl, r1, r2, r3⟩ := hw
          have y0 : wp.cell? ⟨wn.heap.size, 0, none⟩ = some (.int .i64 X0) := (r3.cell (by simp)).trans (by simp [go_sem])
          have y1 : wp.cell? ⟨wn.heap.size, 1, none⟩ = some (.int .i64 X1) := (r3.cell (by simp)).trans (by simp [go_sem])
          have y2 : wp.cell? ⟨wn.heap.size, 2, none⟩ = some (.int .i64 X2) := (r3.cell (by simp)).trans (by simp [go_sem])
          have z0 := ((g2.trans r3).cell el).trans e0
          have z1 := ((g2.trans r3).cell el).trans e1
          have z2 := ((g2.trans r3).cell el).trans e2
          have el2 : wm.heap.size < wp.heap.size := Nat.lt_of_lt_of_le el (g2.trans r3).sz
          have yl2 : wn.heap.size < wp.heap.size := by have := r3.sz; simp at this; omega
          have H7 := Lib.hid (H6.out.nw r3)
          have TP := Lib.hid r1
          clear r1 r2 r3 g2 e0 e1 e2
          go_wp2_with fail
          refine (now_any _ _ _ _ _ H7.out.a.ck).mono ?_
          rintro e wq ⟨rfl, rfl⟩
          go_wp2_with fail
          refine (rnow_any _ _ _ _ _ H7.out.b).mono ?_
          rintro e wq ⟨rfl, rfl⟩
          go_wp2_with fail
          refine (clen_any _ _ _ _ _ H7.out.a.ck).mono ?_
          rintro e wq ⟨rfl, rfl⟩
          go_wp2_with fail
          refine (rlen_any _ _ _ _ _ H7.out.b).mono ?_
          rintro e wq ⟨rfl, rfl⟩
          go_wp2_with fail
          refine (reach_any _ _ _ _ _ H7.out.b (by omega)).mono ?_
          rintro e wq ⟨vq, rfl, q1, q2⟩
          have H8 := Lib.hid (H7.out.nw q2)
          have TQ := Lib.hid q1
          replace TP := Lib.hid (TP.out.nw q2)
          clear q1 q2 y0 y1 y2 z0 z1 z2
          go_wp2_with fail
          refine (same_any _ _ _ _ TP.out TQ.out).mono ?_
          rintro e wu ⟨rfl, g1⟩
          have H9 := Lib.hid (H8.out.nw g1)
          clear g1
          go_wp2
          go_roundw
          case rel => exact ⟨k + 1, by go_num, by omega, Lib.hid ⟨_, _, _, _, hl2, H9.out, HB2.out⟩⟩
          case measure => simp [intOf]; omega
        · have hbad : g 4 < 0 ∨ 1000 < g 4 := by omega
          have hself : wx.cell? ⟨ca, 0, none⟩ = some (.pointer (some ⟨ca, 0, none⟩)) := by
            obtain ⟨_, _, h, _⟩ := H1.out.a.ck
            exact h.self
          have HP := Lib.hid (pass_bad ca (g 4) wx hself hbad)
          have HQ := Lib.hid (rpass_bad cb (g 4) wx hbad)
          clear hself hbad
          go_wp2_with fail
          refine HP.out.mono ?_
          rintro e wy ⟨rfl, rfl⟩
          go_wp2_with fail
          refine HQ.out.mono ?_
          rintro e wy ⟨rfl, rfl⟩
          go_wp2_with fail
          refine (same_any _ _ _ [] (World.ownsRow_nil _ _ _ _) (World.ownsRow_nil _ _ _ _)).mono ?_
          rintro e wz2 ⟨rfl, g1⟩
          have H2 := Lib.hid (H1.out.nw g1)
          clear g1 HP HQ H1 HX0 x0 x1 x2 x3 x4
          have HB2 := Lib.hid HB.out
          have hl2 : s.length ≤ k + 1 := by omega
          obtain ⟨X0, X1, X2, XB, hnx⟩ := nxt_form (s)
          have HX := Lib.hid hnx
          clear hnx
          go_wp2_with fail
          refine (next_any _ _ _ _ _ H2.out.a.ck (by omega)).mono ?_
          rintro e wm ⟨rfl, g1⟩
          rw [HX.out]
          have H3 := Lib.hid (H2.out.nw g1)
          clear g1
          go_wp2_with fail
          have H4 := Lib.hid (H3.out.nw ((Nw.refl _).alloc (.cells #[.int .i64 X0, .int .i64 X1, .int .i64 X2] 28)))
          refine (rnext_any _ _ _ _ _ H4.out.b).mono ?_
          rintro e wn ⟨rfl, g1⟩
          rw [HX.out]
          have e0 : wn.cell? ⟨wm.heap.size, 0, none⟩ = some (.int .i64 X0) := (g1.cell (by simp)).trans (by simp [go_sem])
          have e1 : wn.cell? ⟨wm.heap.size, 1, none⟩ = some (.int .i64 X1) := (g1.cell (by simp)).trans (by simp [go_sem])
          have e2 : wn.cell? ⟨wm.heap.size, 2, none⟩ = some (.int .i64 X2) := (g1.cell (by simp)).trans (by simp [go_sem])
          have el : wm.heap.size < wn.heap.size := by have := g1.sz; simp at this; omega
          have H5 := Lib.hid (H4.out.nw g1)
          clear g1
          go_wp2_with fail
          have g2 : Nw wn (wn.alloc (.cells #[.int .i64 X0, .int .i64 X1, .int .i64 X2] 28)) := (Nw.refl _).alloc _
          have H6 := Lib.hid (H5.out.nw g2)
          refine (timers_any ca _ _ _ 70 _ H6.out.a.ck (by omega) (by omega) HB2.out).mono ?_
          rintro e wp hw
          obtain ⟨vp, rfl, r1, r2, r3⟩ := hw
          have y0 : wp.cell? ⟨wn.heap.size, 0, none⟩ = some (.int .i64 X0) := (r3.cell (by simp)).trans (by simp [go_sem])
          have y1 : wp.cell? ⟨wn.heap.size, 1, none⟩ = some (.int .i64 X1) := (r3.cell (by simp)).trans (by simp [go_sem])
          have y2 : wp.cell? ⟨wn.heap.size, 2, none⟩ = some (.int .i64 X2) := (r3.cell (by simp)).trans (by simp [go_sem])
          have z0 := ((g2.trans r3).cell el).trans e0
          have z1 := ((g2.trans r3).cell el).trans e1
          have z2 := ((g2.trans r3).cell el).trans e2
          have el2 : wm.heap.size < wp.heap.size := Nat.lt_of_lt_of_le el (g2.trans r3).sz
          have yl2 : wn.heap.size < wp.heap.size := by have := r3.sz; simp at this; omega
          have H7 := Lib.hid (H6.out.nw r3)
          have TP := Lib.hid r1
          clear r1 r2 r3 g2 e0 e1 e2
          go_wp2_with fail
          refine (now_any _ _ _ _ _ H7.out.a.ck).mono ?_
          rintro e wq ⟨rfl, rfl⟩
          go_wp2_with fail
          refine (rnow_any _ _ _ _ _ H7.out.b).mono ?_
          rintro e wq ⟨rfl, rfl⟩
          go_wp2_with fail
          refine (clen_any _ _ _ _ _ H7.out.a.ck).mono ?_
          rintro e wq ⟨rfl, rfl⟩
          go_wp2_with fail
          refine (rlen_any _ _ _ _ _ H7.out.b).mono ?_
          rintro e wq ⟨rfl, rfl⟩
          go_wp2_with fail
          refine (reach_any _ _ _ _ _ H7.out.b (by omega)).mono ?_
          rintro e wq ⟨vq, rfl, q1, q2⟩
          have H8 := Lib.hid (H7.out.nw q2)
          have TQ := Lib.hid q1
          replace TP := Lib.hid (TP.out.nw q2)
          clear q1 q2 y0 y1 y2 z0 z1 z2
          go_wp2_with fail
          refine (same_any _ _ _ _ TP.out TQ.out).mono ?_
          rintro e wu ⟨rfl, g1⟩
          have H9 := Lib.hid (H8.out.nw g1)
          clear g1
          go_wp2
          go_roundw
          case rel => exact ⟨k + 1, by go_num, by omega, Lib.hid ⟨_, _, _, _, hl2, H9.out, HB2.out⟩⟩
          case measure => simp [intOf]; omega
      · have H2 := Lib.hid H1.out
        have HB2 := Lib.hid HB.out
        have hl2 : s.length ≤ k + 1 := by omega
        clear H1 HX0 x0 x1 x2 x3 x4
        obtain ⟨X0, X1, X2, XB, hnx⟩ := nxt_form (s)
        have HX := Lib.hid hnx
        clear hnx
        go_wp2_with fail
        refine (next_any _ _ _ _ _ H2.out.a.ck (by omega)).mono ?_
        rintro e wm ⟨rfl, g1⟩
        rw [HX.out]
        have H3 := Lib.hid (H2.out.nw g1)
        clear g1
        go_wp2_with fail
        have H4 := Lib.hid (H3.out.nw ((Nw.refl _).alloc (.cells #[.int .i64 X0, .int .i64 X1, .int .i64 X2] 28)))
        refine (rnext_any _ _ _ _ _ H4.out.b).mono ?_
        rintro e wn ⟨rfl, g1⟩
        rw [HX.out]
        have e0 : wn.cell? ⟨wm.heap.size, 0, none⟩ = some (.int .i64 X0) := (g1.cell (by simp)).trans (by simp [go_sem])
        have e1 : wn.cell? ⟨wm.heap.size, 1, none⟩ = some (.int .i64 X1) := (g1.cell (by simp)).trans (by simp [go_sem])
        have e2 : wn.cell? ⟨wm.heap.size, 2, none⟩ = some (.int .i64 X2) := (g1.cell (by simp)).trans (by simp [go_sem])
        have el : wm.heap.size < wn.heap.size := by have := g1.sz; simp at this; omega
        have H5 := Lib.hid (H4.out.nw g1)
        clear g1
        go_wp2_with fail
        have g2 : Nw wn (wn.alloc (.cells #[.int .i64 X0, .int .i64 X1, .int .i64 X2] 28)) := (Nw.refl _).alloc _
        have H6 := Lib.hid (H5.out.nw g2)
        refine (timers_any ca _ _ _ 70 _ H6.out.a.ck (by omega) (by omega) HB2.out).mono ?_
        rintro e wp hw
        obtain ⟨vp, rfl, r1, r2, r3⟩ := hw
        have y0 : wp.cell? ⟨wn.heap.size, 0, none⟩ = some (.int .i64 X0) := (r3.cell (by simp)).trans (by simp [go_sem])
        have y1 : wp.cell? ⟨wn.heap.size, 1, none⟩ = some (.int .i64 X1) := (r3.cell (by simp)).trans (by simp [go_sem])
        have y2 : wp.cell? ⟨wn.heap.size, 2, none⟩ = some (.int .i64 X2) := (r3.cell (by simp)).trans (by simp [go_sem])
        have z0 := ((g2.trans r3).cell el).trans e0
        have z1 := ((g2.trans r3).cell el).trans e1
        have z2 := ((g2.trans r3).cell el).trans e2
        have el2 : wm.heap.size < wp.heap.size := Nat.lt_of_lt_of_le el (g2.trans r3).sz
        have yl2 : wn.heap.size < wp.heap.size := by have := r3.sz; simp at this; omega
        have H7 := Lib.hid (H6.out.nw r3)
        have TP := Lib.hid r1
        clear r1 r2 r3 g2 e0 e1 e2
        go_wp2_with fail
        refine (now_any _ _ _ _ _ H7.out.a.ck).mono ?_
        rintro e wq ⟨rfl, rfl⟩
        go_wp2_with fail
        refine (rnow_any _ _ _ _ _ H7.out.b).mono ?_
        rintro e wq ⟨rfl, rfl⟩
        go_wp2_with fail
        refine (clen_any _ _ _ _ _ H7.out.a.ck).mono ?_
        rintro e wq ⟨rfl, rfl⟩
        go_wp2_with fail
        refine (rlen_any _ _ _ _ _ H7.out.b).mono ?_
        rintro e wq ⟨rfl, rfl⟩
        go_wp2_with fail
        refine (reach_any _ _ _ _ _ H7.out.b (by omega)).mono ?_
        rintro e wq ⟨vq, rfl, q1, q2⟩
        have H8 := Lib.hid (H7.out.nw q2)
        have TQ := Lib.hid q1
        replace TP := Lib.hid (TP.out.nw q2)
        clear q1 q2 y0 y1 y2 z0 z1 z2
        go_wp2_with fail
        refine (same_any _ _ _ _ TP.out TQ.out).mono ?_
        rintro e wu ⟨rfl, g1⟩
        have H9 := Lib.hid (H8.out.nw g1)
        clear g1
        go_wp2
        go_roundw
        case rel => exact ⟨k + 1, by go_num, by omega, Lib.hid ⟨_, _, _, _, hl2, H9.out, HB2.out⟩⟩
        case measure => simp [intOf]; omega
    · go_wp2
      go_ret
      obtain ⟨F, t, s, v, hsl, HS, hbd⟩ := HK.out
      exact ⟨rfl, HS.a.nw⟩
end Go.Proofs.Ytolpccchhjcddaa
