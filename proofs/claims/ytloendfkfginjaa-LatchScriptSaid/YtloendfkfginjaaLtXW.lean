
/- LatchScript: the walk. -/
import Derived.Test.YtloendfkfginjaaLtX
namespace Go.Proofs.Ytloendfkfginjaa.latchScript
open Go.RowKit

def Keeps (w W : World) (l o g cap : Nat) : Prop := ∃ F hs, Sc w W l hs F o g cap hs

set_option maxRecDepth 100000 in
set_option maxHeartbeats 8000000 in
theorem walk (N : Nat) (n0 : 1 ≤ N) (n1 : N ≤ 16) (a0 : Option Addr) (len0 cap0 : Nat) (f : Nat → Nat → Int) (w : World) (w0 : IsActs w a0 len0 cap0 f) (h0 : len0 ≤ 60) :
    Calls Try.prog 4 #[.int .i64 N, .slice a0 len0 cap0] w fun e w' => e = .returned (.bool true) ∧ Nw w w' := by
  have k0 : ¬ (60 : Int) < (len0 : Int) := by omega
  have R0 := Lib.hid w0
  clear w0
  go_enter Try.func4, Try.ntmps4
  go_wp2_with fail
  refine (lives_ok _).mono ?_
  rintro e wl ⟨rfl, g0⟩
  have G0 := Lib.hid g0
  clear g0
  go_wp2_with fail
  refine (acc_new w wl G0.out N N rfl n0 n1).mono ?_
  rintro e wa ⟨l, Fa, rfl, ha, na, fa⟩
  have HA := Lib.hid ha
  clear ha na fa k0
  go_wp2_with fail
  refine (rnew_at N n0 n1 wa).mono ?_
  rintro e wb ⟨o, r, cap, rfl, rb, lb, lg, nb⟩
  have H0 := Lib.hid (sc_start HA.out rb lb lg nb)
  clear rb lb lg nb HA
  go_wp2
  go_loopw [9] (fun vi wr => ∃ k : Nat, vi = .int .i64 k ∧ k ≤ len0 ∧ Hid (Keeps w wr l o r cap)) (fun vi _ => len0 - (intOf vi).toNat)
  case atStart => exact ⟨0, rfl, Nat.zero_le _, Lib.hid ⟨_, _, H0.out⟩⟩
  case round =>
    clear H0
    obtain ⟨k, rfl, hk, HK⟩ := hrel
    by_cases hlt : k < len0
    · obtain ⟨b, ob, rfl, hml, hbl, hcs⟩ := R0.out.at (by omega)
      obtain ⟨F, hs, HS⟩ := HK.out
      have NN := HS.a.nw
      obtain ⟨c0, c1, c2⟩ := hcs k hlt
      replace c0 := (NN.cell hbl).trans c0
      replace c1 := (NN.cell hbl).trans c1
      replace c2 := (NN.cell hbl).trans c2
      generalize f k = g at *
      have H := Lib.hid HS
      clear hcs NN HS HK
      go_wp2_with fail
      have hp0 : 0 ≤ g 0 % 3 := Int.emod_nonneg _ (by omega)
      have hp1 : g 0 % 3 < 3 := Int.emod_lt_of_pos _ (by omega)
      refine (pick_any (g 0) 3 _ (by omega) (by omega)).mono ?_
      rintro e wx ⟨rfl, hwx⟩
      have NX : Nw wr wx := hwx ▸ (Nw.refl _).alloc _
      obtain ⟨xb, hxb⟩ : ∃ xb, wr.heap.size = xb := ⟨_, rfl⟩
      have HX := Lib.hid (show Bx wx xb F r g from ⟨by rw [← hwx, ← hxb]; simp, fun e => by have := H.out.a.lat.own xb e; omega, fun e => by have := H.out.b.r.is.glt; omega, fun j hj => by
        rw [← hwx, ← hxb]
        match j, hj with
        | 0, _ => simp [go_sem]
        | 1, _ => simp [go_sem]
        | 2, _ => simp [go_sem]⟩)
      replace H := Lib.hid (H.out.nw NX)
      have hxl := HX.out.lt
      obtain ⟨x0, x1, x2⟩ := HX.out.three
      rw [hxb]
      clear hwx NX hxb c0 c1 c2
      generalize g 0 % 3 = p at *
      have hp : p < 2 ∨ p = 2 := by omega
      rcases hp with hp | rfl
      · obtain ⟨⟨B, E⟩, hR⟩ : ∃ x, tryR hs (g 1) (g 2) = x := ⟨_, rfl⟩
        have HR := Lib.hid hR
        clear hR
        go_wp2_with fail
        refine (sx_tryA H.out HX.out _ _ B E HR.out).mono ?_
        rintro e wy ⟨rfl, F2, p1, p2⟩
        replace H := Lib.hid p1
        replace HX := Lib.hid p2
        clear p1 p2 x0 x1 x2
        obtain ⟨x0, x1, x2⟩ := HX.out.three
        go_wp2_with fail
        refine (sx_tryB H.out HX.out _ _ B E HR.out).mono ?_
        rintro e wz ⟨rfl, p1, p2⟩
        replace H := Lib.hid p1
        replace HX := Lib.hid p2
        clear p1 p2 x0 x1 x2 HR
        obtain ⟨x0, x1, x2⟩ := HX.out.three
        generalize tryS hs (g 1) (g 2) = hs2 at *
        obtain ⟨⟨X, I⟩, hH⟩ : ∃ x, holdR hs2 (g 1) = x := ⟨_, rfl⟩
        have HH := Lib.hid hH
        clear hH
        go_wp2_with fail
        refine (acc_holder H.out.a _ X I HH.out).mono ?_
        rintro e wq ⟨rfl, rfl⟩
        go_wp2_with fail
        refine (sx_holderB H.out _ X I HH.out).mono ?_
        rintro e wq ⟨rfl, rfl⟩
        go_wp2
        have hS0 : Three xb (g 0) (g 1) (g 2) wz.drew := (HX.out.nw ((Nw.refl wz).drewN 1)).three
        replace H := Lib.hid (H.out.nw ((Nw.refl wz).drewN 1))
        replace HX := Lib.hid (HX.out.nw ((Nw.refl wz).drewN 1))
        change Hid (Sc w wz.drew _ _ _ _ _ _ _) at H
        change Hid (Bx wz.drew _ _ _ _) at HX
        have q1 : ∀ x, Three xb (g 0) (g 1) (g 2) x → x.cell? ⟨xb, 1, none⟩ = some (.int .i64 (g 1)) := fun x h => h.2.1
        have q2 : ∀ x, Three xb (g 0) (g 1) (g 2) x → x.cell? ⟨xb, 2, none⟩ = some (.int .i64 (g 2)) := fun x h => h.2.2
        clear x0 x1 x2 HH
        refine region_told [some true, some true, some true, some true, some true, some true, some true, some true, some true, some true, some true, some true, some true, some true, some true, some true, some false, some true, some true, some true, none, some false, none, some false, none, some true, some true, some true, some true, some false, some true, none, some false, none, some true, some true, some true, some true, some false, some true, none, some false, none, some true, some true] (Three xb (g 0) (g 1) (g 2)) (by kernel_rfl) (by kernel_rfl) (by kernel_rfl) hS0 ?_
        repeat (first
          | (refine HW.off ?_)
          | (refine HW.take' ?_; apply Exists.intro; refine ⟨Or.inl ⟨by rfl, ?_⟩, ?_⟩; (intro x hx; go_simp; first | done | with_reducible rfl); (try simp only [Act.put, List.setIfInBounds_toArray, List.set_cons_zero, List.set_cons_succ]))
          | (refine HW.go (fun K hK => ?_); go_simp; (first | (go_at_call 14; (with_reducible refine (acc_held H.out.a _ _ rfl).mono ?_); rintro e wy ⟨v1, rfl, p1, _, p3⟩; have HX' := Lib.hid (HX.out.nw p3); have H' := Lib.hid (H.out.nw p3); clear HX H; have HX := HX'; have H := H'; clear HX' H'; have I1 := Lib.hid p1; clear p1 p3; refine hK.out _ _ HX.out.three ?_; intro _; clear hK K) | (go_at_call 22; (with_reducible refine (rheld_at _ _ _ _ _ _ H.out.b).mono ?_); rintro e wy ⟨v2, rfl, p1, _, p3⟩; have HX' := Lib.hid (HX.out.nw p3); have H' := Lib.hid (H.out.nw p3); clear HX H; have HX := HX'; have H := H'; clear HX' H'; have I2 := Lib.hid p1; have I1' := Lib.hid (I1.out.nw p3); clear p1 p3 I1; refine hK.out _ _ HX.out.three ?_; intro _; clear hK K) | (go_at_call 13; (with_reducible refine (same_any _ _ _ _ I1'.out I2.out).mono ?_); rintro e wy ⟨rfl, p3⟩; have HX' := Lib.hid (HX.out.nw p3); have H' := Lib.hid (H.out.nw p3); clear HX H; have HX := HX'; have H := H'; clear HX' H'; clear p3 I2 I1'; refine hK.out _ _ HX.out.three ?_; intro _; clear hK K) | (go_at_call 15; (with_reducible refine (acc_len H.out.a _ rfl).mono ?_); rintro e wy ⟨rfl, rfl⟩; skip; refine hK.out _ _ HX.out.three ?_; intro _; clear hK K) | (go_at_call 23; (with_reducible refine (rlen_at _ _ _ _ _ H.out.b).mono ?_); rintro e wy ⟨rfl, rfl⟩; skip; refine hK.out _ _ HX.out.three ?_; intro _; clear hK K) | (go_at_call 16; (with_reducible refine (acc_taken H.out.a _ rfl).mono ?_); rintro e wy ⟨rfl, rfl⟩; skip; refine hK.out _ _ HX.out.three ?_; intro _; clear hK K) | (go_at_call 24; (with_reducible refine (rtaken_at _ _ _ _ _ H.out.b).mono ?_); rintro e wy ⟨rfl, rfl⟩; skip; refine hK.out _ _ HX.out.three ?_; intro _; clear hK K)); (try simp only [Act.put, List.setIfInBounds_toArray, List.set_cons_zero, List.set_cons_succ])))
        refine HW.end_ ?_
        refine NoPanic.normal ?_
        clear q1 q2 hS0 HX
        go_wp2
        go_roundw
        case rel => exact ⟨k + 1, by go_num, by omega, Lib.hid ⟨_, _, H.out⟩⟩
        case measure => simp [intOf]; omega
      · obtain ⟨E, hR⟩ : ∃ x, freeE hs (g 1) (g 2) = x := ⟨_, rfl⟩
        have HR := Lib.hid hR
        clear hR
        go_wp2
        have hS0 : Three xb (g 0) (g 1) (g 2) wx.drew := (HX.out.nw ((Nw.refl wx).drewN 1)).three
        replace H := Lib.hid (H.out.nw ((Nw.refl wx).drewN 1))
        replace HX := Lib.hid (HX.out.nw ((Nw.refl wx).drewN 1))
        change Hid (Sc w wx.drew _ _ _ _ _ _ _) at H
        change Hid (Bx wx.drew _ _ _ _) at HX
        have q1 : ∀ x, Three xb (g 0) (g 1) (g 2) x → x.cell? ⟨xb, 1, none⟩ = some (.int .i64 (g 1)) := fun x h => h.2.1
        have q2 : ∀ x, Three xb (g 0) (g 1) (g 2) x → x.cell? ⟨xb, 2, none⟩ = some (.int .i64 (g 2)) := fun x h => h.2.2
        clear x0 x1 x2
        refine region_told [some true, some true, some true, some true, some true, some false, some true, some true, some true, some true, some true, none, some false, none, some true, some true] (Three xb (g 0) (g 1) (g 2)) (by kernel_rfl) (by kernel_rfl) (by kernel_rfl) hS0 ?_
        repeat (first
          | (refine HW.off ?_)
          | (refine HW.take' ?_; apply Exists.intro; refine ⟨Or.inl ⟨by rfl, ?_⟩, ?_⟩; (intro x hx; go_simp; first | done | with_reducible rfl); (try simp only [Act.put, List.setIfInBounds_toArray, List.set_cons_zero, List.set_cons_succ]))
          | (refine HW.go (fun K hK => ?_); go_simp; (first | (go_at_call 11; (with_reducible refine (sx_freeA H.out HX.out _ _ E HR.out).mono ?_); rintro e wy ⟨rfl, F2, p1, p2⟩; clear H HX; have H := Lib.hid p1; have HX := Lib.hid p2; clear p1 p2; refine hK.out _ _ HX.out.three ?_; intro _; clear hK K) | (go_at_call 20; (with_reducible refine (sx_freeB H.out HX.out _ _ E HR.out).mono ?_); rintro e wz ⟨rfl, p1, p2⟩; clear H HX; have H := Lib.hid p1; have HX := Lib.hid p2; clear p1 p2; refine hK.out _ _ HX.out.three ?_; intro _; clear hK K)); (try simp only [Act.put, List.setIfInBounds_toArray, List.set_cons_zero, List.set_cons_succ])))
        refine HW.end_ ?_
        refine NoPanic.normal ?_
        clear q1 q2 hS0 HR
        obtain ⟨x0, x1, x2⟩ := HX.out.three
        generalize freeS hs (g 1) (g 2) = hs2 at *
        obtain ⟨⟨X, I⟩, hH⟩ : ∃ x, holdR hs2 (g 1) = x := ⟨_, rfl⟩
        have HH := Lib.hid hH
        clear hH
        go_wp2_with fail
        refine (acc_holder H.out.a _ X I HH.out).mono ?_
        rintro e wq ⟨rfl, rfl⟩
        go_wp2_with fail
        refine (sx_holderB H.out _ X I HH.out).mono ?_
        rintro e wq ⟨rfl, rfl⟩
        go_wp2
        have hS0 : Three xb (g 0) (g 1) (g 2) wz.drew := (HX.out.nw ((Nw.refl wz).drewN 1)).three
        replace H := Lib.hid (H.out.nw ((Nw.refl wz).drewN 1))
        replace HX := Lib.hid (HX.out.nw ((Nw.refl wz).drewN 1))
        change Hid (Sc w wz.drew _ _ _ _ _ _ _) at H
        change Hid (Bx wz.drew _ _ _ _) at HX
        have q1 : ∀ x, Three xb (g 0) (g 1) (g 2) x → x.cell? ⟨xb, 1, none⟩ = some (.int .i64 (g 1)) := fun x h => h.2.1
        have q2 : ∀ x, Three xb (g 0) (g 1) (g 2) x → x.cell? ⟨xb, 2, none⟩ = some (.int .i64 (g 2)) := fun x h => h.2.2
        clear x0 x1 x2 HH
        refine region_told [some true, some true, some true, some true, some true, some true, some true, some true, some true, some true, some true, some true, some true, some true, some true, some true, some false, some true, some true, some true, none, some false, none, some false, none, some true, some true, some true, some true, some false, some true, none, some false, none, some true, some true, some true, some true, some false, some true, none, some false, none, some true, some true] (Three xb (g 0) (g 1) (g 2)) (by kernel_rfl) (by kernel_rfl) (by kernel_rfl) hS0 ?_
        repeat (first
          | (refine HW.off ?_)
          | (refine HW.take' ?_; apply Exists.intro; refine ⟨Or.inl ⟨by rfl, ?_⟩, ?_⟩; (intro x hx; go_simp; first | done | with_reducible rfl); (try simp only [Act.put, List.setIfInBounds_toArray, List.set_cons_zero, List.set_cons_succ]))
          | (refine HW.go (fun K hK => ?_); go_simp; (first | (go_at_call 14; (with_reducible refine (acc_held H.out.a _ _ rfl).mono ?_); rintro e wy ⟨v1, rfl, p1, _, p3⟩; have HX' := Lib.hid (HX.out.nw p3); have H' := Lib.hid (H.out.nw p3); clear HX H; have HX := HX'; have H := H'; clear HX' H'; have I1 := Lib.hid p1; clear p1 p3; refine hK.out _ _ HX.out.three ?_; intro _; clear hK K) | (go_at_call 22; (with_reducible refine (rheld_at _ _ _ _ _ _ H.out.b).mono ?_); rintro e wy ⟨v2, rfl, p1, _, p3⟩; have HX' := Lib.hid (HX.out.nw p3); have H' := Lib.hid (H.out.nw p3); clear HX H; have HX := HX'; have H := H'; clear HX' H'; have I2 := Lib.hid p1; have I1' := Lib.hid (I1.out.nw p3); clear p1 p3 I1; refine hK.out _ _ HX.out.three ?_; intro _; clear hK K) | (go_at_call 13; (with_reducible refine (same_any _ _ _ _ I1'.out I2.out).mono ?_); rintro e wy ⟨rfl, p3⟩; have HX' := Lib.hid (HX.out.nw p3); have H' := Lib.hid (H.out.nw p3); clear HX H; have HX := HX'; have H := H'; clear HX' H'; clear p3 I2 I1'; refine hK.out _ _ HX.out.three ?_; intro _; clear hK K) | (go_at_call 15; (with_reducible refine (acc_len H.out.a _ rfl).mono ?_); rintro e wy ⟨rfl, rfl⟩; skip; refine hK.out _ _ HX.out.three ?_; intro _; clear hK K) | (go_at_call 23; (with_reducible refine (rlen_at _ _ _ _ _ H.out.b).mono ?_); rintro e wy ⟨rfl, rfl⟩; skip; refine hK.out _ _ HX.out.three ?_; intro _; clear hK K) | (go_at_call 16; (with_reducible refine (acc_taken H.out.a _ rfl).mono ?_); rintro e wy ⟨rfl, rfl⟩; skip; refine hK.out _ _ HX.out.three ?_; intro _; clear hK K) | (go_at_call 24; (with_reducible refine (rtaken_at _ _ _ _ _ H.out.b).mono ?_); rintro e wy ⟨rfl, rfl⟩; skip; refine hK.out _ _ HX.out.three ?_; intro _; clear hK K)); (try simp only [Act.put, List.setIfInBounds_toArray, List.set_cons_zero, List.set_cons_succ])))
        refine HW.end_ ?_
        refine NoPanic.normal ?_
        clear q1 q2 hS0 HX
        go_wp2
        go_roundw
        case rel => exact ⟨k + 1, by go_num, by omega, Lib.hid ⟨_, _, H.out⟩⟩
        case measure => simp [intOf]; omega
    · go_wp2
      go_ret
      obtain ⟨_, _, HS⟩ := HK.out
      exact ⟨rfl, HS.a.nw⟩

theorem law_any (n : Int) (a0 : Option Addr) (len0 cap0 : Nat) (f : Nat → Nat → Int) (w : World) (wn : (Lit.int .i64 n).wf = true) (w0 : IsActs w a0 len0 cap0 f) :
    Calls Try.prog 4 #[.int .i64 n, .slice a0 len0 cap0] w fun e w' => e = .returned (.bool true) ∧ Nw w w' := by
  by_cases h : len0 ≤ 60
  · by_cases q : 1 ≤ n ∧ n ≤ 16
    · obtain ⟨N, rfl⟩ := Int.eq_ofNat_of_zero_le (show 0 ≤ n by omega)
      exact walk N (by omega) (by omega) a0 len0 cap0 f w w0 h
    · have k0 : ¬ (60 : Int) < (len0 : Int) := by omega
      have Q := Lib.hid q
      clear q w0
      go_enter Try.func4, Try.ntmps4
      go_wp2_with fail
      refine (lives_ok _).mono ?_
      rintro e w0 ⟨rfl, g0⟩
      have G0 := Lib.hid g0
      clear g0
      go_wp2_with fail
      refine (acc_bad n _ Q.out).mono ?_
      rintro e w1 ⟨rfl, rfl⟩
      go_wp2_with fail
      refine (rnew_bad n _ Q.out).mono ?_
      rintro e w1 ⟨rfl, rfl⟩
      go_wp2
      go_ret
      exact ⟨rfl, G0.out⟩
  · have k0 : (60 : Int) < (len0 : Int) := by omega
    clear w0
    go_enter Try.func4, Try.ntmps4
    go_wp2_with fail
    refine (lives_ok _).mono ?_
    rintro e w0 ⟨rfl, g0⟩
    have G0 := Lib.hid g0
    clear g0
    go_wp2
    go_ret
    exact ⟨rfl, G0.out⟩
end Go.Proofs.Ytloendfkfginjaa.latchScript
