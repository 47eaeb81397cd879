
/- LatchUndo: the walk. -/
import Derived.Test.YtloendfkfginjaaLtU
namespace Go.Proofs.Ytloendfkfginjaa.latchUndo
open Go.RowKit

def Keeps (w W : World) (l N : Nat) : Prop := ∃ F hs, Acc w W l hs F ∧ hs.length = N

set_option maxRecDepth 100000 in
set_option maxHeartbeats 8000000 in
theorem walk (n : Int) (a0 : Option Addr) (len0 cap0 : Nat) (f : Nat → Nat → Int) (pk pt : Int) (w : World) (w0 : IsActs w a0 len0 cap0 f) (h0 : len0 ≤ 60) :
    Calls Try.prog 6 #[.int .i64 n, .slice a0 len0 cap0, .int .i64 pk, .int .i64 pt] w fun e w' => e = .returned (.bool true) ∧ Nw w w' := by
  have k0 : ¬ (60 : Int) < (len0 : Int) := by omega
  have R0 := Lib.hid w0
  clear w0
  go_enter Try.func6, Try.ntmps6
  go_wp2_with fail
  refine (lives_ok _).mono ?_
  rintro e wl ⟨rfl, g0⟩
  have G0 := Lib.hid g0
  clear g0
  go_wp2_with fail
  obtain ⟨N, hN, n0, n1⟩ := pick16 n
  have hp0 : 0 ≤ n % 16 := Int.emod_nonneg _ (by omega)
  have hp1 : n % 16 < 16 := Int.emod_lt_of_pos _ (by omega)
  refine (pick_any n 16 _ (by omega) (by omega)).mono ?_
  rintro e wq ⟨rfl, rfl⟩
  generalize n % 16 = m at *
  go_wp2_with fail
  clear hN hp0 hp1
  refine (acc_new w wl G0.out N N rfl n0 n1).mono ?_
  rintro e wa ⟨l, Fa, rfl, ha, na, fa⟩
  have H0 := Lib.hid ha
  clear ha na fa k0
  go_wp2
  go_loopw [11] (fun vi wr => ∃ k : Nat, vi = .int .i64 k ∧ k ≤ len0 ∧ Hid (Keeps w wr l N)) (fun vi _ => len0 - (intOf vi).toNat)
  case atStart => exact ⟨0, rfl, Nat.zero_le _, Lib.hid ⟨_, _, H0.out, by simp⟩⟩
  case round =>
    clear H0
    obtain ⟨k, rfl, hk, HK⟩ := hrel
    by_cases hlt : k < len0
    · obtain ⟨b, ob, rfl, hml, hbl, hcs⟩ := R0.out.at (by omega)
      obtain ⟨F, hs, HS, hlen⟩ := HK.out
      have NN := HS.nw
      obtain ⟨c0, c1, c2⟩ := hcs k hlt
      generalize f k = g at *
      obtain ⟨kk, hkk, kb⟩ := pickN (g 1) N n0
      obtain ⟨tt, htt, tb⟩ := pick8 (g 2)
      have HC : Hid (∀ x, Nw w x → TwoC b (ob + k * 3) (g 1) (g 2) x) := Lib.hid fun x q => ⟨(q.cell hbl).trans c1, (q.cell hbl).trans c2⟩
      have Q1 : Hid (∀ W, Calls Try.prog 18 #[.int .i64 (g 1), .int .i64 N] W fun e w' => e = .returned (.int .i64 kk) ∧ W = w') := Lib.hid fun W => by
        have := pick_any (g 1) N W (by omega) (by omega)
        rwa [hkk] at this
      have Q2 : Hid (∀ W, Calls Try.prog 18 #[.int .i64 (g 2), .int .i64 8] W fun e w' => e = .returned (.int .i64 tt) ∧ W = w') := Lib.hid fun W => by
        have := pick_any (g 2) 8 W (by omega) (by omega)
        rwa [htt] at this
      have H := Lib.hid (HS.step ((Nw.refl wr).drewN 1))
      change Hid (Acc w wr.drew _ _ _) at H
      have hS0 := HC.out _ H.out.nw
      have HL := Lib.hid hlen
      clear hcs NN HS HK hkk htt c0 c1 c2 hlen
      obtain ⟨⟨B, E⟩, hR⟩ : ∃ x, tryR hs kk tt = x := ⟨_, rfl⟩
      have HR := Lib.hid hR
      clear hR
      have q1 : ∀ x, TwoC b (ob + k * 3) (g 1) (g 2) x → x.cell? ⟨b, ob + k * 3 + 1, none⟩ = some (.int .i64 (g 1)) := fun x h => h.1
      have q2 : ∀ x, TwoC b (ob + k * 3) (g 1) (g 2) x → x.cell? ⟨b, ob + k * 3 + 2, none⟩ = some (.int .i64 (g 2)) := fun x h => h.2
      go_wp2
      refine region_told [some true, some true, some true, some true, some true, some true, some true, some false, some true, some true, some true, some true, some true, none, some false, none, some false, none] (TwoC b (ob + k * 3) (g 1) (g 2)) (by kernel_rfl) (by kernel_rfl) (by kernel_rfl) hS0 ?_
      repeat (first
        | (refine HW.off ?_)
        | (refine HW.take' ?_; apply Exists.intro; refine ⟨Or.inl ⟨by rfl, ?_⟩, ?_⟩; (intro x hx; go_simp; first | done | with_reducible rfl); (try simp only [Act.put, List.setIfInBounds_toArray, List.set_cons_zero, List.set_cons_succ]))
        | (refine HW.go (fun K hK => ?_); go_simp; (first | (go_at_call 18; (with_reducible refine (Q1.out _).mono ?_); rintro e wy ⟨rfl, rfl⟩; refine hK.out _ _ (HC.out _ H.out.nw) ?_; intro _; clear hK K) | (go_at_call 18; (with_reducible refine (Q2.out _).mono ?_); rintro e wy ⟨rfl, rfl⟩; refine hK.out _ _ (HC.out _ H.out.nw) ?_; intro _; clear hK K) | (go_at_call 10; (with_reducible refine (acc_try H.out _ _ B E _ HR.out rfl).mono ?_); rintro e wy ⟨rfl, F2, p1, _, _⟩; clear H; have H := Lib.hid p1; clear p1; refine hK.out _ _ (HC.out _ H.out.nw) ?_; intro _; clear hK K)); (try simp only [Act.put, List.setIfInBounds_toArray, List.set_cons_zero, List.set_cons_succ])))
      refine HW.end_ ?_
      refine NoPanic.normal ?_
      clear q1 q2 hS0 HC Q1 Q2 HR
      go_wp2
      go_roundw
      case rel => exact ⟨k + 1, by go_num, by omega, Lib.hid ⟨_, _, H.out, (tryS_len _ _ _).trans HL.out⟩⟩
      case measure => simp [intOf]; omega
    · obtain ⟨F, hs, HS, hlen⟩ := HK.out
      have H := Lib.hid HS
      obtain ⟨kk, hkk, kb⟩ := pickN pk N n0
      obtain ⟨tt, htt, tb⟩ := pick8 pt
      have hbd := HS.vl.bd kk (by omega)
      have qk : Okl hs kk tt := ⟨by omega, by omega, by omega, by omega⟩
      obtain rfl : k = len0 := by omega
      clear HK HS hlt hk R0
      go_wp2_with fail
      refine (pick_any pk N _ (by omega) (by omega)).mono ?_
      rintro e wq ⟨rfl, rfl⟩
      rw [hkk]
      go_wp2_with fail
      refine (pick_any pt 8 _ (by omega) (by omega)).mono ?_
      rintro e wq ⟨rfl, rfl⟩
      rw [htt]
      clear hkk htt
      obtain ⟨zs, hzs⟩ : ∃ zs, heldL hs tt = zs := ⟨_, rfl⟩
      obtain ⟨C, hC⟩ : ∃ C, takL hs = C := ⟨_, rfl⟩
      have hCl : C ≤ 16 := by
        have := takT_le hs hs.length
        unfold takL at hC
        omega
      have ZS := Lib.hid hzs
      have CC := Lib.hid hC
      clear hzs hC
      go_wp2_with fail
      refine (acc_held H.out tt zs ZS.out).mono ?_
      rintro e wh ⟨v, rfl, p1, p2, p3⟩
      replace H := Lib.hid (wa_new H.out p1 p2 p3)
      clear p1 p2 p3
      obtain ⟨ao, cap, rfl, _⟩ := H.out.z.box
      generalize zs.length = M at *
      go_wp2_with fail
      refine (acc_taken H.out.a C CC.out).mono ?_
      rintro e wq ⟨rfl, rfl⟩
      by_cases x1 : ho hs kk = -1
      · have HH := Lib.hid (hold_free x1)
        have HT := Lib.hid (try_free qk x1)
        have HC2 := Lib.hid (show takL (hs.set kk tt) = C + 1 by rw [takL_set hs kk tt (by omega) x1 (by omega), CC.out])
        have HF := Lib.hid (show freeE (hs.set kk tt) kk tt = 0 ∧ freeS (hs.set kk tt) kk tt = hs by
          have q2 : Okl (hs.set kk tt) kk tt := by unfold Okl at qk ⊢; rwa [List.length_set]
          have q3 := free_own q2 (by rw [ho_set _ _ _ _ (by omega), if_pos rfl])
          rwa [set_back hs kk tt (by omega) x1] at q3)
        clear qk hbd x1 hlen
        go_wp2_with fail
        refine (acc_holder H.out.a kk 0 false HH.out).mono ?_
        rintro e wq ⟨rfl, rfl⟩
        go_wp2_with fail
        refine (wa_try H.out kk tt true 0 _ HT.out).mono ?_
        rintro e wy ⟨rfl, F2, p1⟩
        replace H := Lib.hid p1
        clear p1 HT HH
        go_wp2_with fail
        refine (acc_taken H.out.a (C + 1) HC2.out).mono ?_
        rintro e wq ⟨rfl, rfl⟩
        go_wp2_with fail
        refine (wa_free H.out kk tt 0 _ HF.out).mono ?_
        rintro e wy ⟨rfl, F3, p1⟩
        replace H := Lib.hid p1
        clear p1 HF HC2
        go_wp2_with fail
        refine (acc_taken H.out.a C CC.out).mono ?_
        rintro e wq ⟨rfl, rfl⟩
        go_wp2_with fail
        refine (acc_held H.out.a tt zs ZS.out).mono ?_
        rintro e wh ⟨v2, rfl, p1, _, p3⟩
        replace H := Lib.hid (H.out.nw p3)
        have HI := Lib.hid p1
        clear p1 p3
        go_wp2_with fail
        refine (same_any _ _ _ zs HI.out H.out.z).mono ?_
        rintro e wz ⟨rfl, p3⟩
        replace H := Lib.hid (H.out.nw p3)
        clear p3 HI
        go_wp2
        go_ret
        exact ⟨rfl, H.out.a.nw⟩
      · have x0 : 0 ≤ ho hs kk := by omega
        have HH := Lib.hid (hold_yes (by omega) x0)
        obtain ⟨E, hE⟩ : ∃ E, tryR hs kk tt = (false, E) ∧ tryS hs kk tt = hs := by
          by_cases x2 : ho hs kk = tt
          · exact ⟨4, try_own qk x2⟩
          · exact ⟨0, try_other qk x0 x2⟩
        have HT := Lib.hid hE
        clear qk hbd x1 x0 hE hlen
        generalize ho hs kk = x at *
        go_wp2_with fail
        refine (acc_holder H.out.a kk x true HH.out).mono ?_
        rintro e wq ⟨rfl, rfl⟩
        go_wp2_with fail
        refine (wa_try H.out kk tt false E _ HT.out).mono ?_
        rintro e wy ⟨rfl, F2, p1⟩
        replace H := Lib.hid p1
        clear p1 HT HH
        go_wp2_with fail
        refine (acc_held H.out.a tt zs ZS.out).mono ?_
        rintro e wh ⟨v2, rfl, p1, _, p3⟩
        replace H := Lib.hid (H.out.nw p3)
        have HI := Lib.hid p1
        clear p1 p3
        go_wp2_with fail
        refine (same_any _ _ _ zs HI.out H.out.z).mono ?_
        rintro e wz ⟨rfl, p3⟩
        replace H := Lib.hid (H.out.nw p3)
        clear p3 HI
        go_wp2_with fail
        refine (acc_taken H.out.a C CC.out).mono ?_
        rintro e wq ⟨rfl, rfl⟩
        go_wp2
        go_ret
        exact ⟨rfl, H.out.a.nw⟩

set_option maxRecDepth 100000 in
theorem law_any (n : Int) (a0 : Option Addr) (len0 cap0 : Nat) (f : Nat → Nat → Int) (pk pt : Int) (w : World) (wn : (Lit.int .i64 n).wf = true) (w0 : IsActs w a0 len0 cap0 f) (wk : (Lit.int .i64 pk).wf = true) (wt : (Lit.int .i64 pt).wf = true) :
    Calls Try.prog 6 #[.int .i64 n, .slice a0 len0 cap0, .int .i64 pk, .int .i64 pt] w fun e w' => e = .returned (.bool true) ∧ Nw w w' := by
  by_cases h : len0 ≤ 60
  · exact walk n a0 len0 cap0 f pk pt w w0 h
  · have k0 : (60 : Int) < (len0 : Int) := by omega
    clear w0
    go_enter Try.func6, Try.ntmps6
    go_wp2_with fail
    refine (lives_ok _).mono ?_
    rintro e w0 ⟨rfl, g0⟩
    have G0 := Lib.hid g0
    clear g0
    go_wp2
    go_ret
    exact ⟨rfl, G0.out⟩
end Go.Proofs.Ytloendfkfginjaa.latchUndo
