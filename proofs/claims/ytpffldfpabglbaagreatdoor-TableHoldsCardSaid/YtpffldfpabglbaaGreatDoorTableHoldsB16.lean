/- Texts merged: SmC -/
import Derived.Test.YtpffldfpabglbaaGreatDoorTableHoldsB15

/- symMergeCmpFunc of ints: one on the right. -/
section
namespace Go.Proofs.YtpffldfpabglbaaGreatDoor
open Go.RowKit
set_option linter.unusedVariables false      -- a contract need not use every name

theorem RowN.swapB {w : World} {g cap n : Nat} {U Z : List Int} {x y : Int} (h : RowN w g cap n (U ++ y :: (x :: Z))) (p q : Nat) (hp : p = U.length) (hq : q = U.length + 1) :
    RowN ((w.setCell ⟨g, q, none⟩ (.int .i64 y)).setCell ⟨g, p, none⟩ (.int .i64 x)) g cap n (U ++ x :: (y :: Z)) := by
  have := IS.set (IS.set h q y) p x
  rw [List.set_comm _ _ (by omega)] at this
  have e := sm_sw_mid U [] Z y x p q hp (by simpa using hq)
  simp only [List.nil_append] at e
  rwa [e] at this
set_option maxRecDepth 100000 in
set_option maxHeartbeats 4000000 in
theorem symLastG (f : Value) (c : Int → Int → Int) (M : Int → Prop) (o : OrdC c M) (g cap n : Nat) (P A Q : List Int) (x : Int) (w : World) (hn : n ≤ 1000) (h : RowN w g cap n (P ++ A ++ x :: Q)) (mA : ∀ y ∈ A, M y) (mx : M x) (nA : x ∉ A) (sA : Sd c A) (hA : 1 < A.length) (hf : Cmps w f g c M)
    (a m b : Nat) (ha : a = P.length) (hm : m = a + A.length) (hb : b = m + 1) :
    Calls Tryz.prog 259 #[.slice (some ⟨g, 0, none⟩) n cap, .int .i64 a, .int .i64 m, .int .i64 b, f] w (MPost w g cap n c P A [x] Q) := by
  obtain ⟨gf, lb, rfl, eg, hT⟩ := hf
  have hl := h.nlen
  simp at hl
  have H := Lib.hid (And.intro h (And.intro mA (And.intro mx (And.intro nA (And.intro sA hT)))))
  have O := Lib.hid o
  obtain ⟨dd, hdd⟩ : ∃ x : Nat, m = a + x := ⟨m - a, by omega⟩
  have w1 : IntKind.i64.wrap ((m : Int) - (a : Int)) = dd := sub_nat m a dd (by omega) hdd
  have d1 : ((dd : Int) == 1) = false := by rw [beq_eq_false_iff_ne]; omega
  have d1' : ¬ dd = 1 := by omega
  have w3 : IntKind.i64.wrap ((b : Int) - (m : Int)) = 1 := sub_nat b m 1 (by omega) (by omega)
  have HM := Lib.hid (And.intro ha (And.intro hm hb))
  have hbn : b ≤ n := by omega
  have ham : a < m := by omega
  have hmb : m < b := by omega
  clear hT h mA mx nA sA o hl hm ha hb hA hdd
  go_enter Tryz.func259, Tryz.ntmps259
  go_wp2
  go_loopw [14, 15] (fun vi vj wr => ∃ i j : Nat, vi = .int .i64 i ∧ vj = .int .i64 j ∧ a ≤ i ∧ i ≤ j ∧ j ≤ m ∧ Hid ((a < i → 0 ≤ c x (A.getD (i - a - 1) 0)) ∧ (j < m → c x (A.getD (j - a) 0) < 0)) ∧ Nw w wr) (fun vi vj _ => (intOf vj).toNat - (intOf vi).toNat)
  case atStart => exact ⟨a, m, rfl, rfl, Nat.le_refl _, by omega, Nat.le_refl _, Lib.hid ⟨fun q => by omega, fun q => by omega⟩, Nw.refl _⟩
  case round =>
    obtain ⟨i, j, rfl, rfl, hmi, hij, hjb, HB, hN⟩ := hrel
    by_cases hlt : i < j
    · have w2 := sum_nat i j (by omega) (by omega)
      have dlt : decide ((i : Int) < (j : Int)) = true := by rw [decide_eq_true_iff]; omega
      obtain ⟨t, hh⟩ : ∃ t : Nat, ((i : Int) + (j : Int)) / 2 = (t : Int) := ⟨(i + j) / 2, by omega⟩
      have hf1 : i ≤ t := by omega
      have hf2 : t < j := by omega
      have w4 := suc_nat t (t + 1) (by omega) rfl
      go_wp2
      try rw [hh]
      have hi1 : ((m : Nat) : Int) < (n : Int) := by omega
      have hi0 : ((t : Nat) : Int) < (n : Int) := by omega
      have hkn1 : m < n := by omega
      have hkn0 : t < n := by omega
      obtain ⟨y, hy⟩ : ∃ y, A.getD (t - a) 0 = y := ⟨_, rfl⟩
      have hR : RowN wr g cap n (P ++ A ++ x :: Q) := H.out.1.nw hN
      have c0 : wr.cell? ⟨g, t, none⟩ = some (.int .i64 y) := by
        have := hR.cell t (by rw [← hR.nlen]; exact hkn0)
        rwa [sm_at_row P A (x :: Q) a t HM.out.1 (by omega) (by have := HM.out; omega), hy] at this
      have c1 : wr.cell? ⟨g, m, none⟩ = some (.int .i64 x) := by
        have := hR.cell m (by rw [← hR.nlen]; exact hkn1)
        rwa [sm_at_mid (P ++ A) x Q m (by have := HM.out; rw [List.length_append]; omega)] at this
      have my : M y := by rw [← hy]; exact H.out.2.1 _ (sm_at_mem (by have := HM.out; omega))
      have s1 : ∀ u, Nw wr u → u.cell? ⟨g, m, none⟩ = some (.int .i64 x) := fun u hu => hu.kp c1
      have s0 : ∀ u, Nw wr u → u.cell? ⟨g, t, none⟩ = some (.int .i64 y) := fun u hu => hu.kp c0
      obtain ⟨z, hz⟩ : ∃ z, c x y = z := ⟨_, rfl⟩
      have HC := Lib.hid (fun (w1 : World) (hW : Nw wr w1) => H.out.2.2.2.2.2 x y w1 H.out.2.2.1 my (Tch.nw (hN.trans hW)))
      rw [hz] at HC
      have HZ := Lib.hid (And.intro hy hz)
      have HNn := Lib.hid hN
      have q1 := (Nw.refl wr).drewQ
      obtain ⟨wc, hwc⟩ : ∃ wc, wr.drew = wc := ⟨_, rfl⟩
      clear hR c1 c0 my hy hz hN
      by_cases hz0 : z < 0
      · have dz : decide (z < 0) = true := by simpa using hz0
        clear hz0
        refine region_told [some true, some true, some true, some true, some true, some true, some true, some true, some true, some false, none, some true, some true] (Nw wr) (by kernel_rfl) (by kernel_rfl) (by kernel_rfl) q1 ?_
        rw [hwc] at q1 ⊢
        clear hwc
        repeat (first
          | (refine HW.off ?_)
          | (refine HW.take' ?_; (first | (refine ⟨undef, Or.inr ⟨by rfl, rfl⟩, ?_⟩) | (apply Exists.intro; refine ⟨Or.inl ⟨by rfl, ?_⟩, ?_⟩; (intro x hx; go_simp; first | done | with_reducible rfl))); (try simp only [Act.put, List.setIfInBounds_toArray, List.set_cons_zero, List.set_cons_succ]))
          | (refine HW.go (fun K hK => ?_); go_simp; (first
            | (go_at_fn gf; (with_reducible refine (HC.out _ q1).mono ?_); rintro e wy ⟨rfl, g2⟩; refine hK.out _ _ (q1.trans g2) ?_; intro _; replace q1 := q1.trans g2; clear hK K g2)
            | (refine hK.out _ _ q1 ?_; intro _; clear hK K))))
        refine HW.end_ ?_
        refine NoPanic.normal ?_
        have HQ := Lib.hid q1
        have DZ := Lib.hid dz
        clear s1 s0 q1 dz
        go_wp2
        go_roundw
        case rel =>
          refine ⟨i, t, rfl, by go_num, hmi, hf1, by omega, Lib.hid ⟨HB.out.1, fun _ => ?_⟩, HNn.out.trans HQ.out⟩
          rw [HZ.out.1, HZ.out.2]
          exact of_decide_eq_true DZ.out
        case measure => simp [intOf]; omega
      · have dz : decide (z < 0) = false := by simpa using hz0
        clear hz0
        refine region_told [some true, some true, some true, some true, some true, some true, some true, some true, some true, some false, none, some true, some true] (Nw wr) (by kernel_rfl) (by kernel_rfl) (by kernel_rfl) q1 ?_
        rw [hwc] at q1 ⊢
        clear hwc
        repeat (first
          | (refine HW.off ?_)
          | (refine HW.take' ?_; (first | (refine ⟨undef, Or.inr ⟨by rfl, rfl⟩, ?_⟩) | (apply Exists.intro; refine ⟨Or.inl ⟨by rfl, ?_⟩, ?_⟩; (intro x hx; go_simp; first | done | with_reducible rfl))); (try simp only [Act.put, List.setIfInBounds_toArray, List.set_cons_zero, List.set_cons_succ]))
          | (refine HW.go (fun K hK => ?_); go_simp; (first
            | (go_at_fn gf; (with_reducible refine (HC.out _ q1).mono ?_); rintro e wy ⟨rfl, g2⟩; refine hK.out _ _ (q1.trans g2) ?_; intro _; replace q1 := q1.trans g2; clear hK K g2)
            | (refine hK.out _ _ q1 ?_; intro _; clear hK K))))
        refine HW.end_ ?_
        refine NoPanic.normal ?_
        have HQ := Lib.hid q1
        have DZ := Lib.hid dz
        clear s1 s0 q1 dz
        go_wp2
        go_roundw
        case rel =>
          refine ⟨t + 1, j, by go_num, rfl, by omega, by omega, hjb, Lib.hid ⟨fun _ => ?_, HB.out.2⟩, HNn.out.trans HQ.out⟩
          rw [show t + 1 - a - 1 = t - a by omega, HZ.out.1, HZ.out.2]
          exact Int.not_lt.1 (of_decide_eq_false DZ.out)
        case measure => simp [intOf]; omega
    · obtain rfl : i = j := by omega
      have HNn := Lib.hid hN
      obtain ⟨kk, hkk⟩ : ∃ kk, i = a + kk := ⟨i - a, by omega⟩
      have HK := Lib.hid hkk
      clear hN hlt hkk
      go_wp2
      go_loopw [17] (fun vk wr => ∃ k : Nat, vk = .int .i64 k ∧ i ≤ k ∧ k ≤ m ∧ Hid (RowN wr g cap n (P ++ (A.take (k - a) ++ x :: A.drop (k - a)) ++ Q) ∧ Tch (fun k => k = g) w wr)) (fun vk _ => (intOf vk).toNat)
      case atStart => exact ⟨m, rfl, by omega, Nat.le_refl _, Lib.hid ⟨by
        have e : m - a = A.length := by have := HM.out; omega
        rw [e, List.take_length, List.drop_length]
        simpa using H.out.1.nw HNn.out, Tch.nw HNn.out⟩⟩
      case round =>
        generalize wr = w7 at *
        obtain ⟨k, rfl, hik, hkm, HI⟩ := hrel
        by_cases hlt : i < k
        · obtain ⟨k0, hk0⟩ : ∃ k0, k = k0 + 1 := ⟨k - 1, by omega⟩
          obtain ⟨y, hy⟩ : ∃ y, A.getD (k0 - a) 0 = y := ⟨_, rfl⟩
          have hkA : k0 - a < A.length := by have := HM.out; omega
          have hk2 : A[k0 - a] = y := by rw [← hy]; simp [List.getD, hkA]
          have e0 : k - a = k0 - a + 1 := by omega
          have e1 : P ++ (A.take (k - a) ++ x :: A.drop (k - a)) ++ Q = (P ++ A.take (k0 - a)) ++ y :: (x :: (A.drop (k - a) ++ Q)) := by
            have : A.take (k0 - a + 1) = A.take (k0 - a) ++ [y] := by rw [← hk2]; exact List.take_succ_eq_append_getElem hkA
            rw [e0, this]; simp
          have e2 : P ++ (A.take (k0 - a) ++ x :: A.drop (k0 - a)) ++ Q = (P ++ A.take (k0 - a)) ++ x :: (y :: (A.drop (k - a) ++ Q)) := by
            have : A.drop (k0 - a) = y :: A.drop (k0 - a + 1) := by rw [← hk2]; exact (List.getElem_cons_drop hkA).symm
            rw [this, e0]; simp
          have hR := HI.out.1
          rw [e1] at hR
          have lU : (P ++ A.take (k0 - a)).length = k0 := by have := HM.out.1; rw [List.length_append, List.length_take]; omega
          have hS := hR.swapB k0 k lU.symm (by rw [lU]; exact hk0)
          rw [← e2] at hS
          have HS := Lib.hid (And.intro hS HI.out.2)
          have c1 := IS.cell hR k0 (by rw [← hR.nlen]; omega)
          have c2 := IS.cell hR k (by rw [← hR.nlen]; omega)
          rw [sm_at_mid _ y _ k0 lU.symm] at c1
          have c3 := sm_at_mid2 (P ++ A.take (k0 - a)) [] (A.drop (k - a) ++ Q) y x k (by rw [lU]; simpa using hk0)
          simp only [List.nil_append] at c3
          rw [c3] at c2
          have fz := IS.frozen hR
          have hg := IS.glt hR
          have w6 : IntKind.i64.wrap ((k : Int) - 1) = (k0 : Int) := one_nat k k0 (by omega) hk0
          have ne : ¬ k = k0 := by omega
          have ne' : ¬ k0 = k := by omega
          have b1 : (k : Int) < (n : Int) := by omega
          have b2 : (k0 : Int) < (n : Int) := by omega
          have b1' : k < n := by omega
          have b2' : k0 < n := by omega
          have dkl : (i : Int) < (k : Int) := by omega
          have hk0i : i ≤ k0 := by omega
          have hk0k : k0 < k := by omega
          clear e0 e1 e2 hR lU hS hy hkA HI c3 hk2 hk0
          go_wp2
          go_region
          all_goals
            go_wp2
            go_roundw
            case rel => exact ⟨k0, by go_num, hk0i, by omega, Lib.hid ⟨RowN.drew HS.out.1, HS.out.2.trans (sm_two_tch _ _ _ _ _ _)⟩⟩
            case measure => simp [intOf]; omega
        · obtain rfl : k = i := by omega
          have ek : k - a = kk := by have := HM.out; have := HK.out; omega
          have hE : MPost w g cap n c P A [x] Q (.returned (.tuple #[])) w7 := by
            have k1 := HK.out
            obtain ⟨m1, m2, m3⟩ := HM.out
            have hr := HI.out
            rw [ek] at hr
            refine ⟨rfl, _, hr.1, (sm_ins_perm' A x kk).trans (List.perm_append_comm (l₁ := [x]) (l₂ := A)), ?_, hr.2⟩
            refine sm_ins_sd O.out H.out.2.1 H.out.2.2.1 H.out.2.2.2.2.1 kk (by omega) (fun q => ?_) (fun q => ?_)
            · have h1 := HB.out.1 (by omega)
              rw [show k - a - 1 = kk - 1 by omega] at h1
              exact (O.out.tot (A.getD (kk - 1) 0) x (H.out.2.1 _ (sm_at_mem (by omega))) H.out.2.2.1 (fun e => H.out.2.2.2.1 (e ▸ sm_at_mem (by omega)))).resolve_right (Int.not_lt.2 h1)
            · have := HB.out.2 (by omega)
              rwa [show k - a = kk by omega] at this
          have HE := Lib.hid hE
          clear hE HI
          go_wp2
          exact bodyPost_end (results_none rfl _ _ _) rfl HE.out
end Go.Proofs.YtpffldfpabglbaaGreatDoor
end
