/- Texts merged: SmB, SmC, QvS -/
import Derived.Test.YtfemopcichmlmaaGreatRRRBucketFullB13

/- symMergeCmpFunc of ints: one on the left. -/
section
namespace Go.Proofs.YtfemopcichmlmaaGreatRRR
open Go.RowKit
set_option linter.unusedVariables false      -- a contract need not use every name

/-- What a merge leaves. -/
def MPost (w : World) (g cap n : Nat) (c : Int → Int → Int) (P A B Q : List Int) (e : Ending) (w' : World) : Prop := e = .returned (.tuple #[]) ∧ ∃ M, RowN w' g cap n (P ++ M ++ Q) ∧ M.Perm (A ++ B) ∧ Sd c M ∧ Tch (fun k => k = g) w w'
theorem sm_at_row (P A Q : List Int) (a i : Nat) (ha : a = P.length) (h : a ≤ i) (hi : i < a + A.length) : (P ++ A ++ Q).getD i 0 = A.getD (i - a) 0 := by
  subst ha
  obtain ⟨j, rfl⟩ : ∃ j, i = P.length + j := ⟨i - P.length, by omega⟩
  rw [List.append_assoc, sm_at_app_r, sm_at_app_l' _ _ _ (by omega)]
  congr 1
  omega
set_option maxRecDepth 100000 in
set_option maxHeartbeats 4000000 in
theorem symOneG (f : Value) (c : Int → Int → Int) (M : Int → Prop) (o : OrdC c M) (g cap n : Nat) (P B Q : List Int) (x : Int) (w : World) (hn : n ≤ 1000) (h : RowN w g cap n (P ++ x :: B ++ Q)) (mB : ∀ y ∈ B, M y) (mx : M x) (nB : x ∉ B) (sB : Sd c B) (hB : 0 < B.length) (hf : Cmps w f g c M)
    (a m b : Nat) (ha : a = P.length) (hm : m = a + 1) (hb : b = m + B.length) :
    Calls Tryz.prog 108 #[.slice (some ⟨g, 0, none⟩) n cap, .int .i64 a, .int .i64 m, .int .i64 b, f] w (MPost w g cap n c P [x] B Q) := by
  obtain ⟨gf, lb, rfl, eg, hT⟩ := hf
  have hl := h.nlen
  simp at hl
  have H := Lib.hid (And.intro h (And.intro mB (And.intro mx (And.intro nB (And.intro sB hT)))))
  have O := Lib.hid o
  have w1 : IntKind.i64.wrap ((m : Int) - (a : Int)) = 1 := sub_nat m a 1 (by omega) (by omega)
  have HM := Lib.hid (And.intro ha (And.intro hm hb))
  have hbn : b ≤ n := by omega
  have ham : a < m := by omega
  have hmb : m < b := by omega
  clear hT h mB mx nB sB o hl hm ha hb hB
  go_enter Tryz.func108, Tryz.ntmps108
  go_wp2
  go_loopw [10, 11] (fun vi vj wr => ∃ i j : Nat, vi = .int .i64 i ∧ vj = .int .i64 j ∧ m ≤ i ∧ i ≤ j ∧ j ≤ b ∧ Hid ((m < i → c (B.getD (i - m - 1) 0) x < 0) ∧ (j < b → 0 ≤ c (B.getD (j - m) 0) x)) ∧ Nw w wr) (fun vi vj _ => (intOf vj).toNat - (intOf vi).toNat)
  case atStart => exact ⟨m, b, rfl, rfl, Nat.le_refl _, by omega, Nat.le_refl _, Lib.hid ⟨fun q => by omega, fun q => by omega⟩, Nw.refl _⟩
  case round =>
    obtain ⟨i, j, rfl, rfl, hmi, hij, hjb, HB, hN⟩ := hrel
    by_cases hlt : i < j
    · have w2 := sum_nat i j (by omega) (by omega)
      have dlt : decide ((i : Int) < (j : Int)) = true := by rw [decide_eq_true_iff]; omega
      obtain ⟨t, hh⟩ : ∃ t : Nat, ((i : Int) + (j : Int)) / 2 = (t : Int) := ⟨(i + j) / 2, by omega⟩
      have hf1 : i ≤ t := by omega
      have hf2 : t < j := by omega
      have w4 := suc_nat t (t + 1) (by omega) rfl
      go_wp2
      try rw [hh]
      have hi1 : ((t : Nat) : Int) < (n : Int) := by omega
      have hi0 : ((a : Nat) : Int) < (n : Int) := by omega
      have hkn1 : t < n := by omega
      have hkn0 : a < n := by omega
      obtain ⟨y, hy⟩ : ∃ y, B.getD (t - m) 0 = y := ⟨_, rfl⟩
      have hR : RowN wr g cap n (P ++ x :: B ++ Q) := H.out.1.nw hN
      have c1 : wr.cell? ⟨g, t, none⟩ = some (.int .i64 y) := by
        have := hR.cell t (by rw [← hR.nlen]; exact hkn1)
        rwa [sm_at_row P (x :: B) Q a t HM.out.1 (by omega) (by have := HM.out; simp; omega), show t - a = (t - m) + 1 by have := HM.out; omega, List.getD_cons_succ, hy] at this
      have c0 : wr.cell? ⟨g, a, none⟩ = some (.int .i64 x) := by
        have := hR.cell a (by rw [← hR.nlen]; exact hkn0)
        rwa [sm_at_row P (x :: B) Q a a HM.out.1 (Nat.le_refl _) (by simp), Nat.sub_self, List.getD_cons_zero] at this
      have my : M y := by rw [← hy]; exact H.out.2.1 _ (sm_at_mem (by have := HM.out; omega))
      have s1 : ∀ u, Nw wr u → u.cell? ⟨g, t, none⟩ = some (.int .i64 y) := fun u hu => hu.kp c1
      have s0 : ∀ u, Nw wr u → u.cell? ⟨g, a, none⟩ = some (.int .i64 x) := fun u hu => hu.kp c0
      obtain ⟨z, hz⟩ : ∃ z, c y x = z := ⟨_, rfl⟩
      have HC := Lib.hid (fun (w1 : World) (hW : Nw wr w1) => H.out.2.2.2.2.2 y x w1 my H.out.2.2.1 (Tch.nw (hN.trans hW)))
      rw [hz] at HC
      have HZ := Lib.hid (And.intro hy hz)
      have HNn := Lib.hid hN
      have q1 := (Nw.refl wr).drewQ
      obtain ⟨wc, hwc⟩ : ∃ wc, wr.drew = wc := ⟨_, rfl⟩
      clear hR c1 c0 my hy hz hN
      by_cases hz0 : z < 0
      · have dz : decide (z < 0) = true := by simpa using hz0
        clear hz0
        refine region_told [some true, some true, some true, some true, some true, some true, some true, some true, some true, some false, none, some true] (Nw wr) (by kernel_rfl) (by kernel_rfl) (by kernel_rfl) q1 ?_
        rw [hwc] at q1 ⊢
        clear hwc
        repeat (first
          | (refine HW.off ?_)
          | (refine HW.take' ?_; (first | (refine ⟨undef, Or.inr ⟨by rfl, rfl⟩, ?_⟩) | (apply Exists.intro; refine ⟨Or.inl ⟨by rfl, ?_⟩, ?_⟩; (intro x hx; go_simp; first | done | with_reducible rfl))); (try simp only [Act.put, List.setIfInBounds_toArray, List.set_cons_zero, List.set_cons_succ]))
          | (refine HW.go (fun K hK => ?_); go_simp; (first
            | (go_at_fn gf; (with_reducible refine (HC.out _ q1).mono ?_); rintro e wy ⟨rfl, g2⟩; refine hK.out _ _ (q1.trans g2) ?_; intro _; replace q1 := q1.trans g2; clear hK K g2)
            | (refine hK.out _ _ q1 ?_; intro _; clear hK K))))
        refine HW.end_ ?_
        refine NoPanic.normal ?_
        have HQ := Lib.hid q1
        have DZ := Lib.hid dz
        clear s1 s0 q1 dz
        go_wp2
        go_roundw
        case rel =>
          refine ⟨t + 1, j, by go_num, rfl, by omega, by omega, hjb, Lib.hid ⟨fun _ => ?_, HB.out.2⟩, HNn.out.trans HQ.out⟩
          rw [show t + 1 - m - 1 = t - m by omega, HZ.out.1, HZ.out.2]
          exact of_decide_eq_true DZ.out
        case measure => simp [intOf]; omega
      · have dz : decide (z < 0) = false := by simpa using hz0
        clear hz0
        refine region_told [some true, some true, some true, some true, some true, some true, some true, some true, some true, some false, none, some true] (Nw wr) (by kernel_rfl) (by kernel_rfl) (by kernel_rfl) q1 ?_
        rw [hwc] at q1 ⊢
        clear hwc
        repeat (first
          | (refine HW.off ?_)
          | (refine HW.take' ?_; (first | (refine ⟨undef, Or.inr ⟨by rfl, rfl⟩, ?_⟩) | (apply Exists.intro; refine ⟨Or.inl ⟨by rfl, ?_⟩, ?_⟩; (intro x hx; go_simp; first | done | with_reducible rfl))); (try simp only [Act.put, List.setIfInBounds_toArray, List.set_cons_zero, List.set_cons_succ]))
          | (refine HW.go (fun K hK => ?_); go_simp; (first
            | (go_at_fn gf; (with_reducible refine (HC.out _ q1).mono ?_); rintro e wy ⟨rfl, g2⟩; refine hK.out _ _ (q1.trans g2) ?_; intro _; replace q1 := q1.trans g2; clear hK K g2)
            | (refine hK.out _ _ q1 ?_; intro _; clear hK K))))
        refine HW.end_ ?_
        refine NoPanic.normal ?_
        have HQ := Lib.hid q1
        have DZ := Lib.hid dz
        clear s1 s0 q1 dz
        go_wp2
        go_roundw
        case rel =>
          refine ⟨i, t, rfl, by go_num, hmi, hf1, by omega, Lib.hid ⟨HB.out.1, fun _ => ?_⟩, HNn.out.trans HQ.out⟩
          rw [HZ.out.1, HZ.out.2]
          exact Int.not_lt.1 (of_decide_eq_false DZ.out)
        case measure => simp [intOf]; omega
    · obtain rfl : i = j := by omega
      have HNn := Lib.hid hN
      obtain ⟨kk, hkk⟩ : ∃ kk, i = m + kk := ⟨i - m, by omega⟩
      obtain ⟨ii, hii⟩ : ∃ ii, i = ii + 1 := ⟨i - 1, by omega⟩
      have w5 : IntKind.i64.wrap ((i : Int) - 1) = (ii : Int) := one_nat i ii (by omega) hii
      have HK := Lib.hid (And.intro hkk hii)
      have hai : a ≤ ii := by omega
      have hib : ii < b := by omega
      have hmi2 : i ≤ b := by omega
      clear hN hlt hkk hii
      go_wp2
      go_loopw [13] (fun vk wr => ∃ k : Nat, vk = .int .i64 k ∧ a ≤ k ∧ k ≤ ii ∧ Hid (RowN wr g cap n (P ++ (B.take (k - a) ++ x :: B.drop (k - a)) ++ Q) ∧ Tch (fun k => k = g) w wr)) (fun vk _ => ii - (intOf vk).toNat)
      case atStart => exact ⟨a, rfl, Nat.le_refl _, hai, Lib.hid ⟨by rw [Nat.sub_self]; simpa using H.out.1.nw HNn.out, Tch.nw HNn.out⟩⟩
      case round =>
        generalize wr = w7 at *
        obtain ⟨k, rfl, hak, hki, HI⟩ := hrel
        by_cases hlt : k < ii
        · obtain ⟨y, hy⟩ : ∃ y, B.getD (k - a) 0 = y := ⟨_, rfl⟩
          have hkB : k - a < B.length := by have := HM.out; omega
          have eB := sm_part_at B (k - a) hkB
          rw [hy] at eB
          have e1 : P ++ (B.take (k - a) ++ x :: B.drop (k - a)) ++ Q = (P ++ B.take (k - a)) ++ x :: ([] ++ y :: (B.drop (k - a + 1) ++ Q)) := by
            have : B.drop (k - a) = y :: B.drop (k - a + 1) := by
              have hk2 : B[k - a] = y := by rw [← hy]; simp [List.getD, hkB]
              rw [← hk2]; exact (List.getElem_cons_drop hkB).symm
            rw [this]; simp
          have e2 : P ++ (B.take (k + 1 - a) ++ x :: B.drop (k + 1 - a)) ++ Q = (P ++ B.take (k - a)) ++ y :: ([] ++ x :: (B.drop (k - a + 1) ++ Q)) := by
            have : B.take (k - a + 1) = B.take (k - a) ++ [y] := by
              have hk2 : B[k - a] = y := by rw [← hy]; simp [List.getD, hkB]
              rw [← hk2]; exact List.take_succ_eq_append_getElem hkB
            rw [show k + 1 - a = k - a + 1 by omega, this]; simp
          have hR := HI.out.1
          rw [e1] at hR
          have lU : (P ++ B.take (k - a)).length = k := by have := HM.out.1; rw [List.length_append, List.length_take]; omega
          have hS := hR.swap k (k + 1) lU.symm (by rw [lU]; simp)
          rw [← e2] at hS
          have HS := Lib.hid (And.intro hS HI.out.2)
          have c1 := IS.cell hR k (by rw [← hR.nlen]; omega)
          have c2 := IS.cell hR (k + 1) (by rw [← hR.nlen]; omega)
          rw [sm_at_mid _ x _ k lU.symm] at c1
          rw [sm_at_mid2 _ [] _ x y (k + 1) (by rw [lU]; simp)] at c2
          have fz := IS.frozen hR
          have hg := IS.glt hR
          have w6 := suc_nat k (k + 1) (by omega) rfl
          have ne : ¬ k = k + 1 := by omega
          have ne' : ¬ k + 1 = k := by omega
          obtain ⟨k1, hk1⟩ : ∃ k1, k + 1 = k1 := ⟨_, rfl⟩
          rw [hk1] at c2 HS w6 ne ne'
          have b1 : (k : Int) < (n : Int) := by omega
          have b2 : (k1 : Int) < (n : Int) := by omega
          have b1' : k < n := by omega
          have b2' : k1 < n := by omega
          have HK1 := Lib.hid hk1
          have dkl : (k : Int) < (ii : Int) := by omega
          clear eB e1 e2 hR lU hS hy hkB HI hk1
          go_wp2
          go_region
          all_goals
            go_wp2
            go_roundw
            case rel => exact ⟨k + 1, by have := HK1.out; subst this; go_num, by omega, by omega, Lib.hid ⟨by have := HS.out.1; rw [HK1.out]; rw [← HK1.out] at this ⊢; exact RowN.drew this, HS.out.2.trans (sm_two_tch _ _ _ _ _ _)⟩⟩
            case measure => have h1 := HK1.out; simp [intOf]; omega
        · obtain rfl : k = ii := by omega
          have ek : k - a = kk := by have := HM.out; have := HK.out; omega
          have hE : MPost w g cap n c P [x] B Q (.returned (.tuple #[])) w7 := by
            obtain ⟨k1, k2⟩ := HK.out
            obtain ⟨m1, m2, m3⟩ := HM.out
            have hr := HI.out
            rw [ek] at hr
            refine ⟨rfl, _, hr.1, (sm_ins_perm' B x kk).trans (by simp), ?_, hr.2⟩
            refine sm_ins_sd O.out H.out.2.1 H.out.2.2.1 H.out.2.2.2.2.1 kk (by omega) (fun q => ?_) (fun q => ?_)
            · have := HB.out.1 (by omega)
              rwa [show i - m - 1 = kk - 1 by omega] at this
            · have h1 := HB.out.2 (by omega)
              rw [show i - m = kk by omega] at h1
              exact (O.out.tot x (B.getD kk 0) H.out.2.2.1 (H.out.2.1 _ (sm_at_mem q)) (fun e => H.out.2.2.2.1 (e ▸ sm_at_mem q))).resolve_right (Int.not_lt.2 h1)
          have HE := Lib.hid hE
          clear hE HI
          go_wp2
          exact bodyPost_end (results_none rfl _ _ _) rfl HE.out
end Go.Proofs.YtfemopcichmlmaaGreatRRR
end

/- symMergeCmpFunc of ints: one on the right. -/
section
namespace Go.Proofs.YtfemopcichmlmaaGreatRRR
open Go.RowKit
set_option linter.unusedVariables false      -- a contract need not use every name

theorem RowN.swapB {w : World} {g cap n : Nat} {U Z : List Int} {x y : Int} (h : RowN w g cap n (U ++ y :: (x :: Z))) (p q : Nat) (hp : p = U.length) (hq : q = U.length + 1) :
    RowN ((w.setCell ⟨g, q, none⟩ (.int .i64 y)).setCell ⟨g, p, none⟩ (.int .i64 x)) g cap n (U ++ x :: (y :: Z)) := by
  have := IS.set (IS.set h q y) p x
  rw [List.set_comm _ _ (by omega)] at this
  have e := sm_sw_mid U [] Z y x p q hp (by simpa using hq)
  simp only [List.nil_append] at e
  rwa [e] at this
set_option maxRecDepth 100000 in
set_option maxHeartbeats 4000000 in
theorem symLastG (f : Value) (c : Int → Int → Int) (M : Int → Prop) (o : OrdC c M) (g cap n : Nat) (P A Q : List Int) (x : Int) (w : World) (hn : n ≤ 1000) (h : RowN w g cap n (P ++ A ++ x :: Q)) (mA : ∀ y ∈ A, M y) (mx : M x) (nA : x ∉ A) (sA : Sd c A) (hA : 1 < A.length) (hf : Cmps w f g c M)
    (a m b : Nat) (ha : a = P.length) (hm : m = a + A.length) (hb : b = m + 1) :
    Calls Tryz.prog 108 #[.slice (some ⟨g, 0, none⟩) n cap, .int .i64 a, .int .i64 m, .int .i64 b, f] w (MPost w g cap n c P A [x] Q) := by
  obtain ⟨gf, lb, rfl, eg, hT⟩ := hf
  have hl := h.nlen
  simp at hl
  have H := Lib.hid (And.intro h (And.intro mA (And.intro mx (And.intro nA (And.intro sA hT)))))
  have O := Lib.hid o
  obtain ⟨dd, hdd⟩ : ∃ x : Nat, m = a + x := ⟨m - a, by omega⟩
  have w1 : IntKind.i64.wrap ((m : Int) - (a : Int)) = dd := sub_nat m a dd (by omega) hdd
  have d1 : ((dd : Int) == 1) = false := by rw [beq_eq_false_iff_ne]; omega
  have d1' : ¬ dd = 1 := by omega
  have w3 : IntKind.i64.wrap ((b : Int) - (m : Int)) = 1 := sub_nat b m 1 (by omega) (by omega)
  have HM := Lib.hid (And.intro ha (And.intro hm hb))
  have hbn : b ≤ n := by omega
  have ham : a < m := by omega
  have hmb : m < b := by omega
  clear hT h mA mx nA sA o hl hm ha hb hA hdd
  go_enter Tryz.func108, Tryz.ntmps108
  go_wp2
  go_loopw [14, 15] (fun vi vj wr => ∃ i j : Nat, vi = .int .i64 i ∧ vj = .int .i64 j ∧ a ≤ i ∧ i ≤ j ∧ j ≤ m ∧ Hid ((a < i → 0 ≤ c x (A.getD (i - a - 1) 0)) ∧ (j < m → c x (A.getD (j - a) 0) < 0)) ∧ Nw w wr) (fun vi vj _ => (intOf vj).toNat - (intOf vi).toNat)
  case atStart => exact ⟨a, m, rfl, rfl, Nat.le_refl _, by omega, Nat.le_refl _, Lib.hid ⟨fun q => by omega, fun q => by omega⟩, Nw.refl _⟩
  case round =>
    obtain ⟨i, j, rfl, rfl, hmi, hij, hjb, HB, hN⟩ := hrel
    by_cases hlt : i < j
    · have w2 := sum_nat i j (by omega) (by omega)
      have dlt : decide ((i : Int) < (j : Int)) = true := by rw [decide_eq_true_iff]; omega
      obtain ⟨t, hh⟩ : ∃ t : Nat, ((i : Int) + (j : Int)) / 2 = (t : Int) := ⟨(i + j) / 2, by omega⟩
      have hf1 : i ≤ t := by omega
      have hf2 : t < j := by omega
      have w4 := suc_nat t (t + 1) (by omega) rfl
      go_wp2
      try rw [hh]
      have hi1 : ((m : Nat) : Int) < (n : Int) := by omega
      have hi0 : ((t : Nat) : Int) < (n : Int) := by omega
      have hkn1 : m < n := by omega
      have hkn0 : t < n := by omega
      obtain ⟨y, hy⟩ : ∃ y, A.getD (t - a) 0 = y := ⟨_, rfl⟩
      have hR : RowN wr g cap n (P ++ A ++ x :: Q) := H.out.1.nw hN
      have c0 : wr.cell? ⟨g, t, none⟩ = some (.int .i64 y) := by
        have := hR.cell t (by rw [← hR.nlen]; exact hkn0)
        rwa [sm_at_row P A (x :: Q) a t HM.out.1 (by omega) (by have := HM.out; omega), hy] at this
      have c1 : wr.cell? ⟨g, m, none⟩ = some (.int .i64 x) := by
        have := hR.cell m (by rw [← hR.nlen]; exact hkn1)
        rwa [sm_at_mid (P ++ A) x Q m (by have := HM.out; rw [List.length_append]; omega)] at this
      have my : M y := by rw [← hy]; exact H.out.2.1 _ (sm_at_mem (by have := HM.out; omega))
      have s1 : ∀ u, Nw wr u → u.cell? ⟨g, m, none⟩ = some (.int .i64 x) := fun u hu => hu.kp c1
      have s0 : ∀ u, Nw wr u → u.cell? ⟨g, t, none⟩ = some (.int .i64 y) := fun u hu => hu.kp c0
      obtain ⟨z, hz⟩ : ∃ z, c x y = z := ⟨_, rfl⟩
      have HC := Lib.hid (fun (w1 : World) (hW : Nw wr w1) => H.out.2.2.2.2.2 x y w1 H.out.2.2.1 my (Tch.nw (hN.trans hW)))
      rw [hz] at HC
      have HZ := Lib.hid (And.intro hy hz)
      have HNn := Lib.hid hN
      have q1 := (Nw.refl wr).drewQ
      obtain ⟨wc, hwc⟩ : ∃ wc, wr.drew = wc := ⟨_, rfl⟩
      clear hR c1 c0 my hy hz hN
      by_cases hz0 : z < 0
      · have dz : decide (z < 0) = true := by simpa using hz0
        clear hz0
        refine region_told [some true, some true, some true, some true, some true, some true, some true, some true, some true, some false, none, some true, some true] (Nw wr) (by kernel_rfl) (by kernel_rfl) (by kernel_rfl) q1 ?_
        rw [hwc] at q1 ⊢
        clear hwc
        repeat (first
          | (refine HW.off ?_)
          | (refine HW.take' ?_; (first | (refine ⟨undef, Or.inr ⟨by rfl, rfl⟩, ?_⟩) | (apply Exists.intro; refine ⟨Or.inl ⟨by rfl, ?_⟩, ?_⟩; (intro x hx; go_simp; first | done | with_reducible rfl))); (try simp only [Act.put, List.setIfInBounds_toArray, List.set_cons_zero, List.set_cons_succ]))
          | (refine HW.go (fun K hK => ?_); go_simp; (first
            | (go_at_fn gf; (with_reducible refine (HC.out _ q1).mono ?_); rintro e wy ⟨rfl, g2⟩; refine hK.out _ _ (q1.trans g2) ?_; intro _; replace q1 := q1.trans g2; clear hK K g2)
            | (refine hK.out _ _ q1 ?_; intro _; clear hK K))))
        refine HW.end_ ?_
        refine NoPanic.normal ?_
        have HQ := Lib.hid q1
        have DZ := Lib.hid dz
        clear s1 s0 q1 dz
        go_wp2
        go_roundw
        case rel =>
          refine ⟨i, t, rfl, by go_num, hmi, hf1, by omega, Lib.hid ⟨HB.out.1, fun _ => ?_⟩, HNn.out.trans HQ.out⟩
          rw [HZ.out.1, HZ.out.2]
          exact of_decide_eq_true DZ.out
        case measure => simp [intOf]; omega
      · have dz : decide (z < 0) = false := by simpa using hz0
        clear hz0
        refine region_told [some true, some true, some true, some true, some true, some true, some true, some true, some true, some false, none, some true, some true] (Nw wr) (by kernel_rfl) (by kernel_rfl) (by kernel_rfl) q1 ?_
        rw [hwc] at q1 ⊢
        clear hwc
        repeat (first
          | (refine HW.off ?_)
          | (refine HW.take' ?_; (first | (refine ⟨undef, Or.inr ⟨by rfl, rfl⟩, ?_⟩) | (apply Exists.intro; refine ⟨Or.inl ⟨by rfl, ?_⟩, ?_⟩; (intro x hx; go_simp; first | done | with_reducible rfl))); (try simp only [Act.put, List.setIfInBounds_toArray, List.set_cons_zero, List.set_cons_succ]))
          | (refine HW.go (fun K hK => ?_); go_simp; (first
            | (go_at_fn gf; (with_reducible refine (HC.out _ q1).mono ?_); rintro e wy ⟨rfl, g2⟩; refine hK.out _ _ (q1.trans g2) ?_; intro _; replace q1 := q1.trans g2; clear hK K g2)
            | (refine hK.out _ _ q1 ?_; intro _; clear hK K))))
        refine HW.end_ ?_
        refine NoPanic.normal ?_
        have HQ := Lib.hid q1
        have DZ := Lib.hid dz
        clear s1 s0 q1 dz
        go_wp2
        go_roundw
        case rel =>
          refine ⟨t + 1, j, by go_num, rfl, by omega, by omega, hjb, Lib.hid ⟨fun _ => ?_, HB.out.2⟩, HNn.out.trans HQ.out⟩
          rw [show t + 1 - a - 1 = t - a by omega, HZ.out.1, HZ.out.2]
          exact Int.not_lt.1 (of_decide_eq_false DZ.out)
        case measure => simp [intOf]; omega
    · obtain rfl : i = j := by omega
      have HNn := Lib.hid hN
      obtain ⟨kk, hkk⟩ : ∃ kk, i = a + kk := ⟨i - a, by omega⟩
      have HK := Lib.hid hkk
      clear hN hlt hkk
      go_wp2
      go_loopw [17] (fun vk wr => ∃ k : Nat, vk = .int .i64 k ∧ i ≤ k ∧ k ≤ m ∧ Hid (RowN wr g cap n (P ++ (A.take (k - a) ++ x :: A.drop (k - a)) ++ Q) ∧ Tch (fun k => k = g) w wr)) (fun vk _ => (intOf vk).toNat)
      case atStart => exact ⟨m, rfl, by omega, Nat.le_refl _, Lib.hid ⟨by
        have e : m - a = A.length := by have := HM.out; omega
        rw [e, List.take_length, List.drop_length]
        simpa using H.out.1.nw HNn.out, Tch.nw HNn.out⟩⟩
      case round =>
        generalize wr = w7 at *
        obtain ⟨k, rfl, hik, hkm, HI⟩ := hrel
        by_cases hlt : i < k
        · obtain ⟨k0, hk0⟩ : ∃ k0, k = k0 + 1 := ⟨k - 1, by omega⟩
          obtain ⟨y, hy⟩ : ∃ y, A.getD (k0 - a) 0 = y := ⟨_, rfl⟩
          have hkA : k0 - a < A.length := by have := HM.out; omega
          have hk2 : A[k0 - a] = y := by rw [← hy]; simp [List.getD, hkA]
          have e0 : k - a = k0 - a + 1 := by omega
          have e1 : P ++ (A.take (k - a) ++ x :: A.drop (k - a)) ++ Q = (P ++ A.take (k0 - a)) ++ y :: (x :: (A.drop (k - a) ++ Q)) := by
            have : A.take (k0 - a + 1) = A.take (k0 - a) ++ [y] := by rw [← hk2]; exact List.take_succ_eq_append_getElem hkA
            rw [e0, this]; simp
          have e2 : P ++ (A.take (k0 - a) ++ x :: A.drop (k0 - a)) ++ Q = (P ++ A.take (k0 - a)) ++ x :: (y :: (A.drop (k - a) ++ Q)) := by
            have : A.drop (k0 - a) = y :: A.drop (k0 - a + 1) := by rw [← hk2]; exact (List.getElem_cons_drop hkA).symm
            rw [this, e0]; simp
          have hR := HI.out.1
          rw [e1] at hR
          have lU : (P ++ A.take (k0 - a)).length = k0 := by have := HM.out.1; rw [List.length_append, List.length_take]; omega
          have hS := hR.swapB k0 k lU.symm (by rw [lU]; exact hk0)
          rw [← e2] at hS
          have HS := Lib.hid (And.intro hS HI.out.2)
          have c1 := IS.cell hR k0 (by rw [← hR.nlen]; omega)
          have c2 := IS.cell hR k (by rw [← hR.nlen]; omega)
          rw [sm_at_mid _ y _ k0 lU.symm] at c1
          have c3 := sm_at_mid2 (P ++ A.take (k0 - a)) [] (A.drop (k - a) ++ Q) y x k (by rw [lU]; simpa using hk0)
          simp only [List.nil_append] at c3
          rw [c3] at c2
          have fz := IS.frozen hR
          have hg := IS.glt hR
          have w6 : IntKind.i64.wrap ((k : Int) - 1) = (k0 : Int) := one_nat k k0 (by omega) hk0
          have ne : ¬ k = k0 := by omega
          have ne' : ¬ k0 = k := by omega
          have b1 : (k : Int) < (n : Int) := by omega
          have b2 : (k0 : Int) < (n : Int) := by omega
          have b1' : k < n := by omega
          have b2' : k0 < n := by omega
          have dkl : (i : Int) < (k : Int) := by omega
          have hk0i : i ≤ k0 := by omega
          have hk0k : k0 < k := by omega
          clear e0 e1 e2 hR lU hS hy hkA HI c3 hk2 hk0
          go_wp2
          go_region
          all_goals
            go_wp2
            go_roundw
            case rel => exact ⟨k0, by go_num, hk0i, by omega, Lib.hid ⟨RowN.drew HS.out.1, HS.out.2.trans (sm_two_tch _ _ _ _ _ _)⟩⟩
            case measure => simp [intOf]; omega
        · obtain rfl : k = i := by omega
          have ek : k - a = kk := by have := HM.out; have := HK.out; omega
          have hE : MPost w g cap n c P A [x] Q (.returned (.tuple #[])) w7 := by
            have k1 := HK.out
            obtain ⟨m1, m2, m3⟩ := HM.out
            have hr := HI.out
            rw [ek] at hr
            refine ⟨rfl, _, hr.1, (sm_ins_perm' A x kk).trans (List.perm_append_comm (l₁ := [x]) (l₂ := A)), ?_, hr.2⟩
            refine sm_ins_sd O.out H.out.2.1 H.out.2.2.1 H.out.2.2.2.2.1 kk (by omega) (fun q => ?_) (fun q => ?_)
            · have h1 := HB.out.1 (by omega)
              rw [show k - a - 1 = kk - 1 by omega] at h1
              exact (O.out.tot (A.getD (kk - 1) 0) x (H.out.2.1 _ (sm_at_mem (by omega))) H.out.2.2.1 (fun e => H.out.2.2.2.1 (e ▸ sm_at_mem (by omega)))).resolve_right (Int.not_lt.2 h1)
            · have := HB.out.2 (by omega)
              rwa [show k - a = kk by omega] at this
          have HE := Lib.hid hE
          clear hE HI
          go_wp2
          exact bodyPost_end (results_none rfl _ _ _) rfl HE.out
end Go.Proofs.YtfemopcichmlmaaGreatRRR
end

/- SortStableFunc as far as it is wanted: what it makes of a list, and when: at most 20; or at most 40, where the two parts sorted stand in order. -/
section
namespace Go.Proofs.YtfemopcichmlmaaGreatRRR
open Go.RowKit
set_option linter.unusedVariables false      -- a contract need not use every name

def StOk (c : Int → Int → Int) (l : List Int) : Prop := l.length ≤ 20 ∨ (l.length ≤ 40 ∧ (sortS c (l.take 20) ++ sortS c (l.drop 20)).Pairwise fun x y => c x y < 0 ∧ ¬ c y x < 0)
def stR (c : Int → Int → Int) (l : List Int) : List Int := if l.length ≤ 20 then sortS c l else sortS c (l.take 20) ++ sortS c (l.drop 20)
theorem stOk_20 (c : Int → Int → Int) (l : List Int) (h : l.length ≤ 20) : StOk c l := .inl h
theorem stR_perm (c : Int → Int → Int) (l : List Int) : (stR c l).Perm l := by
  unfold stR
  split
  · exact sortS_perm c l
  · have := (sortS_perm c (l.take 20)).append (sortS_perm c (l.drop 20))
    rwa [List.take_append_drop] at this
theorem stR_sorted (c : Int → Int → Int) (M : Int → Prop) (tr : ∀ x y z, M x → M y → M z → c x y < 0 → c y z < 0 → c x z < 0) (tot : ∀ x y, M x → M y → x ≠ y → c x y < 0 ∨ c y x < 0) (S : List Int) (hS : ∀ x ∈ S, M x) (hn : S.Nodup) (h : StOk c S) : (stR c S).Pairwise (fun x y => c x y < 0) := by
  unfold stR
  split
  · exact sortS_sorted c M tr tot S hS hn
  · rcases h with h | ⟨_, h⟩
    · exact absurd h (by assumption)
    · exact h.imp fun h => h.1
theorem Cmps.later {w w1 : World} {f : Value} {gi : Nat} {c : Int → Int → Int} {P : Int → Prop} (h : Cmps w f gi c P) (hT : Tch (fun k => k = gi) w w1) : Cmps w1 f gi c P := by
  obtain ⟨g, lb, e, eg, hc⟩ := h
  exact ⟨g, lb, e, eg, fun x y w2 hx hy h2 => hc x y w2 hx hy (hT.trans h2)⟩
theorem sortS_len (c : Int → Int → Int) (S : List Int) : (sortS c S).length = S.length := (sortS_perm c S).length_eq
theorem pw_at {R : Int → Int → Prop} {l : List Int} (h : l.Pairwise R) {i j : Nat} (hij : i < j) (hj : j < l.length) : R (l.getD i 0) (l.getD j 0) := by
  have := List.pairwise_iff_getElem.1 h i j (by omega) hj hij
  simpa [List.getD, hj, Nat.lt_trans hij hj] using this
theorem getD_mem {l : List Int} {j : Nat} (h : j < l.length) : l.getD j 0 ∈ l := by
  have : l.getD j 0 = l[j] := by simp [List.getD, h]
  rw [this]
  exact List.getElem_mem h
set_option maxRecDepth 100000 in
set_option maxHeartbeats 4000000 in
theorem stable40 (f : Value) (c : Int → Int → Int) (P : Int → Prop) (v : Value) (l : List Int) (w : World) (gi : Nat) (h20 : 20 < l.length) (h40 : l.length ≤ 40) (hs : (sortS c (l.take 20) ++ sortS c (l.drop 20)).Pairwise fun x y => c x y < 0 ∧ ¬ c y x < 0) (h : IS w v l) (hP : ∀ x ∈ l, P x) (hf : Cmps w f gi c P) (hgi : ∀ g, v.ownBlock = some g → g = gi) :
    Calls Tryz.prog 105 #[v, .int .i64 l.length, f] w fun e w' => e = .returned (.tuple #[]) ∧ IS w' v (sortS c (l.take 20) ++ sortS c (l.drop 20)) ∧ Tch (fun k => v.ownBlock = some k) w w' := by
  rcases h.form with ⟨rfl, rfl⟩ | ⟨g, cap, rfl⟩
  · simp at h20
  · obtain rfl := hgi g rfl
    have h1 := insSort f c P g cap l 0 20 w (by omega) (by omega) (by omega) h hP hf
    rw [srt_part c l 0 20 (by omega) (by omega)] at h1
    rw [show l.take 0 ++ sortS c ((l.drop 0).take (20 - 0)) ++ l.drop 20 = sortS c (l.take 20) ++ l.drop 20 by rw [List.take_zero, List.drop_zero, List.nil_append]] at h1
    have hA : (sortS c (l.take 20)).length = 20 := by rw [sortS_len, List.length_take]; omega
    have hPA : ∀ x ∈ sortS c (l.take 20) ++ l.drop 20, P x := fun x hx => by
      rcases List.mem_append.1 hx with hx | hx
      · exact hP x (List.mem_of_mem_take ((sortS_perm c _).mem_iff.1 hx))
      · exact hP x (List.mem_of_mem_drop hx)
    have hB : (l.drop 20).length = l.length - 20 := List.length_drop
    have hPB : ∀ x ∈ sortS c (l.take 20) ++ sortS c (l.drop 20), P x := fun x hx => by
      rcases List.mem_append.1 hx with hx | hx
      · exact hPA x (List.mem_append_left _ hx)
      · exact hPA x (List.mem_append_right _ ((sortS_perm c _).mem_iff.1 hx))
    have hBl := sortS_len c (l.drop 20)
    obtain ⟨n, hn⟩ : ∃ n, l.length = n := ⟨_, rfl⟩
    rw [hn] at h20 h40 h1 hB ⊢
    clear h hP hgi hn
    generalize sortS c (l.take 20) = A at *
    generalize l.drop 20 = B at *
    have h2 : ∀ w1, Tch (fun k => k = g) w w1 → IS w1 (.slice (some ⟨g, 0, none⟩) n cap) (A ++ B) → Calls Tryz.prog 107 #[.slice (some ⟨g, 0, none⟩) n cap, .int .i64 20, .int .i64 n, f] w1 fun e w' => e = .returned (.tuple #[]) ∧ IS w' (.slice (some ⟨g, 0, none⟩) n cap) (A ++ sortS c B) ∧ Tch (fun k => k = g) w1 w' := by
      intro w1 hT hI
      have hAB : (A ++ B).length = n := by rw [List.length_append, hA, hB]; omega
      have q := insSort f c P g cap (A ++ B) 20 n w1 (by omega) (by omega) (by omega) (by rw [hAB]; exact hI) hPA (hf.later hT)
      rw [srt_part c (A ++ B) 20 n (by omega) (by omega), hAB] at q
      rw [show (A ++ B).take 20 = A by rw [List.take_append_of_le_length (by omega), List.take_of_length_le (by omega)], show (A ++ B).drop 20 = B by rw [List.drop_append_of_le_length (by omega), List.drop_of_length_le (by omega), List.nil_append], List.take_of_length_le (by omega), show (A ++ B).drop n = [] from List.drop_of_length_le (by omega), List.append_nil] at q
      exact q
    obtain ⟨gf, lb, rfl, eg, hc⟩ := hf
    have h3 : ∀ w2, Tch (fun k => k = g) w w2 → IS w2 (.slice (some ⟨g, 0, none⟩) n cap) (A ++ sortS c B) → Calls Tryz.prog 108 #[.slice (some ⟨g, 0, none⟩) n cap, .int .i64 ((0 : Nat) : Int), .int .i64 ((20 : Nat) : Int), .int .i64 n, .func (.func gf) #[] lb] w2 fun e w' => e = .returned (.tuple #[]) ∧ Nw w2 w' := by
      intro w2 hT hI
      have hl2 : (A ++ sortS c B).length = n := by rw [List.length_append, hA, hBl, hB]; omega
      refine symMerge gf lb g cap n (A ++ sortS c B) (by omega) n 0 20 n w2 (by omega) (by omega) (by omega) (Nat.le_refl _) ⟨eg, fun i z hi hz => hz.kp (hI.cell i (by omega)), fun i j _ hij hj => ⟨_, ?_, fun z hz => hc _ _ z (hPB _ ?_) (hPB _ ?_) (hT.trans (Tch.nw hz))⟩⟩
      · rw [decide_eq_false_iff_not]
        exact (pw_at hs hij (by omega)).2
      · exact getD_mem (by omega)
      · exact getD_mem (by omega)
    generalize sortS c B = B' at *
    have H1 := Lib.hid h1
    have H2 := Lib.hid h2
    have H3 := Lib.hid h3
    have HN := Lib.hid (fun w1 => insSort_no (.slice (some ⟨g, 0, none⟩) 40 cap) (.func (.func gf) #[] lb) 40 (some ⟨g, 0, none⟩) cap 40 40 w1 rfl (Nat.le_refl _) (by omega) gf lb rfl)
    clear h1 h2 h3 hc hs hPA hPB hA hB hBl
    by_cases hn : n = 40
    · subst hn
      clear h20 h40
      go_enter Tryz.func105, Tryz.ntmps105
      go_wp2
      refine wp_loop_rounds 3 ?_
      rw [rounds_succ]
      go_wp2_with (go_at_call 107; refine H1.out.mono ?_; rintro e w1 ⟨rfl, hI, hT⟩)
      have HA := Lib.hid (H2.out _ hT hI)
      have HT := Lib.hid hT
      clear hI hT
      rw [rounds_succ]
      go_wp2_with (go_at_call 107; refine HA.out.mono ?_; rintro e w2 ⟨rfl, hI, hT⟩)
      have HB := Lib.hid (And.intro hI (HT.out.trans hT))
      have HM := Lib.hid (H3.out _ HB.out.2 HB.out.1)
      clear hI hT
      rw [rounds_succ]
      go_wp2_with (go_at_call 107; refine (HN.out _).mono ?_; rintro e w3 ⟨rfl, rfl⟩)
      refine wp_loop_rounds 2 ?_
      rw [rounds_succ]
      go_wp2
      refine wp_loop_rounds 2 ?_
      rw [rounds_succ]
      go_wp2_with (go_at_call 108; refine HM.out.mono ?_; rintro e w4 ⟨rfl, g4⟩)
      have HG := Lib.hid g4
      clear g4
      rw [rounds_succ]
      go_wp2
      rw [rounds_succ]
      go_wp2
      exact bodyPost_end (results_none rfl _ _ _) rfl ⟨rfl, HB.out.1.nw HG.out, (HB.out.2.trans (Tch.nw HG.out)).mono fun i _ e => by rw [e]; rfl⟩
    · have d1 : decide ((20 : Int) ≤ (n : Int)) = true := by rw [decide_eq_true_iff]; omega
      have d2 : decide ((40 : Int) ≤ (n : Int)) = false := by rw [decide_eq_false_iff_not]; omega
      have d3 : decide ((20 : Int) < (n : Int)) = true := by rw [decide_eq_true_iff]; omega
      have d4 : decide ((40 : Int) < (n : Int)) = false := by rw [decide_eq_false_iff_not]; omega
      have d1' : decide (20 ≤ n) = true := by rw [decide_eq_true_iff]; omega
      have d2' : decide (40 ≤ n) = false := by rw [decide_eq_false_iff_not]; omega
      have d3' : decide (20 < n) = true := by rw [decide_eq_true_iff]; omega
      have d4' : decide (40 < n) = false := by rw [decide_eq_false_iff_not]; omega
      clear h20 h40 hn
      go_enter Tryz.func105, Tryz.ntmps105
      go_wp2
      refine wp_loop_rounds 2 ?_
      rw [rounds_succ]
      go_wp2_with (go_at_call 107; refine H1.out.mono ?_; rintro e w1 ⟨rfl, hI, hT⟩)
      have HA := Lib.hid (H2.out _ hT hI)
      have HT := Lib.hid hT
      clear hI hT
      rw [rounds_succ]
      go_wp2_with (go_at_call 107; refine HA.out.mono ?_; rintro e w2 ⟨rfl, hI, hT⟩)
      have HB := Lib.hid (And.intro hI (HT.out.trans hT))
      have HM := Lib.hid (H3.out _ HB.out.2 HB.out.1)
      clear hI hT
      refine wp_loop_rounds 2 ?_
      rw [rounds_succ]
      go_wp2
      refine wp_loop_rounds 1 ?_
      rw [rounds_succ]
      go_wp2_with (go_at_call 108; refine HM.out.mono ?_; rintro e w4 ⟨rfl, g4⟩)
      have HG := Lib.hid g4
      clear g4
      rw [rounds_succ]
      go_wp2
      exact bodyPost_end (results_none rfl _ _ _) rfl ⟨rfl, HB.out.1.nw HG.out, (HB.out.2.trans (Tch.nw HG.out)).mono fun i _ e => by rw [e]; rfl⟩
theorem dStable (f : Value) (c : Int → Int → Int) (P : Int → Prop) (v : Value) (l : List Int) (w : World) (gi : Nat) (hl : StOk c l) (h : IS w v l) (hP : ∀ x ∈ l, P x) (hf : Cmps w f gi c P) (hgi : ∀ g, v.ownBlock = some g → g = gi) :
    Calls Tryz.prog 98 #[v, f] w fun e w' => e = .returned (.tuple #[]) ∧ IS w' v (stR c l) ∧ Tch (fun k => v.ownBlock = some k) w w' := by
  by_cases h20 : l.length ≤ 20
  · unfold stR
    rw [if_pos h20]
    exact stableF20 f c P v l w gi h20 h hP hf hgi
  · obtain ⟨h40, hs⟩ := hl.resolve_left h20
    have HS := Lib.hid (stable40 f c P v l w gi (by omega) h40 hs h hP hf hgi)
    unfold stR
    rw [if_neg h20]
    obtain ⟨ao, cap, rfl, _⟩ := h.box
    obtain ⟨gf, lb, rfl, _⟩ := hf
    clear h hP hgi hl hs h20 h40
    go_enter Tryz.func98, Tryz.ntmps98
    go_wp2_with (go_at_call 105; refine HS.out.mono ?_; rintro e w1 ⟨rfl, hI, hT⟩)
    exact bodyPost_end (results_none rfl _ _ _) rfl ⟨rfl, hI, hT⟩
end Go.Proofs.YtfemopcichmlmaaGreatRRR
end
