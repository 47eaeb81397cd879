/- Texts merged: SmA, SmB, SmC -/
import Derived.Test.YtodnlelnpidliaaGreatBucketHoldsB18

/- swapRangeCmpFunc and rotateCmpFunc of ints. -/
section
namespace Go.Proofs.YtodnlelnpidliaaGreat
open Go.RowKit
set_option linter.unusedVariables false      -- a contract need not use every name

/-- A row of n numbers, behind one block. -/
abbrev RowN (w : World) (g cap n : Nat) (l : List Int) : Prop := IS w (.slice (some ⟨g, 0, none⟩) n cap) l
theorem RowN.swap {w : World} {g cap n : Nat} {U V Z : List Int} {x y : Int} (h : RowN w g cap n (U ++ x :: (V ++ y :: Z))) (p q : Nat) (hp : p = U.length) (hq : q = U.length + 1 + V.length) :
    RowN ((w.setCell ⟨g, p, none⟩ (.int .i64 y)).setCell ⟨g, q, none⟩ (.int .i64 x)) g cap n (U ++ y :: (V ++ x :: Z)) := by
  have := IS.set (IS.set h p y) q x
  rwa [sm_sw_mid U V Z x y p q hp hq] at this
theorem sm_two_tch (w : World) (g a b : Nat) (va vb : Value) : Tch (fun k => k = g) w ((w.setCell ⟨g, a, none⟩ va).setCell ⟨g, b, none⟩ vb).drew :=
  Tch.drew (Tch.set (p := ⟨g, b, none⟩) (Tch.set (p := ⟨g, a, none⟩) (Tch.refl (fun k => k = g) w) (.inl rfl) va) (.inl rfl) vb)
theorem RowN.drew {w : World} {g cap n : Nat} {l : List Int} (h : RowN w g cap n l) : RowN w.drew g cap n l := h.nw ((Nw.refl w).drewN 1)
set_option maxRecDepth 100000 in
set_option maxHeartbeats 4000000 in
theorem swapRange (f : Value) (gf : Nat) (lb : Array Value) (hf : f = .func (.func gf) #[] lb) (g cap n : Nat) (P X R Y Q : List Int) (w : World) (hn : n ≤ 1000) (h : RowN w g cap n (P ++ X ++ R ++ Y ++ Q)) (hXY : X.length = Y.length) (a b k : Nat) (ha : a = P.length) (hb : b = P.length + X.length + R.length) (hk : k = X.length) :
    Calls Tryz.prog 159 #[.slice (some ⟨g, 0, none⟩) n cap, .int .i64 a, .int .i64 b, .int .i64 k, f] w fun e w' => e = .returned (.tuple #[]) ∧ RowN w' g cap n (P ++ Y ++ R ++ X ++ Q) ∧ Tch (fun k => k = g) w w' := by
  subst hf
  have H := Lib.hid (show RowN w g cap n (swSt P X R Y Q 0) by rw [swSt_zero]; exact h)
  have hl : n = P.length + X.length + R.length + Y.length + Q.length := by
    have := h.nlen
    simp at this
    omega
  have HL := Lib.hid (And.intro hl (And.intro hXY (And.intro ha (And.intro hb hk))))
  have hab : a + k ≤ b ∧ b + k ≤ n := by omega
  clear h hl hXY ha hb hk
  go_enter Tryz.func159, Tryz.ntmps159
  go_wp2
  go_loopw [10] (fun v wr => ∃ i : Nat, v = .int .i64 i ∧ i ≤ k ∧ Hid (RowN wr g cap n (swSt P X R Y Q i) ∧ Tch (fun k => k = g) w wr)) (fun v _ => k - (intOf v).toNat)
  case atStart => exact ⟨0, rfl, Nat.zero_le _, Lib.hid ⟨H.out, Tch.refl _ _⟩⟩
  case round =>
    clear H
    obtain ⟨i, rfl, hi, HI⟩ := hrel
    by_cases hik : i < k
    · obtain ⟨h1, h2, h3, h4, h5⟩ := HL.out
      obtain ⟨x, y, U, V, Z, e1, e2, e3, e4⟩ := swSt_step P X R Y Q h2 i (by omega)
      obtain ⟨p1, hp1⟩ : ∃ p1, a + i = p1 := ⟨_, rfl⟩
      obtain ⟨p2, hp2⟩ : ∃ p2, b + i = p2 := ⟨_, rfl⟩
      have wA : IntKind.i64.wrap ((a : Int) + (i : Int)) = (p1 : Int) := by rw [sum_nat a i (by omega) (by omega), hp1]
      have wB : IntKind.i64.wrap ((b : Int) + (i : Int)) = (p2 : Int) := by rw [sum_nat b i (by omega) (by omega), hp2]
      have hR := HI.out.1
      rw [e1] at hR
      have hS := hR.swap p1 p2 (by omega) (by omega)
      have hl2 := hR.nlen
      have c1 := IS.cell hR p1 (by simp; omega)
      have c2 := IS.cell hR p2 (by simp; omega)
      rw [sm_at_mid U x _ p1 (by omega)] at c1
      rw [sm_at_mid2 U V Z x y p2 (by omega)] at c2
      rw [← e2] at hS
      have HS := Lib.hid (And.intro hS HI.out.2)
      have fz := IS.frozen hR
      have hg := IS.glt hR
      have ne : ¬ p1 = p2 := by omega
      have ne' : ¬ p2 = p1 := by omega
      have b1 : (p1 : Int) < (n : Int) := by omega
      have b2 : (p2 : Int) < (n : Int) := by omega
      have b1' : p1 < n := by omega
      have b2' : p2 < n := by omega
      have hki : (i : Int) < (k : Int) := by omega
      clear h1 h2 h3 h4 h5 e1 e2 e3 e4 hp1 hp2 hR hS hl2 HI
      go_wp2
      go_region
      all_goals
        go_wp2
        go_roundw
        case rel => exact ⟨i + 1, by go_num, by omega, Lib.hid ⟨RowN.drew HS.out.1, HS.out.2.trans (sm_two_tch _ _ _ _ _ _)⟩⟩
        case measure => simp [intOf]; omega
    · obtain rfl : i = k := by omega
      have HE := Lib.hid (show RowN wr g cap n (P ++ Y ++ R ++ X ++ Q) by
        have := HI.out.1
        rwa [HL.out.2.2.2.2, swSt_all P X R Y Q HL.out.2.1] at this)
      have HT := Lib.hid HI.out.2
      clear HI
      go_wp2
      exact bodyPost_end (results_none rfl _ _ _) rfl ⟨rfl, HE.out, HT.out⟩
/-- What is left to turn. -/
def RotI (w : World) (g cap n m : Nat) (T : List Int) (i j : Nat) (wr : World) : Prop := ∃ P A B Q : List Int, P.length + A.length = m ∧ A.length = i ∧ B.length = j ∧ 0 < i ∧ 0 < j ∧ P.length + A.length + B.length + Q.length = n ∧ P ++ B ++ A ++ Q = T ∧ RowN wr g cap n (P ++ A ++ B ++ Q) ∧ Tch (fun k => k = g) w wr
set_option maxRecDepth 100000 in
set_option maxHeartbeats 4000000 in
theorem rotate (f : Value) (gf : Nat) (lb : Array Value) (hf : f = .func (.func gf) #[] lb) (g cap n : Nat) (P A B Q : List Int) (w : World) (hn : n ≤ 1000) (h : RowN w g cap n (P ++ A ++ B ++ Q)) (hA : 0 < A.length) (hB : 0 < B.length) (a m b : Nat) (ha : a = P.length) (hm : m = P.length + A.length) (hb : b = P.length + A.length + B.length) :
    Calls Tryz.prog 158 #[.slice (some ⟨g, 0, none⟩) n cap, .int .i64 a, .int .i64 m, .int .i64 b, f] w fun e w' => e = .returned (.tuple #[]) ∧ RowN w' g cap n (P ++ B ++ A ++ Q) ∧ Tch (fun k => k = g) w w' := by
  subst hf
  obtain ⟨T, hT⟩ : ∃ T, P ++ B ++ A ++ Q = T := ⟨_, rfl⟩
  have hl := h.nlen
  simp at hl
  have H0 := Lib.hid (show RotI w g cap n m T A.length B.length w from ⟨P, A, B, Q, hm.symm, rfl, rfl, hA, hB, by omega, hT, h, Tch.refl _ _⟩)
  obtain ⟨i0, hi0⟩ : ∃ x, A.length = x := ⟨_, rfl⟩
  obtain ⟨j0, hj0⟩ : ∃ x, B.length = x := ⟨_, rfl⟩
  rw [hi0, hj0] at H0
  rw [hT]
  have w1 : IntKind.i64.wrap ((m : Int) - (a : Int)) = (i0 : Int) := sub_nat m a i0 (by omega) (by omega)
  have w2 : IntKind.i64.wrap ((b : Int) - (m : Int)) = (j0 : Int) := sub_nat b m j0 (by omega) (by omega)
  have hm1 : m ≤ 1000 := by omega
  clear h hA hB ha hm hb hl hi0 hj0 hT
  go_enter Tryz.func158, Tryz.ntmps158
  go_wp2
  clear w1 w2
  go_loopw [10, 11] (fun vi vj wr => ∃ i j : Nat, vi = .int .i64 i ∧ vj = .int .i64 j ∧ Hid (RotI w g cap n m T i j wr)) (fun vi vj _ => (intOf vi).toNat + (intOf vj).toNat)
  case atStart => exact ⟨i0, j0, rfl, rfl, H0⟩
  case round =>
    clear H0
    obtain ⟨i, j, rfl, rfl, HI⟩ := hrel
    obtain ⟨P', A', B', Q', e1, e2, e3, hi, hj, e4, e5, hR, hTc⟩ := HI.out
    obtain ⟨p, hp⟩ : ∃ p, m = p + i := ⟨m - i, by omega⟩
    have w3 : IntKind.i64.wrap ((m : Int) - (i : Int)) = (p : Int) := sub_nat m i p (by omega) (by omega)
    by_cases hij : i = j
    · subst hij
      have HS := Lib.hid (swapRange (.func (.func gf) #[] lb) gf lb rfl g cap n P' A' [] B' Q' wr hn (by simpa using hR) (by omega) p m i (by omega) (by simp; omega) (by omega))
      have HT := Lib.hid hTc
      have HE := Lib.hid e5
      clear HI e1 e2 e3 e4 e5 hR hTc hp
      go_wp2_with fail
      refine HS.out.mono ?_
      rintro e w5 ⟨rfl, q1, q2⟩
      have HQ := Lib.hid (And.intro q1 q2)
      clear q1 q2
      go_wp2
      refine bodyPost_end (results_none rfl _ _ _) rfl ⟨rfl, ?_, HT.out.trans HQ.out.2⟩
      have := HQ.out.1
      rw [← HE.out]
      simpa using this
    · have dij : ((i : Int) == (j : Int)) = false := by simp; omega
      by_cases hgt : j < i
      · have dgt : decide ((j : Int) < (i : Int)) = true := by simp; omega
        have w4 : IntKind.i64.wrap ((i : Int) - (j : Int)) = ((i - j : Nat) : Int) := sub_nat i j (i - j) (by omega) (by omega)
        have eA : A' = A'.take j ++ A'.drop j := (List.take_append_drop j A').symm
        have e6 : P' ++ B' ++ A'.take j ++ A'.drop j ++ Q' = T := by rw [List.append_assoc (P' ++ B') (A'.take j), List.take_append_drop]; exact e5
        have lt : (A'.take j).length = j := by simp; omega
        have ld : (A'.drop j).length = i - j := by simp; omega
        have HS := Lib.hid (swapRange (.func (.func gf) #[] lb) gf lb rfl g cap n P' (A'.take j) (A'.drop j) B' Q' wr hn (by rw [eA] at hR; simpa using hR) (by omega) p m j (by omega) (by omega) (by omega))
        have HN := Lib.hid (fun w5 (q1 : RowN w5 g cap n (P' ++ B' ++ A'.drop j ++ A'.take j ++ Q')) (q2 : Tch (fun k => k = g) wr w5) => show RotI w g cap n m T (i - j) j w5 from
          ⟨P' ++ B', A'.drop j, A'.take j, Q', by rw [List.length_append, ld]; omega, ld, lt, by omega, hj, by rw [List.length_append, ld, lt]; omega, e6, q1, hTc.trans q2⟩)
        clear HI e1 e2 e3 e4 e5 hR hTc hp eA lt ld e6
        go_wp2_with fail
        refine HS.out.mono ?_
        rintro e w5 ⟨rfl, q1, q2⟩
        have HQ := Lib.hid (HN.out w5 q1 q2)
        clear q1 q2
        go_wp2
        go_roundw
        case rel => exact ⟨i - j, j, by go_num, rfl, HQ⟩
        case measure => simp [intOf]; omega
      · have dgt : decide ((j : Int) < (i : Int)) = false := by simp; omega
        have w4 : IntKind.i64.wrap ((j : Int) - (i : Int)) = ((j - i : Nat) : Int) := sub_nat j i (j - i) (by omega) (by omega)
        obtain ⟨mj, hmj⟩ : ∃ x, m + j = x := ⟨_, rfl⟩
        obtain ⟨mk, hmk⟩ : ∃ x, mj = i + x := ⟨mj - i, by omega⟩
        have w5 : IntKind.i64.wrap ((m : Int) + (j : Int)) = (mj : Int) := by rw [sum_nat m j (by omega) (by omega), hmj]
        have w6 : IntKind.i64.wrap ((mj : Int) - (i : Int)) = (mk : Int) := sub_nat mj i mk (by omega) hmk
        have eB : B' = B'.take (j - i) ++ B'.drop (j - i) := (List.take_append_drop (j - i) B').symm
        have e6 : P' ++ B'.take (j - i) ++ B'.drop (j - i) ++ (A' ++ Q') = T := by rw [List.append_assoc P' (B'.take (j - i)), List.take_append_drop, ← e5]; simp
        have lt : (B'.take (j - i)).length = j - i := by simp; omega
        have ld : (B'.drop (j - i)).length = i := by simp; omega
        have HS := Lib.hid (swapRange (.func (.func gf) #[] lb) gf lb rfl g cap n P' A' (B'.take (j - i)) (B'.drop (j - i)) Q' wr hn (by rw [eB] at hR; simpa using hR) (by omega) p mk i (by omega) (by omega) (by omega))
        have HN := Lib.hid (fun w5 (q1 : RowN w5 g cap n (P' ++ B'.drop (j - i) ++ B'.take (j - i) ++ A' ++ Q')) (q2 : Tch (fun k => k = g) wr w5) => show RotI w g cap n m T i (j - i) w5 from
          ⟨P', B'.drop (j - i), B'.take (j - i), A' ++ Q', by omega, ld, lt, hi, by omega, by rw [List.length_append, ld, lt]; omega, e6, by simpa using q1, hTc.trans q2⟩)
        clear HI e1 e2 e3 e4 e5 hR hTc hp eB lt ld e6 hmj hmk
        go_wp2_with fail
        refine HS.out.mono ?_
        rintro e w7 ⟨rfl, q1, q2⟩
        have HQ := Lib.hid (HN.out w7 q1 q2)
        clear q1 q2
        go_wp2
        go_roundw
        case rel => exact ⟨i, j - i, rfl, by go_num, HQ⟩
        case measure => simp [intOf]; omega
end Go.Proofs.YtodnlelnpidliaaGreat
end

/- symMergeCmpFunc of ints: one on the left. -/
section
namespace Go.Proofs.YtodnlelnpidliaaGreat
open Go.RowKit
set_option linter.unusedVariables false      -- a contract need not use every name

/-- What a merge leaves. -/
def MPost (w : World) (g cap n : Nat) (c : Int → Int → Int) (P A B Q : List Int) (e : Ending) (w' : World) : Prop := e = .returned (.tuple #[]) ∧ ∃ M, RowN w' g cap n (P ++ M ++ Q) ∧ M.Perm (A ++ B) ∧ Sd c M ∧ Tch (fun k => k = g) w w'
theorem sm_at_row (P A Q : List Int) (a i : Nat) (ha : a = P.length) (h : a ≤ i) (hi : i < a + A.length) : (P ++ A ++ Q).getD i 0 = A.getD (i - a) 0 := by
  subst ha
  obtain ⟨j, rfl⟩ : ∃ j, i = P.length + j := ⟨i - P.length, by omega⟩
  rw [List.append_assoc, sm_at_app_r, sm_at_app_l' _ _ _ (by omega)]
  congr 1
  omega
set_option maxRecDepth 100000 in
set_option maxHeartbeats 4000000 in
theorem symOneG (f : Value) (c : Int → Int → Int) (M : Int → Prop) (o : OrdC c M) (g cap n : Nat) (P B Q : List Int) (x : Int) (w : World) (hn : n ≤ 1000) (h : RowN w g cap n (P ++ x :: B ++ Q)) (mB : ∀ y ∈ B, M y) (mx : M x) (nB : x ∉ B) (sB : Sd c B) (hB : 0 < B.length) (hf : Cmps w f g c M)
    (a m b : Nat) (ha : a = P.length) (hm : m = a + 1) (hb : b = m + B.length) :
    Calls Tryz.prog 157 #[.slice (some ⟨g, 0, none⟩) n cap, .int .i64 a, .int .i64 m, .int .i64 b, f] w (MPost w g cap n c P [x] B Q) := by
  obtain ⟨gf, lb, rfl, eg, hT⟩ := hf
  have hl := h.nlen
  simp at hl
  have H := Lib.hid (And.intro h (And.intro mB (And.intro mx (And.intro nB (And.intro sB hT)))))
  have O := Lib.hid o
  have w1 : IntKind.i64.wrap ((m : Int) - (a : Int)) = 1 := sub_nat m a 1 (by omega) (by omega)
  have HM := Lib.hid (And.intro ha (And.intro hm hb))
  have hbn : b ≤ n := by omega
  have ham : a < m := by omega
  have hmb : m < b := by omega
  clear hT h mB mx nB sB o hl hm ha hb hB
  go_enter Tryz.func157, Tryz.ntmps157
  go_wp2
  go_loopw [10, 11] (fun vi vj wr => ∃ i j : Nat, vi = .int .i64 i ∧ vj = .int .i64 j ∧ m ≤ i ∧ i ≤ j ∧ j ≤ b ∧ Hid ((m < i → c (B.getD (i - m - 1) 0) x < 0) ∧ (j < b → 0 ≤ c (B.getD (j - m) 0) x)) ∧ Nw w wr) (fun vi vj _ => (intOf vj).toNat - (intOf vi).toNat)
  case atStart => exact ⟨m, b, rfl, rfl, Nat.le_refl _, by omega, Nat.le_refl _, Lib.hid ⟨fun q => by omega, fun q => by omega⟩, Nw.refl _⟩
  case round =>
    obtain ⟨i, j, rfl, rfl, hmi, hij, hjb, HB, hN⟩ := hrel
    by_cases hlt : i < j
    · have w2 := sum_nat i j (by omega) (by omega)
      have dlt : decide ((i : Int) < (j : Int)) = true := by rw [decide_eq_true_iff]; omega
      obtain ⟨t, hh⟩ : ∃ t : Nat, ((i : Int) + (j : Int)) / 2 = (t : Int) := ⟨(i + j) / 2, by omega⟩
      have hf1 : i ≤ t := by omega
      have hf2 : t < j := by omega
      have w4 := suc_nat t (t + 1) (by omega) rfl
      go_wp2
      try rw [hh]
      have hi1 : ((t : Nat) : Int) < (n : Int) := by omega
      have hi0 : ((a : Nat) : Int) < (n : Int) := by omega
      have hkn1 : t < n := by omega
      have hkn0 : a < n := by omega
      obtain ⟨y, hy⟩ : ∃ y, B.getD (t - m) 0 = y := ⟨_, rfl⟩
      have hR : RowN wr g cap n (P ++ x :: B ++ Q) := H.out.1.nw hN
      have c1 : wr.cell? ⟨g, t, none⟩ = some (.int .i64 y) := by
        have := hR.cell t (by rw [← hR.nlen]; exact hkn1)
        rwa [sm_at_row P (x :: B) Q a t HM.out.1 (by omega) (by have := HM.out; simp; omega), show t - a = (t - m) + 1 by have := HM.out; omega, List.getD_cons_succ, hy] at this
      have c0 : wr.cell? ⟨g, a, none⟩ = some (.int .i64 x) := by
        have := hR.cell a (by rw [← hR.nlen]; exact hkn0)
        rwa [sm_at_row P (x :: B) Q a a HM.out.1 (Nat.le_refl _) (by simp), Nat.sub_self, List.getD_cons_zero] at this
      have my : M y := by rw [← hy]; exact H.out.2.1 _ (sm_at_mem (by have := HM.out; omega))
      have s1 : ∀ u, Nw wr u → u.cell? ⟨g, t, none⟩ = some (.int .i64 y) := fun u hu => hu.kp c1
      have s0 : ∀ u, Nw wr u → u.cell? ⟨g, a, none⟩ = some (.int .i64 x) := fun u hu => hu.kp c0
      obtain ⟨z, hz⟩ : ∃ z, c y x = z := ⟨_, rfl⟩
      have HC := Lib.hid (fun (w1 : World) (hW : Nw wr w1) => H.out.2.2.2.2.2 y x w1 my H.out.2.2.1 (Tch.nw (hN.trans hW)))
      rw [hz] at HC
      have HZ := Lib.hid (And.intro hy hz)
      have HNn := Lib.hid hN
      have q1 := (Nw.refl wr).drewQ
      obtain ⟨wc, hwc⟩ : ∃ wc, wr.drew = wc := ⟨_, rfl⟩
      clear hR c1 c0 my hy hz hN
      by_cases hz0 : z < 0
      · have dz : decide (z < 0) = true := by simpa using hz0
        clear hz0
        refine region_told [some true, some true, some true, some true, some true, some true, some true, some true, some true, some false, none, some true] (Nw wr) (by kernel_rfl) (by kernel_rfl) (by kernel_rfl) q1 ?_
        rw [hwc] at q1 ⊢
        clear hwc
        repeat (first
          | (refine HW.off ?_)
          | (refine HW.take' ?_; (first | (refine ⟨undef, Or.inr ⟨by rfl, rfl⟩, ?_⟩) | (apply Exists.intro; refine ⟨Or.inl ⟨by rfl, ?_⟩, ?_⟩; (intro x hx; go_simp; first | done | with_reducible rfl))); (try simp only [Act.put, List.setIfInBounds_toArray, List.set_cons_zero, List.set_cons_succ]))
          | (refine HW.go (fun K hK => ?_); go_simp; (first
            | (go_at_fn gf; (with_reducible refine (HC.out _ q1).mono ?_); rintro e wy ⟨rfl, g2⟩; refine hK.out _ _ (q1.trans g2) ?_; intro _; replace q1 := q1.trans g2; clear hK K g2)
            | (refine hK.out _ _ q1 ?_; intro _; clear hK K))))
        refine HW.end_ ?_
        refine NoPanic.normal ?_
        have HQ := Lib.hid q1
        have DZ := Lib.hid dz
        clear s1 s0 q1 dz
        go_wp2
        go_roundw
        case rel =>
          refine ⟨t + 1, j, by go_num, rfl, by omega, by omega, hjb, Lib.hid ⟨fun _ => ?_, HB.out.2⟩, HNn.out.trans HQ.out⟩
          rw [show t + 1 - m - 1 = t - m by omega, HZ.out.1, HZ.out.2]
          exact of_decide_eq_true DZ.out
        case measure => simp [intOf]; omega
      · have dz : decide (z < 0) = false := by simpa using hz0
        clear hz0
        refine region_told [some true, some true, some true, some true, some true, some true, some true, some true, some true, some false, none, some true] (Nw wr) (by kernel_rfl) (by kernel_rfl) (by kernel_rfl) q1 ?_
        rw [hwc] at q1 ⊢
        clear hwc
        repeat (first
          | (refine HW.off ?_)
          | (refine HW.take' ?_; (first | (refine ⟨undef, Or.inr ⟨by rfl, rfl⟩, ?_⟩) | (apply Exists.intro; refine ⟨Or.inl ⟨by rfl, ?_⟩, ?_⟩; (intro x hx; go_simp; first | done | with_reducible rfl))); (try simp only [Act.put, List.setIfInBounds_toArray, List.set_cons_zero, List.set_cons_succ]))
          | (refine HW.go (fun K hK => ?_); go_simp; (first
            | (go_at_fn gf; (with_reducible refine (HC.out _ q1).mono ?_); rintro e wy ⟨rfl, g2⟩; refine hK.out _ _ (q1.trans g2) ?_; intro _; replace q1 := q1.trans g2; clear hK K g2)
            | (refine hK.out _ _ q1 ?_; intro _; clear hK K))))
        refine HW.end_ ?_
        refine NoPanic.normal ?_
        have HQ := Lib.hid q1
        have DZ := Lib.hid dz
        clear s1 s0 q1 dz
        go_wp2
        go_roundw
        case rel =>
          refine ⟨i, t, rfl, by go_num, hmi, hf1, by omega, Lib.hid ⟨HB.out.1, fun _ => ?_⟩, HNn.out.trans HQ.out⟩
          rw [HZ.out.1, HZ.out.2]
          exact Int.not_lt.1 (of_decide_eq_false DZ.out)
        case measure => simp [intOf]; omega
    · obtain rfl : i = j := by omega
      have HNn := Lib.hid hN
      obtain ⟨kk, hkk⟩ : ∃ kk, i = m + kk := ⟨i - m, by omega⟩
      obtain ⟨ii, hii⟩ : ∃ ii, i = ii + 1 := ⟨i - 1, by omega⟩
      have w5 : IntKind.i64.wrap ((i : Int) - 1) = (ii : Int) := one_nat i ii (by omega) hii
      have HK := Lib.hid (And.intro hkk hii)
      have hai : a ≤ ii := by omega
      have hib : ii < b := by omega
      have hmi2 : i ≤ b := by omega
      clear hN hlt hkk hii
      go_wp2
      go_loopw [13] (fun vk wr => ∃ k : Nat, vk = .int .i64 k ∧ a ≤ k ∧ k ≤ ii ∧ Hid (RowN wr g cap n (P ++ (B.take (k - a) ++ x :: B.drop (k - a)) ++ Q) ∧ Tch (fun k => k = g) w wr)) (fun vk _ => ii - (intOf vk).toNat)
      case atStart => exact ⟨a, rfl, Nat.le_refl _, hai, Lib.hid ⟨by rw [Nat.sub_self]; simpa using H.out.1.nw HNn.out, Tch.nw HNn.out⟩⟩
      case round =>
        generalize wr = w7 at *
        obtain ⟨k, rfl, hak, hki, HI⟩ := hrel
        by_cases hlt : k < ii
        · obtain ⟨y, hy⟩ : ∃ y, B.getD (k - a) 0 = y := ⟨_, rfl⟩
          have hkB : k - a < B.length := by have := HM.out; omega
          have eB := sm_part_at B (k - a) hkB
          rw [hy] at eB
          have e1 : P ++ (B.take (k - a) ++ x :: B.drop (k - a)) ++ Q = (P ++ B.take (k - a)) ++ x :: ([] ++ y :: (B.drop (k - a + 1) ++ Q)) := by
            have : B.drop (k - a) = y :: B.drop (k - a + 1) := by
              have hk2 : B[k - a] = y := by rw [← hy]; simp [List.getD, hkB]
              rw [← hk2]; exact (List.getElem_cons_drop hkB).symm
            rw [this]; simp
          have e2 : P ++ (B.take (k + 1 - a) ++ x :: B.drop (k + 1 - a)) ++ Q = (P ++ B.take (k - a)) ++ y :: ([] ++ x :: (B.drop (k - a + 1) ++ Q)) := by
            have : B.take (k - a + 1) = B.take (k - a) ++ [y] := by
              have hk2 : B[k - a] = y := by rw [← hy]; simp [List.getD, hkB]
              rw [← hk2]; exact List.take_succ_eq_append_getElem hkB
            rw [show k + 1 - a = k - a + 1 by omega, this]; simp
          have hR := HI.out.1
          rw [e1] at hR
          have lU : (P ++ B.take (k - a)).length = k := by have := HM.out.1; rw [List.length_append, List.length_take]; omega
          have hS := hR.swap k (k + 1) lU.symm (by rw [lU]; simp)
          rw [← e2] at hS
          have HS := Lib.hid (And.intro hS HI.out.2)
          have c1 := IS.cell hR k (by rw [← hR.nlen]; omega)
          have c2 := IS.cell hR (k + 1) (by rw [← hR.nlen]; omega)
          rw [sm_at_mid _ x _ k lU.symm] at c1
          rw [sm_at_mid2 _ [] _ x y (k + 1) (by rw [lU]; simp)] at c2
          have fz := IS.frozen hR
          have hg := IS.glt hR
          have w6 := suc_nat k (k + 1) (by omega) rfl
          have ne : ¬ k = k + 1 := by omega
          have ne' : ¬ k + 1 = k := by omega
          obtain ⟨k1, hk1⟩ : ∃ k1, k + 1 = k1 := ⟨_, rfl⟩
          rw [hk1] at c2 HS w6 ne ne'
          have b1 : (k : Int) < (n : Int) := by omega
          have b2 : (k1 : Int) < (n : Int) := by omega
          have b1' : k < n := by omega
          have b2' : k1 < n := by omega
          have HK1 := Lib.hid hk1
          have dkl : (k : Int) < (ii : Int) := by omega
          clear eB e1 e2 hR lU hS hy hkB HI hk1
          go_wp2
          go_region
          all_goals
            go_wp2
            go_roundw
            case rel => exact ⟨k + 1, by have := HK1.out; subst this; go_num, by omega, by omega, Lib.hid ⟨by have := HS.out.1; rw [HK1.out]; rw [← HK1.out] at this ⊢; exact RowN.drew this, HS.out.2.trans (sm_two_tch _ _ _ _ _ _)⟩⟩
            case measure => have h1 := HK1.out; simp [intOf]; omega
        · obtain rfl : k = ii := by omega
          have ek : k - a = kk := by have := HM.out; have := HK.out; omega
          have hE : MPost w g cap n c P [x] B Q (.returned (.tuple #[])) w7 := by
            obtain ⟨k1, k2⟩ := HK.out
            obtain ⟨m1, m2, m3⟩ := HM.out
            have hr := HI.out
            rw [ek] at hr
            refine ⟨rfl, _, hr.1, (sm_ins_perm' B x kk).trans (by simp), ?_, hr.2⟩
            refine sm_ins_sd O.out H.out.2.1 H.out.2.2.1 H.out.2.2.2.2.1 kk (by omega) (fun q => ?_) (fun q => ?_)
            · have := HB.out.1 (by omega)
              rwa [show i - m - 1 = kk - 1 by omega] at this
            · have h1 := HB.out.2 (by omega)
              rw [show i - m = kk by omega] at h1
              exact (O.out.tot x (B.getD kk 0) H.out.2.2.1 (H.out.2.1 _ (sm_at_mem q)) (fun e => H.out.2.2.2.1 (e ▸ sm_at_mem q))).resolve_right (Int.not_lt.2 h1)
          have HE := Lib.hid hE
          clear hE HI
          go_wp2
          exact bodyPost_end (results_none rfl _ _ _) rfl HE.out
end Go.Proofs.YtodnlelnpidliaaGreat
end

/- symMergeCmpFunc of ints: one on the right. -/
section
namespace Go.Proofs.YtodnlelnpidliaaGreat
open Go.RowKit
set_option linter.unusedVariables false      -- a contract need not use every name

theorem RowN.swapB {w : World} {g cap n : Nat} {U Z : List Int} {x y : Int} (h : RowN w g cap n (U ++ y :: (x :: Z))) (p q : Nat) (hp : p = U.length) (hq : q = U.length + 1) :
    RowN ((w.setCell ⟨g, q, none⟩ (.int .i64 y)).setCell ⟨g, p, none⟩ (.int .i64 x)) g cap n (U ++ x :: (y :: Z)) := by
  have := IS.set (IS.set h q y) p x
  rw [List.set_comm _ _ (by omega)] at this
  have e := sm_sw_mid U [] Z y x p q hp (by simpa using hq)
  simp only [List.nil_append] at e
  rwa [e] at this
set_option maxRecDepth 100000 in
set_option maxHeartbeats 4000000 in
theorem symLastG (f : Value) (c : Int → Int → Int) (M : Int → Prop) (o : OrdC c M) (g cap n : Nat) (P A Q : List Int) (x : Int) (w : World) (hn : n ≤ 1000) (h : RowN w g cap n (P ++ A ++ x :: Q)) (mA : ∀ y ∈ A, M y) (mx : M x) (nA : x ∉ A) (sA : Sd c A) (hA : 1 < A.length) (hf : Cmps w f g c M)
    (a m b : Nat) (ha : a = P.length) (hm : m = a + A.length) (hb : b = m + 1) :
    Calls Tryz.prog 157 #[.slice (some ⟨g, 0, none⟩) n cap, .int .i64 a, .int .i64 m, .int .i64 b, f] w (MPost w g cap n c P A [x] Q) := by
  obtain ⟨gf, lb, rfl, eg, hT⟩ := hf
  have hl := h.nlen
  simp at hl
  have H := Lib.hid (And.intro h (And.intro mA (And.intro mx (And.intro nA (And.intro sA hT)))))
  have O := Lib.hid o
  obtain ⟨dd, hdd⟩ : ∃ x : Nat, m = a + x := ⟨m - a, by omega⟩
  have w1 : IntKind.i64.wrap ((m : Int) - (a : Int)) = dd := sub_nat m a dd (by omega) hdd
  have d1 : ((dd : Int) == 1) = false := by rw [beq_eq_false_iff_ne]; omega
  have d1' : ¬ dd = 1 := by omega
  have w3 : IntKind.i64.wrap ((b : Int) - (m : Int)) = 1 := sub_nat b m 1 (by omega) (by omega)
  have HM := Lib.hid (And.intro ha (And.intro hm hb))
  have hbn : b ≤ n := by omega
  have ham : a < m := by omega
  have hmb : m < b := by omega
  clear hT h mA mx nA sA o hl hm ha hb hA hdd
  go_enter Tryz.func157, Tryz.ntmps157
  go_wp2
  go_loopw [14, 15] (fun vi vj wr => ∃ i j : Nat, vi = .int .i64 i ∧ vj = .int .i64 j ∧ a ≤ i ∧ i ≤ j ∧ j ≤ m ∧ Hid ((a < i → 0 ≤ c x (A.getD (i - a - 1) 0)) ∧ (j < m → c x (A.getD (j - a) 0) < 0)) ∧ Nw w wr) (fun vi vj _ => (intOf vj).toNat - (intOf vi).toNat)
  case atStart => exact ⟨a, m, rfl, rfl, Nat.le_refl _, by omega, Nat.le_refl _, Lib.hid ⟨fun q => by omega, fun q => by omega⟩, Nw.refl _⟩
  case round =>
    obtain ⟨i, j, rfl, rfl, hmi, hij, hjb, HB, hN⟩ := hrel
    by_cases hlt : i < j
    · have w2 := sum_nat i j (by omega) (by omega)
      have dlt : decide ((i : Int) < (j : Int)) = true := by rw [decide_eq_true_iff]; omega
      obtain ⟨t, hh⟩ : ∃ t : Nat, ((i : Int) + (j : Int)) / 2 = (t : Int) := ⟨(i + j) / 2, by omega⟩
      have hf1 : i ≤ t := by omega
      have hf2 : t < j := by omega
      have w4 := suc_nat t (t + 1) (by omega) rfl
      go_wp2
      try rw [hh]
      have hi1 : ((m : Nat) : Int) < (n : Int) := by omega
      have hi0 : ((t : Nat) : Int) < (n : Int) := by omega
      have hkn1 : m < n := by omega
      have hkn0 : t < n := by omega
      obtain ⟨y, hy⟩ : ∃ y, A.getD (t - a) 0 = y := ⟨_, rfl⟩
      have hR : RowN wr g cap n (P ++ A ++ x :: Q) := H.out.1.nw hN
      have c0 : wr.cell? ⟨g, t, none⟩ = some (.int .i64 y) := by
        have := hR.cell t (by rw [← hR.nlen]; exact hkn0)
        rwa [sm_at_row P A (x :: Q) a t HM.out.1 (by omega) (by have := HM.out; omega), hy] at this
      have c1 : wr.cell? ⟨g, m, none⟩ = some (.int .i64 x) := by
        have := hR.cell m (by rw [← hR.nlen]; exact hkn1)
        rwa [sm_at_mid (P ++ A) x Q m (by have := HM.out; rw [List.length_append]; omega)] at this
      have my : M y := by rw [← hy]; exact H.out.2.1 _ (sm_at_mem (by have := HM.out; omega))
      have s1 : ∀ u, Nw wr u → u.cell? ⟨g, m, none⟩ = some (.int .i64 x) := fun u hu => hu.kp c1
      have s0 : ∀ u, Nw wr u → u.cell? ⟨g, t, none⟩ = some (.int .i64 y) := fun u hu => hu.kp c0
      obtain ⟨z, hz⟩ : ∃ z, c x y = z := ⟨_, rfl⟩
      have HC := Lib.hid (fun (w1 : World) (hW : Nw wr w1) => H.out.2.2.2.2.2 x y w1 H.out.2.2.1 my (Tch.nw (hN.trans hW)))
      rw [hz] at HC
      have HZ := Lib.hid (And.intro hy hz)
      have HNn := Lib.hid hN
      have q1 := (Nw.refl wr).drewQ
      obtain ⟨wc, hwc⟩ : ∃ wc, wr.drew = wc := ⟨_, rfl⟩
      clear hR c1 c0 my hy hz hN
      by_cases hz0 : z < 0
      · have dz : decide (z < 0) = true := by simpa using hz0
        clear hz0
        refine region_told [some true, some true, some true, some true, some true, some true, some true, some true, some true, some false, none, some true, some true] (Nw wr) (by kernel_rfl) (by kernel_rfl) (by kernel_rfl) q1 ?_
        rw [hwc] at q1 ⊢
        clear hwc
        repeat (first
          | (refine HW.off ?_)
          | (refine HW.take' ?_; (first | (refine ⟨undef, Or.inr ⟨by rfl, rfl⟩, ?_⟩) | (apply Exists.intro; refine ⟨Or.inl ⟨by rfl, ?_⟩, ?_⟩; (intro x hx; go_simp; first | done | with_reducible rfl))); (try simp only [Act.put, List.setIfInBounds_toArray, List.set_cons_zero, List.set_cons_succ]))
          | (refine HW.go (fun K hK => ?_); go_simp; (first
            | (go_at_fn gf; (with_reducible refine (HC.out _ q1).mono ?_); rintro e wy ⟨rfl, g2⟩; refine hK.out _ _ (q1.trans g2) ?_; intro _; replace q1 := q1.trans g2; clear hK K g2)
            | (refine hK.out _ _ q1 ?_; intro _; clear hK K))))
        refine HW.end_ ?_
        refine NoPanic.normal ?_
        have HQ := Lib.hid q1
        have DZ := Lib.hid dz
        clear s1 s0 q1 dz
        go_wp2
        go_roundw
        case rel =>
          refine ⟨i, t, rfl, by go_num, hmi, hf1, by omega, Lib.hid ⟨HB.out.1, fun _ => ?_⟩, HNn.out.trans HQ.out⟩
          rw [HZ.out.1, HZ.out.2]
          exact of_decide_eq_true DZ.out
        case measure => simp [intOf]; omega
      · have dz : decide (z < 0) = false := by simpa using hz0
        clear hz0
        refine region_told [some true, some true, some true, some true, some true, some true, some true, some true, some true, some false, none, some true, some true] (Nw wr) (by kernel_rfl) (by kernel_rfl) (by kernel_rfl) q1 ?_
        rw [hwc] at q1 ⊢
        clear hwc
        repeat (first
          | (refine HW.off ?_)
          | (refine HW.take' ?_; (first | (refine ⟨undef, Or.inr ⟨by rfl, rfl⟩, ?_⟩) | (apply Exists.intro; refine ⟨Or.inl ⟨by rfl, ?_⟩, ?_⟩; (intro x hx; go_simp; first | done | with_reducible rfl))); (try simp only [Act.put, List.setIfInBounds_toArray, List.set_cons_zero, List.set_cons_succ]))
          | (refine HW.go (fun K hK => ?_); go_simp; (first
            | (go_at_fn gf; (with_reducible refine (HC.out _ q1).mono ?_); rintro e wy ⟨rfl, g2⟩; refine hK.out _ _ (q1.trans g2) ?_; intro _; replace q1 := q1.trans g2; clear hK K g2)
            | (refine hK.out _ _ q1 ?_; intro _; clear hK K))))
        refine HW.end_ ?_
        refine NoPanic.normal ?_
        have HQ := Lib.hid q1
        have DZ := Lib.hid dz
        clear s1 s0 q1 dz
        go_wp2
        go_roundw
        case rel =>
          refine ⟨t + 1, j, by go_num, rfl, by omega, by omega, hjb, Lib.hid ⟨fun _ => ?_, HB.out.2⟩, HNn.out.trans HQ.out⟩
          rw [show t + 1 - a - 1 = t - a by omega, HZ.out.1, HZ.out.2]
          exact Int.not_lt.1 (of_decide_eq_false DZ.out)
        case measure => simp [intOf]; omega
    · obtain rfl : i = j := by omega
      have HNn := Lib.hid hN
      obtain ⟨kk, hkk⟩ : ∃ kk, i = a + kk := ⟨i - a, by omega⟩
      have HK := Lib.hid hkk
      clear hN hlt hkk
      go_wp2
      go_loopw [17] (fun vk wr => ∃ k : Nat, vk = .int .i64 k ∧ i ≤ k ∧ k ≤ m ∧ Hid (RowN wr g cap n (P ++ (A.take (k - a) ++ x :: A.drop (k - a)) ++ Q) ∧ Tch (fun k => k = g) w wr)) (fun vk _ => (intOf vk).toNat)
      case atStart => exact ⟨m, rfl, by omega, Nat.le_refl _, Lib.hid ⟨by
        have e : m - a = A.length := by have := HM.out; omega
        rw [e, List.take_length, List.drop_length]
        simpa using H.out.1.nw HNn.out, Tch.nw HNn.out⟩⟩
      case round =>
        generalize wr = w7 at *
        obtain ⟨k, rfl, hik, hkm, HI⟩ := hrel
        by_cases hlt : i < k
        · obtain ⟨k0, hk0⟩ : ∃ k0, k = k0 + 1 := ⟨k - 1, by omega⟩
          obtain ⟨y, hy⟩ : ∃ y, A.getD (k0 - a) 0 = y := ⟨_, rfl⟩
          have hkA : k0 - a < A.length := by have := HM.out; omega
          have hk2 : A[k0 - a] = y := by rw [← hy]; simp [List.getD, hkA]
          have e0 : k - a = k0 - a + 1 := by omega
          have e1 : P ++ (A.take (k - a) ++ x :: A.drop (k - a)) ++ Q = (P ++ A.take (k0 - a)) ++ y :: (x :: (A.drop (k - a) ++ Q)) := by
            have : A.take (k0 - a + 1) = A.take (k0 - a) ++ [y] := by rw [← hk2]; exact List.take_succ_eq_append_getElem hkA
            rw [e0, this]; simp
          have e2 : P ++ (A.take (k0 - a) ++ x :: A.drop (k0 - a)) ++ Q = (P ++ A.take (k0 - a)) ++ x :: (y :: (A.drop (k - a) ++ Q)) := by
            have : A.drop (k0 - a) = y :: A.drop (k0 - a + 1) := by rw [← hk2]; exact (List.getElem_cons_drop hkA).symm
            rw [this, e0]; simp
          have hR := HI.out.1
          rw [e1] at hR
          have lU : (P ++ A.take (k0 - a)).length = k0 := by have := HM.out.1; rw [List.length_append, List.length_take]; omega
          have hS := hR.swapB k0 k lU.symm (by rw [lU]; exact hk0)
          rw [← e2] at hS
          have HS := Lib.hid (And.intro hS HI.out.2)
          have c1 := IS.cell hR k0 (by rw [← hR.nlen]; omega)
          have c2 := IS.cell hR k (by rw [← hR.nlen]; omega)
          rw [sm_at_mid _ y _ k0 lU.symm] at c1
          have c3 := sm_at_mid2 (P ++ A.take (k0 - a)) [] (A.drop (k - a) ++ Q) y x k (by rw [lU]; simpa using hk0)
          simp only [List.nil_append] at c3
          rw [c3] at c2
          have fz := IS.frozen hR
          have hg := IS.glt hR
          have w6 : IntKind.i64.wrap ((k : Int) - 1) = (k0 : Int) := one_nat k k0 (by omega) hk0
          have ne : ¬ k = k0 := by omega
          have ne' : ¬ k0 = k := by omega
          have b1 : (k : Int) < (n : Int) := by omega
          have b2 : (k0 : Int) < (n : Int) := by omega
          have b1' : k < n := by omega
          have b2' : k0 < n := by omega
          have dkl : (i : Int) < (k : Int) := by omega
          have hk0i : i ≤ k0 := by omega
          have hk0k : k0 < k := by omega
          clear e0 e1 e2 hR lU hS hy hkA HI c3 hk2 hk0
          go_wp2
          go_region
          all_goals
            go_wp2
            go_roundw
            case rel => exact ⟨k0, by go_num, hk0i, by omega, Lib.hid ⟨RowN.drew HS.out.1, HS.out.2.trans (sm_two_tch _ _ _ _ _ _)⟩⟩
            case measure => simp [intOf]; omega
        · obtain rfl : k = i := by omega
          have ek : k - a = kk := by have := HM.out; have := HK.out; omega
          have hE : MPost w g cap n c P A [x] Q (.returned (.tuple #[])) w7 := by
            have k1 := HK.out
            obtain ⟨m1, m2, m3⟩ := HM.out
            have hr := HI.out
            rw [ek] at hr
            refine ⟨rfl, _, hr.1, (sm_ins_perm' A x kk).trans (List.perm_append_comm (l₁ := [x]) (l₂ := A)), ?_, hr.2⟩
            refine sm_ins_sd O.out H.out.2.1 H.out.2.2.1 H.out.2.2.2.2.1 kk (by omega) (fun q => ?_) (fun q => ?_)
            · have h1 := HB.out.1 (by omega)
              rw [show k - a - 1 = kk - 1 by omega] at h1
              exact (O.out.tot (A.getD (kk - 1) 0) x (H.out.2.1 _ (sm_at_mem (by omega))) H.out.2.2.1 (fun e => H.out.2.2.2.1 (e ▸ sm_at_mem (by omega)))).resolve_right (Int.not_lt.2 h1)
            · have := HB.out.2 (by omega)
              rwa [show k - a = kk by omega] at this
          have HE := Lib.hid hE
          clear hE HI
          go_wp2
          exact bodyPost_end (results_none rfl _ _ _) rfl HE.out
end Go.Proofs.YtodnlelnpidliaaGreat
end
