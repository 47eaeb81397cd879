/- Texts merged: QvM, QvN, QsA, QvS -/
import Derived.Test.YtmciiobncfchlaaQueueTurnsB5

/- insertionSortCmpFunc of ints, with any function value that compares and makes at most new blocks. -/
section
namespace Go.Proofs.Ytmciiobncfchlaa
open Go.RowKit
set_option linter.unusedVariables false      -- a contract need not use every name

/-- A function value that compares two numbers that meet a condition, whatever is done to block gi. -/
def Cmps (w : World) (f : Value) (gi : Nat) (c : Int → Int → Int) (P : Int → Prop) : Prop := ∃ (g : Nat) (lb : Array Value), f = .func (.func g) #[] lb ∧ (∀ args w, (callFunc g args).run Try.prog w = .ok (.enter g args) w) ∧
  ∀ (x y : Int) (w1 : World), P x → P y → Tch (fun k => k = gi) w w1 → Calls Try.prog g (#[.int .i64 x, .int .i64 y] ++ lb) w1 fun e w' => e = .returned (.int .i64 (c x y)) ∧ Nw w1 w'
def insF (c : Int → Int → Int) (a : Nat) : Nat → List Int → List Int
  | 0, L => L
  | j + 1, L => if a < j + 1 ∧ c (L.getD (j + 1) 0) (L.getD j 0) < 0 then insF c a j ((L.set (j + 1) (L.getD j 0)).set j (L.getD (j + 1) 0)) else L
def srtF (c : Int → Int → Int) (a : Nat) : Nat → Nat → List Int → List Int
  | 0, _, L => L
  | n + 1, i, L => srtF c a n (i + 1) (insF c a i L)
theorem insF_len (c : Int → Int → Int) (a : Nat) : ∀ (j : Nat) (L : List Int), (insF c a j L).length = L.length
  | 0, _ => rfl
  | j + 1, L => by
    unfold insF
    split
    · rw [insF_len c a j]; simp
    · rfl
theorem insF_all (c : Int → Int → Int) (a : Nat) (P : Int → Prop) : ∀ (j : Nat) (L : List Int), j < L.length → (∀ x ∈ L, P x) → ∀ x ∈ insF c a j L, P x
  | 0, _, _, h => h
  | j + 1, L, hj, h => by
    unfold insF
    split
    · refine insF_all c a P j _ (by simp; omega) fun x hx => ?_
      have g1 : ∀ i, i < L.length → P (L.getD i 0) := fun i hi => by
        have : L.getD i 0 = L[i] := by simp [List.getD, hi]
        rw [this]; exact h _ (List.getElem_mem hi)
      rcases List.mem_or_eq_of_mem_set hx with hx | rfl
      · rcases List.mem_or_eq_of_mem_set hx with hx | rfl
        · exact h x hx
        · exact g1 j (by omega)
      · exact g1 (j + 1) hj
    · exact h
theorem insF_stop {c : Int → Int → Int} {a j : Nat} {L : List Int} (h : ¬ a < j) : insF c a j L = L := by
  cases j with
  | zero => rfl
  | succ j => unfold insF; rw [if_neg (fun e => h e.1)]
theorem insF_keep {c : Int → Int → Int} {a j : Nat} {L : List Int} (h : ¬ c (L.getD (j + 1) 0) (L.getD j 0) < 0) : insF c a (j + 1) L = L := by
  unfold insF; rw [if_neg (fun e => h e.2)]
theorem insF_go {c : Int → Int → Int} {a j : Nat} {L : List Int} (h1 : a < j + 1) (h : c (L.getD (j + 1) 0) (L.getD j 0) < 0) : insF c a (j + 1) L = insF c a j ((L.set (j + 1) (L.getD j 0)).set j (L.getD (j + 1) 0)) := by
  conv => lhs; unfold insF
  rw [if_pos ⟨h1, h⟩]
theorem set2_all {P : Int → Prop} {L : List Int} (h : ∀ x ∈ L, P x) {x y : Int} (hx : P x) (hy : P y) {m m1 : Nat} : ∀ z ∈ (L.set m y).set m1 x, P z := by
  intro z hz
  rcases List.mem_or_eq_of_mem_set hz with hz | rfl
  · rcases List.mem_or_eq_of_mem_set hz with hz | rfl
    · exact h z hz
    · exact hy
  · exact hx
theorem Tch.st' {S : Nat → Prop} {a b : World} (h : Tch S a b) {p : Nat} (hp : S p) (j : Nat) (u : Value) : Tch S a (b.setCell ⟨p, j, none⟩ u) := h.set (p := ⟨p, j, none⟩) (.inl hp) u
set_option maxRecDepth 100000 in
set_option maxHeartbeats 4000000 in
theorem insSort (f : Value) (c : Int → Int → Int) (P : Int → Prop) (g cap : Nat) (l : List Int) (a b : Nat) (w : World) (hl : l.length ≤ 1000) (hab : a ≤ b) (hb : b ≤ l.length) (h : IS w (.slice (some ⟨g, 0, none⟩) l.length cap) l) (hP : ∀ x ∈ l, P x) (hf : Cmps w f g c P) :
    Calls Try.prog 119 #[.slice (some ⟨g, 0, none⟩) l.length cap, .int .i64 a, .int .i64 b, f] w fun e w' => e = .returned (.tuple #[]) ∧ IS w' (.slice (some ⟨g, 0, none⟩) l.length cap) (srtF c a (b - (a + 1)) (a + 1) l) ∧ Tch (fun k => k = g) w w' := by
  obtain ⟨gf, lb, rfl, eg, hT⟩ := hf
  have HT := Lib.hid hT
  have H := Lib.hid (And.intro h hP)
  obtain ⟨n, hn⟩ : ∃ n, l.length = n := ⟨_, rfl⟩
  rw [hn] at hl hb H ⊢
  obtain ⟨R, hR⟩ : ∃ R, srtF c a (b - (a + 1)) (a + 1) l = R := ⟨_, rfl⟩
  rw [hR]
  have HR := Lib.hid (And.intro hR hn)
  clear hT h hP hR hn
  go_enter Try.func119, Try.ntmps119
  go_wp2
  go_loopw [8] (fun i wr => ∃ (k : Nat) (L : List Int), i = .int .i64 k ∧ a < k ∧ (k ≤ b ∨ k = a + 1) ∧ srtF c a (b - k) k L = R ∧ L.length = n ∧ IS wr (.slice (some ⟨g, 0, none⟩) n cap) L ∧ (∀ x ∈ L, P x) ∧ Tch (fun k => k = g) w wr) (fun i _ => b - (intOf i).toNat)
  case atStart => exact ⟨a + 1, l, by go_num, by omega, .inr rfl, HR.out.1, HR.out.2, H.out.1, H.out.2, Tch.refl _ _⟩
  case round =>
    obtain ⟨k, L, rfl, hak, hkb, hS, hLn, hI, hPL, hTc⟩ := hrel
    by_cases hlt : k < b
    · have hS2 : srtF c a (b - (k + 1)) (k + 1) (insF c a k L) = R := by
        rw [show b - k = (b - (k + 1)) + 1 by omega] at hS
        exact hS
      obtain ⟨M, hM⟩ : ∃ M, insF c a k L = M := ⟨_, rfl⟩
      rw [hM] at hS2
      have HM := Lib.hid (And.intro hM (And.intro hI (And.intro hPL (And.intro hTc hLn))))
      have HS := Lib.hid hS2
      clear hS hS2 hM hI hPL hTc hLn
      go_wp2
      go_loopw [9] (fun j wr => ∃ (m : Nat) (L : List Int), j = .int .i64 m ∧ a ≤ m ∧ m ≤ k ∧ insF c a m L = M ∧ L.length = n ∧ IS wr (.slice (some ⟨g, 0, none⟩) n cap) L ∧ (∀ x ∈ L, P x) ∧ Tch (fun k => k = g) w wr) (fun j _ => (intOf j).toNat)
      case atStart => exact ⟨k, L, rfl, by omega, Nat.le_refl _, HM.out.1, HM.out.2.2.2.2, HM.out.2.1, HM.out.2.2.1, HM.out.2.2.2.1⟩
      case round =>
        obtain ⟨m, L, rfl, ham, hmk, hF, hLn, hI, hPL, hTc⟩ := hrel
        have q1 := (Nw.refl wr).drew1
        obtain ⟨wc, hwc⟩ : ∃ wc, wr.drew = wc := ⟨_, rfl⟩
        have hgl := hI.glt
        by_cases hm : a < m
        · obtain ⟨m1, hm1⟩ : ∃ m1, m = m1 + 1 := ⟨m - 1, by omega⟩
          have dm : decide ((a : Int) < (m : Int)) = true := by rw [decide_eq_true_iff]; omega
          have c1 := hI.cell m (by omega)
          have c0 := hI.cell m1 (by omega)
          have px : P (L.getD m 0) := by
            rw [show L.getD m 0 = L[m]'(by omega) by simp [List.getD, show m < L.length by omega]]
            exact hPL _ (List.getElem_mem _)
          have py : P (L.getD m1 0) := by
            rw [show L.getD m1 0 = L[m1]'(by omega) by simp [List.getD, show m1 < L.length by omega]]
            exact hPL _ (List.getElem_mem _)
          have HC := Lib.hid (fun (w1 : World) (hN : Nw wr w1) => HT.out _ _ w1 px py (hTc.trans (Tch.nw hN)))
          have hw1 : IntKind.i64.wrap ((m : Int) - 1) = (m1 : Int) := by rw [IntKind.wrap_i64]; omega
          have hi1 : (m : Int) < (n : Int) := by omega
          have hi0 : (m1 : Int) < (n : Int) := by omega
          have hkn1 : m < n := by omega
          have hkn0 : m1 < n := by omega
          have HGo : Hid (c (L.getD m 0) (L.getD m1 0) < 0 → insF c a m1 ((L.set m (L.getD m1 0)).set m1 (L.getD m 0)) = M) := Lib.hid (by subst hm1; exact fun e => (insF_go (L := L) hm e).symm.trans hF)
          have HKe : Hid (¬ c (L.getD m 0) (L.getD m1 0) < 0 → L = M) := Lib.hid (by subst hm1; exact fun e => (insF_keep (a := a) (L := L) e).symm.trans hF)
          have HM1 := Lib.hid hm1
          clear hm1
          have fz := fun j => hI.frozen j
          have HI := Lib.hid (And.intro hI (And.intro hPL (And.intro hTc hLn)))
          have hpx := Lib.hid px
          have hpy := Lib.hid py
          clear px py hI hPL hTc hF hLn
          generalize hxe : L.getD m 0 = x at *
          generalize hye : L.getD m1 0 = y at *
          obtain ⟨z, hz⟩ : ∃ z, c x y = z := ⟨_, rfl⟩
          rw [hz] at HC HGo HKe
          clear hz hxe hye
          have s1 : ∀ u, Nw wr u → u.cell? ⟨g, m, none⟩ = some (.int .i64 x) := fun u hu => hu.kp c1
          have s0 : ∀ u, Nw wr u → u.cell? ⟨g, m1, none⟩ = some (.int .i64 y) := fun u hu => hu.kp c0
          by_cases hz0 : z < 0
          · have dz : decide (z < 0) = true := by simpa using hz0
            have HF := Lib.hid (HGo.out hz0)
            clear HGo HKe hz0 c1 c0
            go_wp2
            refine region_told [some true, some true, some true, some true, some true, some true, some true, some true, some true, some true, some true, some true, some true, some true, some false, none, some true, some true] (Nw wr) (by kernel_rfl) (by kernel_rfl) (by kernel_rfl) q1 ?_
            rw [hwc] at q1 ⊢
            clear hwc
            repeat (first
              | (refine HW.off ?_)
              | (refine HW.take' ?_; (first | (refine ⟨undef, Or.inr ⟨by rfl, rfl⟩, ?_⟩) | (apply Exists.intro; refine ⟨Or.inl ⟨by rfl, ?_⟩, ?_⟩; (intro x hx; go_simp; first | done | with_reducible rfl))); (try simp only [Act.put, List.setIfInBounds_toArray, List.set_cons_zero, List.set_cons_succ]))
              | (refine HW.go (fun K hK => ?_); go_simp; (first
                | (go_at_fn gf; (with_reducible refine (HC.out _ q1).mono ?_); rintro e wy ⟨rfl, g2⟩; refine hK.out _ _ (q1.trans g2) ?_; intro _; replace q1 := q1.trans g2; clear hK K g2)
                | (refine hK.out _ _ q1 ?_; intro _; clear hK K))))
            refine HW.end_ ?_
            refine NoPanic.normal ?_
            have t1 := s1 _ q1
            have t0 := s0 _ q1
            have hgl2 := Nat.lt_of_lt_of_le hgl q1.sz
            have fz2 := fun j => (q1.froz (o := j) hgl).trans (fz j)
            have HQ := Lib.hid q1
            clear s1 s0 q1 fz hgl
            go_wp2
            have hn1 : ¬ m1 = m := by have := HM1.out; omega
            have hn2 : ¬ m = m1 := by have := HM1.out; omega
            go_region
            go_wp2
            go_roundw
            case rel => exact ⟨m1, _, by go_num, by have := HM1.out; omega, by have := HM1.out; omega, HF.out, by rw [List.length_set, List.length_set]; exact HI.out.2.2.2, (((HI.out.1.nw HQ.out).set m y).set m1 x).nw (Nw.refl _).drew1, set2_all HI.out.2.1 hpx.out hpy.out, (((HI.out.2.2.1.trans (Tch.nw HQ.out)).st' rfl m _).st' rfl m1 _).drewN 1⟩
            case measure => have := HM1.out; simp [intOf]; omega
          · have dz : decide (z < 0) = false := by simpa using hz0
            have HF := Lib.hid (HKe.out hz0)
            clear HGo HKe hz0 c1 c0
            go_wp2
            refine region_told [some true, some true, some true, some true, some true, some true, some true, some true, some true, some true, some true, some true, some true, some true, some false, none, some true, some true] (Nw wr) (by kernel_rfl) (by kernel_rfl) (by kernel_rfl) q1 ?_
            rw [hwc] at q1 ⊢
            clear hwc
            repeat (first
              | (refine HW.off ?_)
              | (refine HW.take' ?_; (first | (refine ⟨undef, Or.inr ⟨by rfl, rfl⟩, ?_⟩) | (apply Exists.intro; refine ⟨Or.inl ⟨by rfl, ?_⟩, ?_⟩; (intro x hx; go_simp; first | done | with_reducible rfl))); (try simp only [Act.put, List.setIfInBounds_toArray, List.set_cons_zero, List.set_cons_succ]))
              | (refine HW.go (fun K hK => ?_); go_simp; (first
                | (go_at_fn gf; (with_reducible refine (HC.out _ q1).mono ?_); rintro e wy ⟨rfl, g2⟩; refine hK.out _ _ (q1.trans g2) ?_; intro _; replace q1 := q1.trans g2; clear hK K g2)
                | (refine hK.out _ _ q1 ?_; intro _; clear hK K))))
            refine HW.end_ ?_
            refine NoPanic.normal ?_
            have HQ := Lib.hid q1
            clear s1 s0 q1 fz hgl
            go_wp2
            go_roundw
            case rel => exact ⟨k + 1, L, by go_num, by omega, .inl (by omega), by rw [HF.out]; exact HS.out, HI.out.2.2.2, HI.out.1.nw HQ.out, HI.out.2.1, HI.out.2.2.1.trans (Tch.nw HQ.out)⟩
            case measure => simp [intOf]; omega
        · have dm : decide ((a : Int) < (m : Int)) = false := by rw [decide_eq_false_iff_not]; omega
          have HF := Lib.hid ((insF_stop (c := c) (L := L) hm).symm.trans hF)
          have HI := Lib.hid (And.intro hI (And.intro hPL (And.intro hTc hLn)))
          clear hI hPL hTc hLn hF
          go_wp2
          refine region_told [some true, some true, some true, some true, some true, some true, some true, some true, some true, some true, some true, some true, some true, some true, some false, none, some true, some true] (Nw wr) (by kernel_rfl) (by kernel_rfl) (by kernel_rfl) q1 ?_
          rw [hwc] at q1 ⊢
          clear hwc
          repeat (first
            | (refine HW.off ?_)
            | (refine HW.take' ?_; (first | (refine ⟨undef, Or.inr ⟨by rfl, rfl⟩, ?_⟩) | (apply Exists.intro; refine ⟨Or.inl ⟨by rfl, ?_⟩, ?_⟩; (intro x hx; go_simp; first | done | with_reducible rfl))); (try simp only [Act.put, List.setIfInBounds_toArray, List.set_cons_zero, List.set_cons_succ]))
            | (refine HW.go (fun K hK => ?_); go_simp; ((refine hK.out _ _ q1 ?_; intro _; clear hK K))))
          refine HW.end_ ?_
          refine NoPanic.normal ?_
          have HQ := Lib.hid q1
          clear q1 hgl
          go_wp2
          go_roundw
          case rel => exact ⟨k + 1, L, by go_num, by omega, .inl (by omega), by rw [HF.out]; exact HS.out, HI.out.2.2.2, HI.out.1.nw HQ.out, HI.out.2.1, HI.out.2.2.1.trans (Tch.nw HQ.out)⟩
          case measure => simp [intOf]; omega
    · have HF := Lib.hid (show L = R by rw [← hS, show b - k = 0 by omega]; rfl)
      have HI := Lib.hid (And.intro hI hTc)
      clear hS hI hTc hPL hLn
      go_wp2
      exact bodyPost_end (results_none rfl _ _ _) rfl ⟨rfl, by rw [← HF.out]; exact HI.out.1, HI.out.2⟩
end Go.Proofs.Ytmciiobncfchlaa
end

/- SortStableFunc of at most 20 ints; plain facts of the insertion sort. -/
section
namespace Go.Proofs.Ytmciiobncfchlaa
open Go.RowKit
set_option linter.unusedVariables false      -- a contract need not use every name

/-- Insert from behind. -/
def insL (c : Int → Int → Int) (v : Int) : List Int → List Int
  | [] => [v]
  | x :: r => if c v x < 0 then x :: insL c v r else v :: x :: r
def sortS (c : Int → Int → Int) (S : List Int) : List Int := (S.foldl (fun acc v => insL c v acc) []).reverse
theorem getD_at {P : List Int} (x : Int) (Q : List Int) {k : Nat} (h : P.length = k) : (P ++ x :: Q).getD k 0 = x := by subst h; simp [List.getD]
theorem set_at' {P : List Int} (x y : Int) (Q : List Int) {k : Nat} (h : P.length = k) : (P ++ x :: Q).set k y = P ++ y :: Q := by
  subst h
  rw [List.set_append_right _ _ (Nat.le_refl _), Nat.sub_self, List.set_cons_zero]
theorem insF_spec (c : Int → Int → Int) (v : Int) (P : List Int) (a : Nat) (hP : P.length = a) : ∀ (X Q : List Int), insF c a (a + X.length) (P ++ X.reverse ++ v :: Q) = P ++ (insL c v X).reverse ++ Q
  | [], Q => by
    rw [insF_stop (by simp)]
    simp [insL]
  | x :: X, Q => by
    have hl : (P ++ X.reverse).length = a + X.length := by simp [hP]
    have hl2 : (P ++ X.reverse ++ [x]).length = a + X.length + 1 := by simp [hP]; omega
    have e0 : P ++ (x :: X).reverse ++ v :: Q = (P ++ X.reverse) ++ x :: (v :: Q) := by simp
    have e1 : P ++ (x :: X).reverse ++ v :: Q = (P ++ X.reverse ++ [x]) ++ v :: Q := by simp
    have g1 : (P ++ (x :: X).reverse ++ v :: Q).getD (a + X.length + 1) 0 = v := by rw [e1]; exact getD_at v Q hl2
    have g0 : (P ++ (x :: X).reverse ++ v :: Q).getD (a + X.length) 0 = x := by rw [e0]; exact getD_at x _ hl
    rw [show a + (x :: X).length = a + X.length + 1 by simp; omega]
    unfold insL
    by_cases h : c v x < 0
    · rw [if_pos h, insF_go (by omega) (by rw [g1, g0]; exact h), g1, g0]
      have s1 : ((P ++ (x :: X).reverse ++ v :: Q).set (a + X.length + 1) x).set (a + X.length) v = P ++ X.reverse ++ v :: (x :: Q) := by
        rw [e1, set_at' v x Q hl2]
        have : P ++ X.reverse ++ [x] ++ x :: Q = (P ++ X.reverse) ++ x :: (x :: Q) := by simp
        rw [this, set_at' x v _ hl]
      rw [s1, insF_spec c v P a hP X (x :: Q)]
      simp
    · rw [if_neg h, insF_keep (by rw [g1, g0]; exact h)]
      simp
theorem srtF_spec (c : Int → Int → Int) (P : List Int) (a : Nat) (hP : P.length = a) : ∀ (S X Q : List Int), srtF c a S.length (a + X.length) (P ++ X.reverse ++ S ++ Q) = P ++ (S.foldl (fun acc v => insL c v acc) X).reverse ++ Q
  | [], X, Q => by simp [srtF]
  | v :: S, X, Q => by
    have hx : ∀ l : List Int, (insL c v l).length = l.length + 1 := by
      intro l
      induction l with
      | nil => rfl
      | cons x r ih => unfold insL; split <;> simp [ih]
    show srtF c a S.length (a + X.length + 1) (insF c a (a + X.length) (P ++ X.reverse ++ v :: S ++ Q)) = _
    have e : P ++ X.reverse ++ v :: S ++ Q = P ++ X.reverse ++ v :: (S ++ Q) := by simp
    rw [e, insF_spec c v P a hP X (S ++ Q)]
    have := srtF_spec c P a hP S (insL c v X) Q
    rw [hx X, show a + (X.length + 1) = a + X.length + 1 by omega] at this
    rw [show P ++ (insL c v X).reverse ++ (S ++ Q) = P ++ (insL c v X).reverse ++ S ++ Q by simp, this]
    rfl
/-- A part sorted, from a to b. -/
theorem srt_part (c : Int → Int → Int) (l : List Int) (a b : Nat) (hab : a ≤ b) (hb : b ≤ l.length) : srtF c a (b - (a + 1)) (a + 1) l = l.take a ++ sortS c ((l.drop a).take (b - a)) ++ l.drop b := by
  have hsp : l = l.take a ++ ((l.drop a).take (b - a) ++ l.drop b) := by
    have h1 : l.drop b = (l.drop a).drop (b - a) := by rw [List.drop_drop, show a + (b - a) = b by omega]
    rw [h1, List.take_append_drop, List.take_append_drop]
  obtain ⟨S, hS⟩ : ∃ S, (l.drop a).take (b - a) = S := ⟨_, rfl⟩
  have hSl : S.length = b - a := by rw [← hS]; simp; omega
  rw [hS] at hsp ⊢
  have hPl : (l.take a).length = a := by simp; omega
  generalize l.take a = P at *
  generalize l.drop b = Q at *
  subst hsp
  cases S with
  | nil =>
    have : b - (a + 1) = 0 := by simp at hSl; omega
    rw [this]
    simp [srtF, sortS]
  | cons v S =>
    have h1 : b - (a + 1) = S.length := by simp at hSl; omega
    rw [h1]
    have := srtF_spec c P a hPl S [v] Q
    rw [show P ++ [v].reverse ++ S ++ Q = P ++ (v :: S ++ Q) by simp] at this
    rw [show a + 1 = a + [v].length by rfl, this]
    rfl
theorem insL_perm (c : Int → Int → Int) (v : Int) : ∀ l : List Int, (insL c v l).Perm (v :: l)
  | [] => .refl _
  | x :: r => by
    unfold insL
    split
    · exact (List.Perm.cons x (insL_perm c v r)).trans (List.Perm.swap v x r)
    · exact .refl _
theorem fold_perm (c : Int → Int → Int) : ∀ (S X : List Int), (S.foldl (fun acc v => insL c v acc) X).Perm (X ++ S)
  | [], X => by simp
  | v :: S, X => by
    rw [List.foldl_cons]
    refine (fold_perm c S (insL c v X)).trans ?_
    refine ((insL_perm c v X).append_right S).trans ?_
    exact (List.perm_middle (l₁ := X) (a := v) (l₂ := S)).symm
theorem sortS_perm (c : Int → Int → Int) (S : List Int) : (sortS c S).Perm S := by
  unfold sortS
  exact (List.reverse_perm _).trans ((fold_perm c S []).trans (by simp))
/-- Sorted by a strict order on the members. -/
theorem insL_sorted (c : Int → Int → Int) (M : Int → Prop) (tr : ∀ x y z, M x → M y → M z → c x y < 0 → c y z < 0 → c x z < 0) (tot : ∀ x y, M x → M y → x ≠ y → c x y < 0 ∨ c y x < 0) (v : Int) (hv : M v) : ∀ l : List Int, (∀ x ∈ l, M x ∧ x ≠ v) → l.Pairwise (fun x y => c y x < 0) → (insL c v l).Pairwise (fun x y => c y x < 0)
  | [], _, _ => by simp [insL]
  | x :: r, h, hp => by
    have hx := h x (by simp)
    have hr : ∀ y ∈ r, M y ∧ y ≠ v := fun y hy => h y (List.mem_cons_of_mem _ hy)
    rw [List.pairwise_cons] at hp
    unfold insL
    split
    · rename_i hc
      rw [List.pairwise_cons]
      refine ⟨fun y hy => ?_, insL_sorted c M tr tot v hv r hr hp.2⟩
      rcases List.mem_cons.1 ((insL_perm c v r).mem_iff.1 hy) with rfl | hy
      · exact hc
      · exact hp.1 y hy
    · rename_i hc
      have hxv : c x v < 0 := (tot v x hv hx.1 (fun e => hx.2 e.symm)).resolve_left hc
      rw [List.pairwise_cons]
      refine ⟨fun y hy => ?_, by rw [List.pairwise_cons]; exact hp⟩
      rcases List.mem_cons.1 hy with rfl | hy
      · exact hxv
      · exact tr y x v (hr y hy).1 hx.1 hv (hp.1 y hy) hxv
theorem fold_sorted (c : Int → Int → Int) (M : Int → Prop) (tr : ∀ x y z, M x → M y → M z → c x y < 0 → c y z < 0 → c x z < 0) (tot : ∀ x y, M x → M y → x ≠ y → c x y < 0 ∨ c y x < 0) : ∀ (S X : List Int), (∀ x ∈ S, M x) → (∀ x ∈ X, M x) → (X ++ S).Nodup → X.Pairwise (fun x y => c y x < 0) → (S.foldl (fun acc v => insL c v acc) X).Pairwise (fun x y => c y x < 0)
  | [], X, _, _, _, h => h
  | v :: S, X, hS, hX, hn, h => by
    rw [List.foldl_cons]
    have hn' := List.nodup_append.1 hn
    refine fold_sorted c M tr tot S _ (fun x hx => hS x (List.mem_cons_of_mem _ hx)) (fun x hx => ?_) ?_ (insL_sorted c M tr tot v (hS v (by simp)) X (fun x hx => ⟨hX x hx, fun e => hn'.2.2 x hx v (by simp) e⟩) h)
    · rcases List.mem_cons.1 ((insL_perm c v X).mem_iff.1 hx) with rfl | hx
      · exact hS _ (by simp)
      · exact hX x hx
    · refine (((insL_perm c v X).append_right S).trans ?_).nodup_iff.2 hn
      exact (List.perm_middle (l₁ := X) (a := v) (l₂ := S)).symm
theorem sortS_sorted (c : Int → Int → Int) (M : Int → Prop) (tr : ∀ x y z, M x → M y → M z → c x y < 0 → c y z < 0 → c x z < 0) (tot : ∀ x y, M x → M y → x ≠ y → c x y < 0 ∨ c y x < 0) (S : List Int) (hS : ∀ x ∈ S, M x) (hn : S.Nodup) : (sortS c S).Pairwise (fun x y => c x y < 0) := by
  unfold sortS
  rw [List.pairwise_reverse]
  exact fold_sorted c M tr tot S [] hS (by simp) (by simpa using hn) .nil
theorem insSort_no (v f : Value) (n : Nat) (ao : Option Addr) (cap a b : Nat) (w : World) (hv : v = .slice ao n cap) (hab : b ≤ a) (ha : a ≤ 1000) (gf : Nat) (lb : Array Value) (hf : f = .func (.func gf) #[] lb) :
    Calls Try.prog 119 #[v, .int .i64 a, .int .i64 b, f] w fun e w' => e = .returned (.tuple #[]) ∧ w = w' := by
  subst hv hf
  have d : decide (((a : Int) + 1) < (b : Int)) = false := by rw [decide_eq_false_iff_not]; omega
  go_enter Try.func119, Try.ntmps119
  go_wp2
  refine wp_loop_rounds 1 ?_
  repeat (rw [rounds_succ]; go_wp2)
  exact bodyPost_end (results_none rfl _ _ _) rfl ⟨rfl, rfl⟩
set_option maxRecDepth 100000 in
set_option maxHeartbeats 4000000 in
theorem stable20 (f : Value) (c : Int → Int → Int) (P : Int → Prop) (v : Value) (l : List Int) (w : World) (gi : Nat) (hl : l.length ≤ 20) (h : IS w v l) (hP : ∀ x ∈ l, P x) (hf : Cmps w f gi c P) (hgi : ∀ g, v.ownBlock = some g → g = gi) :
    Calls Try.prog 112 #[v, .int .i64 l.length, f] w fun e w' => e = .returned (.tuple #[]) ∧ IS w' v (sortS c l) ∧ Tch (fun k => v.ownBlock = some k) w w' := by
  rcases h.form with ⟨rfl, rfl⟩ | ⟨g, cap, rfl⟩
  · obtain ⟨gf, lb, rfl, _⟩ := hf
    have HN := Lib.hid (insSort_no (.slice none 0 0) (.func (.func gf) #[] lb) 0 none 0 0 0 w rfl (Nat.le_refl _) (by omega) gf lb rfl)
    clear hP hgi hl
    have H := Lib.hid h
    clear h
    go_enter Try.func112, Try.ntmps112
    go_wp2
    refine wp_loop_rounds 1 ?_
    rw [rounds_succ]
    go_wp2_with (go_at_call 119; refine HN.out.mono ?_; rintro e w1 ⟨rfl, rfl⟩)
    refine wp_loop_rounds 1 ?_
    repeat (rw [rounds_succ]; go_wp2)
    exact bodyPost_end (results_none rfl _ _ _) rfl ⟨rfl, H.out, Tch.refl _ _⟩
  · obtain rfl := hgi g rfl
    by_cases hn : l.length = 20
    · have h1 := insSort f c P g cap l 0 20 w (by omega) (by omega) (by omega) h hP hf
      rw [srt_part c l 0 20 (by omega) (by omega)] at h1
      rw [show l.take 0 ++ sortS c ((l.drop 0).take (20 - 0)) ++ l.drop 20 = sortS c l by
        rw [List.take_zero, List.drop_zero, List.nil_append, List.drop_of_length_le (by omega), List.append_nil, show 20 - 0 = l.length by omega, List.take_length]] at h1
      obtain ⟨gf, lb, rfl, _⟩ := hf
      rw [hn] at h1 ⊢
      have HS := Lib.hid h1
      have HN := Lib.hid (fun w1 => insSort_no (.slice (some ⟨g, 0, none⟩) 20 cap) (.func (.func gf) #[] lb) 20 (some ⟨g, 0, none⟩) cap 20 20 w1 rfl (Nat.le_refl _) (by omega) gf lb rfl)
      clear h1 h hP hn hl hgi
      go_enter Try.func112, Try.ntmps112
      go_wp2
      refine wp_loop_rounds 2 ?_
      rw [rounds_succ]
      go_wp2_with (go_at_call 119; refine HS.out.mono ?_; rintro e w1 ⟨rfl, hI, hT⟩)
      have HI := Lib.hid (And.intro hI hT)
      clear hI hT
      rw [rounds_succ]
      go_wp2_with (go_at_call 119; refine (HN.out _).mono ?_; rintro e w2 ⟨rfl, rfl⟩)
      refine wp_loop_rounds 1 ?_
      repeat (rw [rounds_succ]; go_wp2)
      exact bodyPost_end (results_none rfl _ _ _) rfl ⟨rfl, HI.out.1, HI.out.2.mono fun i _ e => by rw [e]; rfl⟩
    · have h1 := insSort f c P g cap l 0 l.length w (by omega) (by omega) (Nat.le_refl _) h hP hf
      rw [srt_part c l 0 l.length (by omega) (Nat.le_refl _)] at h1
      rw [show l.take 0 ++ sortS c ((l.drop 0).take (l.length - 0)) ++ l.drop l.length = sortS c l by
        rw [List.take_zero, List.drop_zero, List.nil_append, List.drop_length, List.append_nil, Nat.sub_zero, List.take_length]] at h1
      obtain ⟨gf, lb, rfl, _⟩ := hf
      have d1 : decide ((20 : Int) ≤ (l.length : Int)) = false := by rw [decide_eq_false_iff_not]; omega
      have d2 : decide ((20 : Int) < (l.length : Int)) = false := by rw [decide_eq_false_iff_not]; omega
      have HS := Lib.hid h1
      clear h1 h hP hn hl hgi
      generalize l.length = n at *
      go_enter Try.func112, Try.ntmps112
      go_wp2
      refine wp_loop_rounds 1 ?_
      rw [rounds_succ]
      go_wp2_with (go_at_call 119; refine HS.out.mono ?_; rintro e w1 ⟨rfl, hI, hT⟩)
      have HI := Lib.hid (And.intro hI hT)
      clear hI hT
      refine wp_loop_rounds 1 ?_
      repeat (rw [rounds_succ]; go_wp2)
      exact bodyPost_end (results_none rfl _ _ _) rfl ⟨rfl, HI.out.1, HI.out.2.mono fun i _ e => by rw [e]; rfl⟩
theorem stableF20 (f : Value) (c : Int → Int → Int) (P : Int → Prop) (v : Value) (l : List Int) (w : World) (gi : Nat) (hl : l.length ≤ 20) (h : IS w v l) (hP : ∀ x ∈ l, P x) (hf : Cmps w f gi c P) (hgi : ∀ g, v.ownBlock = some g → g = gi) :
    Calls Try.prog 89 #[v, f] w fun e w' => e = .returned (.tuple #[]) ∧ IS w' v (sortS c l) ∧ Tch (fun k => v.ownBlock = some k) w w' := by
  have HS := Lib.hid (stable20 f c P v l w gi hl h hP hf hgi)
  obtain ⟨ao, cap, rfl, _⟩ := h.box
  obtain ⟨gf, lb, rfl, _⟩ := hf
  clear h hP hgi hl
  go_enter Try.func89, Try.ntmps89
  go_wp2_with (go_at_call 112; refine HS.out.mono ?_; rintro e w1 ⟨rfl, hI, hT⟩)
  exact bodyPost_end (results_none rfl _ _ _) rfl ⟨rfl, hI, hT⟩
end Go.Proofs.Ytmciiobncfchlaa
end

/- symMergeCmpFunc of ints on a row that stands in order already: nothing moves. -/
section
namespace Go.Proofs.Ytmciiobncfchlaa
open Go.RowKit
set_option linter.unusedVariables false      -- a contract need not use every name

/-- What is known of the row, of the comparison. -/
structure SmH (w : World) (gf : Nat) (lb : Array Value) (g n a b : Nat) (l : List Int) : Prop where
  eg : ∀ args w, (callFunc gf args).run Try.prog w = .ok (.enter gf args) w
  cell : ∀ i z, i < n → Nw w z → z.cell? ⟨g, i, none⟩ = some (.int .i64 (l.getD i 0))
  call : ∀ i j, a ≤ i → i < j → j < b → ∃ v : Int, decide (v < 0) = false ∧ ∀ z, Nw w z → Calls Try.prog gf (#[.int .i64 (l.getD j 0), .int .i64 (l.getD i 0)] ++ lb) z fun e w' => e = .returned (.int .i64 v) ∧ Nw z w'
theorem SmH.sub {w w' : World} {gf : Nat} {lb : Array Value} {g n a b a' b' : Nat} {l : List Int} (h : SmH w gf lb g n a b l) (ha : a ≤ a') (hb : b' ≤ b) (hN : Nw w w') : SmH w' gf lb g n a' b' l :=
  ⟨h.eg, fun i z hi hz => h.cell i z hi (hN.trans hz), fun i j h1 h2 h3 => by
    obtain ⟨v, dz, hc⟩ := h.call i j (by omega) h2 (by omega)
    exact ⟨v, dz, fun z hz => hc z (hN.trans hz)⟩⟩
theorem sum_nat (x y : Nat) (hx : x ≤ 2000) (hy : y ≤ 2000) : IntKind.i64.wrap ((x : Int) + (y : Int)) = ((x + y : Nat) : Int) := by rw [IntKind.wrap_i64]; omega
theorem sub_nat (x y z : Nat) (hx : x ≤ 4000) (hz : x = y + z) : IntKind.i64.wrap ((x : Int) - (y : Int)) = (z : Int) := by rw [IntKind.wrap_i64]; omega
theorem one_nat (x z : Nat) (hx : x ≤ 4000) (hz : x = z + 1) : IntKind.i64.wrap ((x : Int) - 1) = (z : Int) := by rw [IntKind.wrap_i64]; omega
theorem suc_nat (x z : Nat) (hx : x ≤ 4000) (hz : z = x + 1) : IntKind.i64.wrap ((x : Int) + 1) = (z : Int) := by rw [IntKind.wrap_i64]; omega
set_option maxRecDepth 100000 in
set_option maxHeartbeats 4000000 in
theorem symOne (gf : Nat) (lb : Array Value) (g cap n a m b : Nat) (l : List Int) (w : World) (hm : m = a + 1) (hab : m < b) (hb : b ≤ n) (hn : n ≤ 1000) (h : SmH w gf lb g n a b l) :
    Calls Try.prog 120 #[.slice (some ⟨g, 0, none⟩) n cap, .int .i64 a, .int .i64 m, .int .i64 b, .func (.func gf) #[] lb] w fun e w' => e = .returned (.tuple #[]) ∧ Nw w w' := by
  have eg := h.eg
  have H := Lib.hid h
  clear h
  have w1 : IntKind.i64.wrap ((m : Int) - (a : Int)) = 1 := sub_nat m a 1 (by omega) (by omega)
  have w3 : IntKind.i64.wrap ((m : Int) - 1) = (a : Int) := one_nat m a (by omega) (by omega)
  have HM := Lib.hid hm
  clear hm
  go_enter Try.func120, Try.ntmps120
  go_wp2
  go_loopw [10, 11] (fun i j wr => ∃ k : Nat, i = .int .i64 m ∧ j = .int .i64 k ∧ m ≤ k ∧ k ≤ b ∧ Nw w wr) (fun _ j _ => (intOf j).toNat)
  case atStart => exact ⟨b, rfl, rfl, by omega, Nat.le_refl _, Nw.refl _⟩
  case round =>
    obtain ⟨k, rfl, rfl, hmk, hkb, hN⟩ := hrel
    have ham : a < m := by have := HM.out; omega
    by_cases hlt : m < k
    · have w2 := sum_nat m k (by omega) (by omega)
      have dlt : decide ((m : Int) < (k : Int)) = true := by rw [decide_eq_true_iff]; omega
      obtain ⟨hf, hh⟩ : ∃ x : Nat, ((m : Int) + (k : Int)) / 2 = (x : Int) := ⟨(m + k) / 2, by omega⟩
      have hf1 : m ≤ hf := by omega
      have hf2 : hf < k := by omega
      go_wp2
      try rw [hh]
      obtain ⟨v, dz, hcall⟩ := H.out.call a hf (by omega) (by omega) (by omega)
      have hi1 : ((hf : Nat) : Int) < (n : Int) := by omega
      have hi0 : ((a : Nat) : Int) < (n : Int) := by omega
      have hkn1 : hf < n := by omega
      have hkn0 : a < n := by omega
      have HC := Lib.hid (fun (z : World) (hz : Nw wr z) => hcall z (hN.trans hz))
      have s1 : ∀ u, Nw wr u → u.cell? ⟨g, hf, none⟩ = some (.int .i64 (l.getD hf 0)) := fun u hu => H.out.cell _ u hkn1 (hN.trans hu)
      have s0 : ∀ u, Nw wr u → u.cell? ⟨g, a, none⟩ = some (.int .i64 (l.getD a 0)) := fun u hu => H.out.cell _ u hkn0 (hN.trans hu)
      have q1 := (Nw.refl wr).drew1
      obtain ⟨wc, hwc⟩ : ∃ wc, wr.drew = wc := ⟨_, rfl⟩
      have HNn := Lib.hid hN
      clear hcall hN
      generalize l.getD hf 0 = xx at *
      generalize l.getD a 0 = yy at *
      refine region_told [some true, some true, some true, some true, some true, some true, some true, some true, some true, some false, none, some true] (Nw wr) (by kernel_rfl) (by kernel_rfl) (by kernel_rfl) q1 ?_
      rw [hwc] at q1 ⊢
      clear hwc
      repeat (first
        | (refine HW.off ?_)
        | (refine HW.take' ?_; (first | (refine ⟨undef, Or.inr ⟨by rfl, rfl⟩, ?_⟩) | (apply Exists.intro; refine ⟨Or.inl ⟨by rfl, ?_⟩, ?_⟩; (intro x hx; go_simp; first | done | with_reducible rfl))); (try simp only [Act.put, List.setIfInBounds_toArray, List.set_cons_zero, List.set_cons_succ]))
        | (refine HW.go (fun K hK => ?_); go_simp; (first
          | (go_at_fn gf; (with_reducible refine (HC.out _ q1).mono ?_); rintro e wy ⟨rfl, g2⟩; refine hK.out _ _ (q1.trans g2) ?_; intro _; replace q1 := q1.trans g2; clear hK K g2)
          | (refine hK.out _ _ q1 ?_; intro _; clear hK K))))
      refine HW.end_ ?_
      refine NoPanic.normal ?_
      have HQ := Lib.hid q1
      clear s1 s0 q1
      go_wp2
      go_roundw
      case rel => exact ⟨hf, rfl, by go_num, hf1, by omega, HNn.out.trans HQ.out⟩
      case measure => simp [intOf]; omega
    · obtain rfl : k = m := by omega
      have HNn := Lib.hid hN
      clear hN
      go_wp2
      refine wp_loop_rounds 1 ?_
      repeat (rw [rounds_succ]; go_wp2)
      refine bodyPost_ret (v := .tuple #[]) (results_none rfl _ _ _) rfl ⟨rfl, HNn.out⟩
set_option maxRecDepth 100000 in
set_option maxHeartbeats 4000000 in
theorem symLast (gf : Nat) (lb : Array Value) (g cap n a m b : Nat) (l : List Int) (w : World) (hm : b = m + 1) (ham : a + 1 < m) (hb : b ≤ n) (hn : n ≤ 1000) (h : SmH w gf lb g n a b l) :
    Calls Try.prog 120 #[.slice (some ⟨g, 0, none⟩) n cap, .int .i64 a, .int .i64 m, .int .i64 b, .func (.func gf) #[] lb] w fun e w' => e = .returned (.tuple #[]) ∧ Nw w w' := by
  have eg := h.eg
  have H := Lib.hid h
  clear h
  obtain ⟨dd, hdd⟩ : ∃ x : Nat, m = a + x := ⟨m - a, by omega⟩
  have w1 : IntKind.i64.wrap ((m : Int) - (a : Int)) = dd := sub_nat m a dd (by omega) hdd
  have d1 : ((dd : Int) == 1) = false := by rw [beq_eq_false_iff_ne]; omega
  have d1' : ¬ dd = 1 := by omega
  have w3 : IntKind.i64.wrap ((b : Int) - (m : Int)) = 1 := sub_nat b m 1 (by omega) (by omega)
  have HM := Lib.hid (And.intro hm hdd)
  clear hm hdd
  go_enter Try.func120, Try.ntmps120
  go_wp2
  go_loopw [14, 15] (fun i j wr => ∃ k : Nat, i = .int .i64 k ∧ j = .int .i64 m ∧ a ≤ k ∧ k ≤ m ∧ Nw w wr) (fun i _ _ => m - (intOf i).toNat)
  case atStart => exact ⟨a, rfl, rfl, Nat.le_refl _, by omega, Nw.refl _⟩
  case round =>
    obtain ⟨k, rfl, rfl, hmk, hkb, hN⟩ := hrel
    have hmb : m < b := by have := HM.out.1; omega
    have ham : a < m := by omega
    by_cases hlt : k < m
    · have w2 := sum_nat k m (by omega) (by omega)
      have dlt : decide ((k : Int) < (m : Int)) = true := by rw [decide_eq_true_iff]; omega
      obtain ⟨hf, hh⟩ : ∃ x : Nat, ((k : Int) + (m : Int)) / 2 = (x : Int) := ⟨(k + m) / 2, by omega⟩
      have hf1 : k ≤ hf := by omega
      have hf2 : hf < m := by omega
      have w4 := suc_nat hf (hf + 1) (by omega) rfl
      go_wp2
      try rw [hh]
      obtain ⟨v, dz, hcall⟩ := H.out.call hf m (by omega) (by omega) (by omega)
      have hi1 : ((m : Nat) : Int) < (n : Int) := by omega
      have hi0 : ((hf : Nat) : Int) < (n : Int) := by omega
      have hkn1 : m < n := by omega
      have hkn0 : hf < n := by omega
      have HC := Lib.hid (fun (z : World) (hz : Nw wr z) => hcall z (hN.trans hz))
      have s1 : ∀ u, Nw wr u → u.cell? ⟨g, m, none⟩ = some (.int .i64 (l.getD m 0)) := fun u hu => H.out.cell _ u hkn1 (hN.trans hu)
      have s0 : ∀ u, Nw wr u → u.cell? ⟨g, hf, none⟩ = some (.int .i64 (l.getD hf 0)) := fun u hu => H.out.cell _ u hkn0 (hN.trans hu)
      have q1 := (Nw.refl wr).drew1
      obtain ⟨wc, hwc⟩ : ∃ wc, wr.drew = wc := ⟨_, rfl⟩
      have HNn := Lib.hid hN
      clear hcall hN
      generalize l.getD m 0 = xx at *
      generalize l.getD hf 0 = yy at *
      refine region_told [some true, some true, some true, some true, some true, some true, some true, some true, some true, some false, none, some true, some true] (Nw wr) (by kernel_rfl) (by kernel_rfl) (by kernel_rfl) q1 ?_
      rw [hwc] at q1 ⊢
      clear hwc
      repeat (first
        | (refine HW.off ?_)
        | (refine HW.take' ?_; (first | (refine ⟨undef, Or.inr ⟨by rfl, rfl⟩, ?_⟩) | (apply Exists.intro; refine ⟨Or.inl ⟨by rfl, ?_⟩, ?_⟩; (intro x hx; go_simp; first | done | with_reducible rfl))); (try simp only [Act.put, List.setIfInBounds_toArray, List.set_cons_zero, List.set_cons_succ]))
        | (refine HW.go (fun K hK => ?_); go_simp; (first
          | (go_at_fn gf; (with_reducible refine (HC.out _ q1).mono ?_); rintro e wy ⟨rfl, g2⟩; refine hK.out _ _ (q1.trans g2) ?_; intro _; replace q1 := q1.trans g2; clear hK K g2)
          | (refine hK.out _ _ q1 ?_; intro _; clear hK K))))
      refine HW.end_ ?_
      refine NoPanic.normal ?_
      have HQ := Lib.hid q1
      clear s1 s0 q1
      go_wp2
      go_roundw
      case rel => exact ⟨hf + 1, by go_num, rfl, by omega, by omega, HNn.out.trans HQ.out⟩
      case measure => simp [intOf]; omega
    · obtain rfl : k = m := by omega
      have HNn := Lib.hid hN
      clear hN
      go_wp2
      refine wp_loop_rounds 1 ?_
      repeat (rw [rounds_succ]; go_wp2)
      refine bodyPost_ret (v := .tuple #[]) (results_none rfl _ _ _) rfl ⟨rfl, HNn.out⟩
set_option maxRecDepth 100000 in
set_option maxHeartbeats 4000000 in
theorem symBig (gf : Nat) (lb : Array Value) (g cap n a m b mid : Nat) (l : List Int) (w : World) (hmid : mid = (a + b) / 2) (ham : a + 1 < m) (hmb : m + 1 < b) (hb : b ≤ n) (hn : n ≤ 1000) (hcase : mid < m) (h : SmH w gf lb g n a b l)
    (hrec : ∀ z, Nw w z → Calls Try.prog 120 #[.slice (some ⟨g, 0, none⟩) n cap, .int .i64 mid, .int .i64 m, .int .i64 b, .func (.func gf) #[] lb] z fun e w' => e = .returned (.tuple #[]) ∧ Nw z w') :
    Calls Try.prog 120 #[.slice (some ⟨g, 0, none⟩) n cap, .int .i64 a, .int .i64 m, .int .i64 b, .func (.func gf) #[] lb] w fun e w' => e = .returned (.tuple #[]) ∧ Nw w w' := by
  have eg := h.eg
  have H := Lib.hid h
  have HR := Lib.hid hrec
  clear h hrec
  obtain ⟨dd, hdd⟩ : ∃ x : Nat, m = a + x := ⟨m - a, by omega⟩
  obtain ⟨d2, hd2⟩ : ∃ x : Nat, b = m + x := ⟨b - m, by omega⟩
  have w1 : IntKind.i64.wrap ((m : Int) - (a : Int)) = dd := sub_nat m a dd (by omega) hdd
  have d1 : ((dd : Int) == 1) = false := by rw [beq_eq_false_iff_ne]; omega
  have d1' : ¬ dd = 1 := by omega
  have w3 : IntKind.i64.wrap ((b : Int) - (m : Int)) = d2 := sub_nat b m d2 (by omega) hd2
  have d3 : ((d2 : Int) == 1) = false := by rw [beq_eq_false_iff_ne]; omega
  have d3' : ¬ d2 = 1 := by omega
  have w4 := sum_nat a b (by omega) (by omega)
  have hh : ((a : Int) + (b : Int)) / 2 = (mid : Int) := by omega
  obtain ⟨nn, hnn⟩ : ∃ x : Nat, mid + m = x := ⟨_, rfl⟩
  have w5 : IntKind.i64.wrap ((mid : Int) + (m : Int)) = (nn : Int) := by rw [sum_nat mid m (by omega) (by omega), hnn]
  obtain ⟨pp, hpp⟩ : ∃ x : Nat, nn = x + 1 := ⟨nn - 1, by omega⟩
  have w6 : IntKind.i64.wrap ((nn : Int) - 1) = (pp : Int) := one_nat nn pp (by omega) hpp
  have dn : decide (mid < m) = true := by rw [decide_eq_true_iff]; omega
  have dm : decide ((mid : Int) < (m : Int)) = true := by rw [decide_eq_true_iff]; omega
  obtain ⟨st, hst⟩ : ∃ x : Nat, nn = b + x := ⟨nn - b, by omega⟩
  have w7 : IntKind.i64.wrap ((nn : Int) - (b : Int)) = (st : Int) := sub_nat nn b st (by omega) hst
  have HM := Lib.hid (show mid = (a + b) / 2 ∧ m = a + dd ∧ b = m + d2 ∧ mid + m = nn ∧ nn = pp + 1 ∧ nn = b + st from ⟨hmid, hdd, hd2, hnn, hpp, hst⟩)
  clear hmid hdd hd2 hnn hpp hst
  go_enter Try.func120, Try.ntmps120
  go_wp2
  go_loopw [20, 21] (fun i j wr => ∃ k : Nat, i = .int .i64 k ∧ j = .int .i64 mid ∧ st ≤ k ∧ k ≤ mid ∧ Nw w wr) (fun i _ _ => mid - (intOf i).toNat)
  case atStart => exact ⟨st, by go_num, rfl, Nat.le_refl _, by have := HM.out; omega, Nw.refl _⟩
  case round =>
    obtain ⟨k, rfl, rfl, hmk, hkb, hN⟩ := hrel
    obtain ⟨hmid, hdd, hd2, hnn, hpp, hst⟩ := HM.out
    by_cases hlt : k < mid
    · have w8 := sum_nat k mid (by omega) (by omega)
      have dlt : decide ((k : Int) < (mid : Int)) = true := by rw [decide_eq_true_iff]; omega
      obtain ⟨hf, hhf⟩ : ∃ x : Nat, ((k : Int) + (mid : Int)) / 2 = (x : Int) := ⟨(k + mid) / 2, by omega⟩
      have hf1 : k ≤ hf := by omega
      have hf2 : hf < mid := by omega
      obtain ⟨qq, hqq⟩ : ∃ x : Nat, pp = hf + x := ⟨pp - hf, by omega⟩
      have w9 : IntKind.i64.wrap ((pp : Int) - (hf : Int)) = (qq : Int) := sub_nat pp hf qq (by omega) hqq
      have wa := suc_nat hf (hf + 1) (by omega) rfl
      have o1 : hf < qq := by omega
      have o2 : qq < b := by omega
      have o3 : a ≤ hf := by omega
      have HO := Lib.hid (And.intro hmid (And.intro hqq hdd))
      clear hmid hdd hd2 hnn hpp hqq hst
      go_wp2
      try rw [hhf]
      obtain ⟨v, dz, hcall⟩ := H.out.call hf qq (by omega) (by omega) (by omega)
      have hi1 : ((qq : Nat) : Int) < (n : Int) := by omega
      have hi0 : ((hf : Nat) : Int) < (n : Int) := by omega
      have hkn1 : qq < n := by omega
      have hkn0 : hf < n := by omega
      have HC := Lib.hid (fun (z : World) (hz : Nw wr z) => hcall z (hN.trans hz))
      have s1 : ∀ u, Nw wr u → u.cell? ⟨g, qq, none⟩ = some (.int .i64 (l.getD qq 0)) := fun u hu => H.out.cell _ u hkn1 (hN.trans hu)
      have s0 : ∀ u, Nw wr u → u.cell? ⟨g, hf, none⟩ = some (.int .i64 (l.getD hf 0)) := fun u hu => H.out.cell _ u hkn0 (hN.trans hu)
      have q1 := (Nw.refl wr).drew1
      obtain ⟨wc, hwc⟩ : ∃ wc, wr.drew = wc := ⟨_, rfl⟩
      have HNn := Lib.hid hN
      clear hcall hN
      generalize l.getD qq 0 = xx at *
      generalize l.getD hf 0 = yy at *
      refine region_told [some true, some true, some true, some true, some true, some true, some true, some true, some true, some true, some true, some false, none, some true, some true] (Nw wr) (by kernel_rfl) (by kernel_rfl) (by kernel_rfl) q1 ?_
      rw [hwc] at q1 ⊢
      clear hwc
      repeat (first
        | (refine HW.off ?_)
        | (refine HW.take' ?_; (first | (refine ⟨undef, Or.inr ⟨by rfl, rfl⟩, ?_⟩) | (apply Exists.intro; refine ⟨Or.inl ⟨by rfl, ?_⟩, ?_⟩; (intro x hx; go_simp; first | done | with_reducible rfl))); (try simp only [Act.put, List.setIfInBounds_toArray, List.set_cons_zero, List.set_cons_succ]))
        | (refine HW.go (fun K hK => ?_); go_simp; (first
          | (go_at_fn gf; (with_reducible refine (HC.out _ q1).mono ?_); rintro e wy ⟨rfl, g2⟩; refine hK.out _ _ (q1.trans g2) ?_; intro _; replace q1 := q1.trans g2; clear hK K g2)
          | (refine hK.out _ _ q1 ?_; intro _; clear hK K))))
      refine HW.end_ ?_
      refine NoPanic.normal ?_
      have HQ := Lib.hid q1
      clear s1 s0 q1
      go_wp2
      go_roundw
      case rel => exact ⟨hf + 1, by go_num, rfl, by omega, by omega, HNn.out.trans HQ.out⟩
      case measure => simp [intOf]; omega
    · obtain rfl : k = mid := by omega
      have we : IntKind.i64.wrap ((nn : Int) - (k : Int)) = (m : Int) := sub_nat nn k m (by omega) (by omega)
      have e1 : decide ((a : Int) < (k : Int)) = true := by rw [decide_eq_true_iff]; omega
      have e2 : decide ((m : Int) < (b : Int)) = true := by rw [decide_eq_true_iff]; omega
      have HRz := Lib.hid (HR.out wr hN)
      have HNn := Lib.hid hN
      clear hN hmid hdd hd2 hnn hpp hst HR
      go_wp2_with (go_at_call 120; refine HRz.out.mono ?_; rintro e w2 ⟨rfl, g2⟩)
      exact bodyPost_end (results_none rfl _ _ _) rfl ⟨rfl, HNn.out.trans g2⟩
set_option maxRecDepth 100000 in
set_option maxHeartbeats 4000000 in
theorem symLow (gf : Nat) (lb : Array Value) (g cap n a m b mid : Nat) (l : List Int) (w : World) (hmid : mid = (a + b) / 2) (ham : a + 1 < m) (hmb : m + 1 < b) (hb : b ≤ n) (hn : n ≤ 1000) (hcase : m ≤ mid) (h : SmH w gf lb g n a b l)
    (hrec : ∀ z, Nw w z → m < mid → Calls Try.prog 120 #[.slice (some ⟨g, 0, none⟩) n cap, .int .i64 a, .int .i64 m, .int .i64 mid, .func (.func gf) #[] lb] z fun e w' => e = .returned (.tuple #[]) ∧ Nw z w') :
    Calls Try.prog 120 #[.slice (some ⟨g, 0, none⟩) n cap, .int .i64 a, .int .i64 m, .int .i64 b, .func (.func gf) #[] lb] w fun e w' => e = .returned (.tuple #[]) ∧ Nw w w' := by
  have eg := h.eg
  have H := Lib.hid h
  have HR := Lib.hid hrec
  clear h hrec
  obtain ⟨dd, hdd⟩ : ∃ x : Nat, m = a + x := ⟨m - a, by omega⟩
  obtain ⟨d2, hd2⟩ : ∃ x : Nat, b = m + x := ⟨b - m, by omega⟩
  have w1 : IntKind.i64.wrap ((m : Int) - (a : Int)) = dd := sub_nat m a dd (by omega) hdd
  have d1 : ((dd : Int) == 1) = false := by rw [beq_eq_false_iff_ne]; omega
  have d1' : ¬ dd = 1 := by omega
  have w3 : IntKind.i64.wrap ((b : Int) - (m : Int)) = d2 := sub_nat b m d2 (by omega) hd2
  have d3 : ((d2 : Int) == 1) = false := by rw [beq_eq_false_iff_ne]; omega
  have d3' : ¬ d2 = 1 := by omega
  have w4 := sum_nat a b (by omega) (by omega)
  have hh : ((a : Int) + (b : Int)) / 2 = (mid : Int) := by omega
  obtain ⟨nn, hnn⟩ : ∃ x : Nat, mid + m = x := ⟨_, rfl⟩
  have w5 : IntKind.i64.wrap ((mid : Int) + (m : Int)) = (nn : Int) := by rw [sum_nat mid m (by omega) (by omega), hnn]
  obtain ⟨pp, hpp⟩ : ∃ x : Nat, nn = x + 1 := ⟨nn - 1, by omega⟩
  have w6 : IntKind.i64.wrap ((nn : Int) - 1) = (pp : Int) := one_nat nn pp (by omega) hpp
  have dn : decide (mid < m) = false := by rw [decide_eq_false_iff_not]; omega
  have dm : decide ((mid : Int) < (m : Int)) = false := by rw [decide_eq_false_iff_not]; omega
  have HM := Lib.hid (show mid = (a + b) / 2 ∧ m = a + dd ∧ b = m + d2 ∧ mid + m = nn ∧ nn = pp + 1 from ⟨hmid, hdd, hd2, hnn, hpp⟩)
  clear hmid hdd hd2 hnn hpp
  go_enter Try.func120, Try.ntmps120
  go_wp2
  go_loopw [20, 21] (fun i j wr => ∃ k : Nat, i = .int .i64 k ∧ j = .int .i64 m ∧ a ≤ k ∧ k ≤ m ∧ Nw w wr) (fun i _ _ => m - (intOf i).toNat)
  case atStart => exact ⟨a, by go_num, rfl, Nat.le_refl _, by have := HM.out; omega, Nw.refl _⟩
  case round =>
    obtain ⟨k, rfl, rfl, hmk, hkb, hN⟩ := hrel
    obtain ⟨hmid, hdd, hd2, hnn, hpp⟩ := HM.out
    by_cases hlt : k < m
    · have w8 := sum_nat k m (by omega) (by omega)
      have dlt : decide ((k : Int) < (m : Int)) = true := by rw [decide_eq_true_iff]; omega
      obtain ⟨hf, hhf⟩ : ∃ x : Nat, ((k : Int) + (m : Int)) / 2 = (x : Int) := ⟨(k + m) / 2, by omega⟩
      have hf1 : k ≤ hf := by omega
      have hf2 : hf < m := by omega
      obtain ⟨qq, hqq⟩ : ∃ x : Nat, pp = hf + x := ⟨pp - hf, by omega⟩
      have w9 : IntKind.i64.wrap ((pp : Int) - (hf : Int)) = (qq : Int) := sub_nat pp hf qq (by omega) hqq
      have wa := suc_nat hf (hf + 1) (by omega) rfl
      have o1 : hf < qq := by omega
      have o2 : qq < b := by omega
      have o3 : a ≤ hf := by omega
      have HO := Lib.hid (And.intro hmid (And.intro hqq hdd))
      clear hmid hdd hd2 hnn hpp hqq
      go_wp2
      try rw [hhf]
      obtain ⟨v, dz, hcall⟩ := H.out.call hf qq (by omega) (by omega) (by omega)
      have hi1 : ((qq : Nat) : Int) < (n : Int) := by omega
      have hi0 : ((hf : Nat) : Int) < (n : Int) := by omega
      have hkn1 : qq < n := by omega
      have hkn0 : hf < n := by omega
      have HC := Lib.hid (fun (z : World) (hz : Nw wr z) => hcall z (hN.trans hz))
      have s1 : ∀ u, Nw wr u → u.cell? ⟨g, qq, none⟩ = some (.int .i64 (l.getD qq 0)) := fun u hu => H.out.cell _ u hkn1 (hN.trans hu)
      have s0 : ∀ u, Nw wr u → u.cell? ⟨g, hf, none⟩ = some (.int .i64 (l.getD hf 0)) := fun u hu => H.out.cell _ u hkn0 (hN.trans hu)
      have q1 := (Nw.refl wr).drew1
      obtain ⟨wc, hwc⟩ : ∃ wc, wr.drew = wc := ⟨_, rfl⟩
      have HNn := Lib.hid hN
      clear hcall hN
      generalize l.getD qq 0 = xx at *
      generalize l.getD hf 0 = yy at *
      refine region_told [some true, some true, some true, some true, some true, some true, some true, some true, some true, some true, some true, some false, none, some true, some true] (Nw wr) (by kernel_rfl) (by kernel_rfl) (by kernel_rfl) q1 ?_
      rw [hwc] at q1 ⊢
      clear hwc
      repeat (first
        | (refine HW.off ?_)
        | (refine HW.take' ?_; (first | (refine ⟨undef, Or.inr ⟨by rfl, rfl⟩, ?_⟩) | (apply Exists.intro; refine ⟨Or.inl ⟨by rfl, ?_⟩, ?_⟩; (intro x hx; go_simp; first | done | with_reducible rfl))); (try simp only [Act.put, List.setIfInBounds_toArray, List.set_cons_zero, List.set_cons_succ]))
        | (refine HW.go (fun K hK => ?_); go_simp; (first
          | (go_at_fn gf; (with_reducible refine (HC.out _ q1).mono ?_); rintro e wy ⟨rfl, g2⟩; refine hK.out _ _ (q1.trans g2) ?_; intro _; replace q1 := q1.trans g2; clear hK K g2)
          | (refine hK.out _ _ q1 ?_; intro _; clear hK K))))
      refine HW.end_ ?_
      refine NoPanic.normal ?_
      have HQ := Lib.hid q1
      clear s1 s0 q1
      go_wp2
      go_roundw
      case rel => exact ⟨hf + 1, by go_num, rfl, by omega, by omega, HNn.out.trans HQ.out⟩
      case measure => simp [intOf]; omega
    · obtain rfl : k = m := by omega
      have we : IntKind.i64.wrap ((nn : Int) - (k : Int)) = (mid : Int) := sub_nat nn k mid (by omega) (by omega)
      have e1 : decide ((a : Int) < (k : Int)) = true := by rw [decide_eq_true_iff]; omega
      by_cases hkm : k < mid
      · have e2 : decide ((k : Int) < (mid : Int)) = true := by rw [decide_eq_true_iff]; omega
        have HRz := Lib.hid (HR.out wr hN hkm)
        have HNn := Lib.hid hN
        clear hN hmid hdd hd2 hnn hpp HR
        go_wp2_with (go_at_call 120; refine HRz.out.mono ?_; rintro e w2 ⟨rfl, g2⟩)
        exact bodyPost_end (results_none rfl _ _ _) rfl ⟨rfl, HNn.out.trans g2⟩
      · have e2 : decide ((k : Int) < (mid : Int)) = false := by rw [decide_eq_false_iff_not]; omega
        have HNn := Lib.hid hN
        clear hN hmid hdd hd2 hnn hpp HR
        go_wp2
        exact bodyPost_end (results_none rfl _ _ _) rfl ⟨rfl, HNn.out⟩
theorem symMerge (gf : Nat) (lb : Array Value) (g cap n : Nat) (l : List Int) (hn : n ≤ 1000) : ∀ (k a m b : Nat) (w : World), b - a ≤ k → a < m → m < b → b ≤ n → SmH w gf lb g n a b l →
    Calls Try.prog 120 #[.slice (some ⟨g, 0, none⟩) n cap, .int .i64 a, .int .i64 m, .int .i64 b, .func (.func gf) #[] lb] w fun e w' => e = .returned (.tuple #[]) ∧ Nw w w'
  | 0, a, m, b, w, hk, h1, h2, _, _ => by omega
  | k + 1, a, m, b, w, hk, h1, h2, h3, h => by
    by_cases c1 : m = a + 1
    · exact symOne gf lb g cap n a m b l w c1 h2 h3 hn h
    by_cases c2 : b = m + 1
    · exact symLast gf lb g cap n a m b l w c2 (by omega) h3 hn h
    by_cases c3 : (a + b) / 2 < m
    · exact symBig gf lb g cap n a m b _ l w rfl (by omega) (by omega) h3 hn c3 h fun z hz => symMerge gf lb g cap n l hn k _ m b z (by omega) c3 h2 h3 (h.sub (by omega) (Nat.le_refl _) hz)
    · exact symLow gf lb g cap n a m b _ l w rfl (by omega) (by omega) h3 hn (by omega) h fun z hz hm => symMerge gf lb g cap n l hn k a m _ z (by omega) h1 hm (by omega) (h.sub (Nat.le_refl a) (by omega) hz)
end Go.Proofs.Ytmciiobncfchlaa
end

/- SortStableFunc as far as it is wanted: what it makes of a list, and when: at most 20; or at most 40, where the two parts sorted stand in order. -/
section
namespace Go.Proofs.Ytmciiobncfchlaa
open Go.RowKit
set_option linter.unusedVariables false      -- a contract need not use every name

def StOk (c : Int → Int → Int) (l : List Int) : Prop := l.length ≤ 20 ∨ (l.length ≤ 40 ∧ (sortS c (l.take 20) ++ sortS c (l.drop 20)).Pairwise fun x y => c x y < 0 ∧ ¬ c y x < 0)
def stR (c : Int → Int → Int) (l : List Int) : List Int := if l.length ≤ 20 then sortS c l else sortS c (l.take 20) ++ sortS c (l.drop 20)
theorem stOk_20 (c : Int → Int → Int) (l : List Int) (h : l.length ≤ 20) : StOk c l := .inl h
theorem stR_perm (c : Int → Int → Int) (l : List Int) : (stR c l).Perm l := by
  unfold stR
  split
  · exact sortS_perm c l
  · have := (sortS_perm c (l.take 20)).append (sortS_perm c (l.drop 20))
    rwa [List.take_append_drop] at this
theorem stR_sorted (c : Int → Int → Int) (M : Int → Prop) (tr : ∀ x y z, M x → M y → M z → c x y < 0 → c y z < 0 → c x z < 0) (tot : ∀ x y, M x → M y → x ≠ y → c x y < 0 ∨ c y x < 0) (S : List Int) (hS : ∀ x ∈ S, M x) (hn : S.Nodup) (h : StOk c S) : (stR c S).Pairwise (fun x y => c x y < 0) := by
  unfold stR
  split
  · exact sortS_sorted c M tr tot S hS hn
  · rcases h with h | ⟨_, h⟩
    · exact absurd h (by assumption)
    · exact h.imp fun h => h.1
theorem Cmps.later {w w1 : World} {f : Value} {gi : Nat} {c : Int → Int → Int} {P : Int → Prop} (h : Cmps w f gi c P) (hT : Tch (fun k => k = gi) w w1) : Cmps w1 f gi c P := by
  obtain ⟨g, lb, e, eg, hc⟩ := h
  exact ⟨g, lb, e, eg, fun x y w2 hx hy h2 => hc x y w2 hx hy (hT.trans h2)⟩
theorem sortS_len (c : Int → Int → Int) (S : List Int) : (sortS c S).length = S.length := (sortS_perm c S).length_eq
theorem pw_at {R : Int → Int → Prop} {l : List Int} (h : l.Pairwise R) {i j : Nat} (hij : i < j) (hj : j < l.length) : R (l.getD i 0) (l.getD j 0) := by
  have := List.pairwise_iff_getElem.1 h i j (by omega) hj hij
  simpa [List.getD, hj, Nat.lt_trans hij hj] using this
theorem getD_mem {l : List Int} {j : Nat} (h : j < l.length) : l.getD j 0 ∈ l := by
  have : l.getD j 0 = l[j] := by simp [List.getD, h]
  rw [this]
  exact List.getElem_mem h
set_option maxRecDepth 100000 in
set_option maxHeartbeats 4000000 in
theorem stable40 (f : Value) (c : Int → Int → Int) (P : Int → Prop) (v : Value) (l : List Int) (w : World) (gi : Nat) (h20 : 20 < l.length) (h40 : l.length ≤ 40) (hs : (sortS c (l.take 20) ++ sortS c (l.drop 20)).Pairwise fun x y => c x y < 0 ∧ ¬ c y x < 0) (h : IS w v l) (hP : ∀ x ∈ l, P x) (hf : Cmps w f gi c P) (hgi : ∀ g, v.ownBlock = some g → g = gi) :
    Calls Try.prog 112 #[v, .int .i64 l.length, f] w fun e w' => e = .returned (.tuple #[]) ∧ IS w' v (sortS c (l.take 20) ++ sortS c (l.drop 20)) ∧ Tch (fun k => v.ownBlock = some k) w w' := by
  rcases h.form with ⟨rfl, rfl⟩ | ⟨g, cap, rfl⟩
  · simp at h20
  · obtain rfl := hgi g rfl
    have h1 := insSort f c P g cap l 0 20 w (by omega) (by omega) (by omega) h hP hf
    rw [srt_part c l 0 20 (by omega) (by omega)] at h1
    rw [show l.take 0 ++ sortS c ((l.drop 0).take (20 - 0)) ++ l.drop 20 = sortS c (l.take 20) ++ l.drop 20 by rw [List.take_zero, List.drop_zero, List.nil_append]] at h1
    have hA : (sortS c (l.take 20)).length = 20 := by rw [sortS_len, List.length_take]; omega
    have hPA : ∀ x ∈ sortS c (l.take 20) ++ l.drop 20, P x := fun x hx => by
      rcases List.mem_append.1 hx with hx | hx
      · exact hP x (List.mem_of_mem_take ((sortS_perm c _).mem_iff.1 hx))
      · exact hP x (List.mem_of_mem_drop hx)
    have hB : (l.drop 20).length = l.length - 20 := List.length_drop
    have hPB : ∀ x ∈ sortS c (l.take 20) ++ sortS c (l.drop 20), P x := fun x hx => by
      rcases List.mem_append.1 hx with hx | hx
      · exact hPA x (List.mem_append_left _ hx)
      · exact hPA x (List.mem_append_right _ ((sortS_perm c _).mem_iff.1 hx))
    have hBl := sortS_len c (l.drop 20)
    obtain ⟨n, hn⟩ : ∃ n, l.length = n := ⟨_, rfl⟩
    rw [hn] at h20 h40 h1 hB ⊢
    clear h hP hgi hn
    generalize sortS c (l.take 20) = A at *
    generalize l.drop 20 = B at *
    have h2 : ∀ w1, Tch (fun k => k = g) w w1 → IS w1 (.slice (some ⟨g, 0, none⟩) n cap) (A ++ B) → Calls Try.prog 119 #[.slice (some ⟨g, 0, none⟩) n cap, .int .i64 20, .int .i64 n, f] w1 fun e w' => e = .returned (.tuple #[]) ∧ IS w' (.slice (some ⟨g, 0, none⟩) n cap) (A ++ sortS c B) ∧ Tch (fun k => k = g) w1 w' := by
      intro w1 hT hI
      have hAB : (A ++ B).length = n := by rw [List.length_append, hA, hB]; omega
      have q := insSort f c P g cap (A ++ B) 20 n w1 (by omega) (by omega) (by omega) (by rw [hAB]; exact hI) hPA (hf.later hT)
      rw [srt_part c (A ++ B) 20 n (by omega) (by omega), hAB] at q
      rw [show (A ++ B).take 20 = A by rw [List.take_append_of_le_length (by omega), List.take_of_length_le (by omega)], show (A ++ B).drop 20 = B by rw [List.drop_append_of_le_length (by omega), List.drop_of_length_le (by omega), List.nil_append], List.take_of_length_le (by omega), show (A ++ B).drop n = [] from List.drop_of_length_le (by omega), List.append_nil] at q
      exact q
    obtain ⟨gf, lb, rfl, eg, hc⟩ := hf
    have h3 : ∀ w2, Tch (fun k => k = g) w w2 → IS w2 (.slice (some ⟨g, 0, none⟩) n cap) (A ++ sortS c B) → Calls Try.prog 120 #[.slice (some ⟨g, 0, none⟩) n cap, .int .i64 ((0 : Nat) : Int), .int .i64 ((20 : Nat) : Int), .int .i64 n, .func (.func gf) #[] lb] w2 fun e w' => e = .returned (.tuple #[]) ∧ Nw w2 w' := by
      intro w2 hT hI
      have hl2 : (A ++ sortS c B).length = n := by rw [List.length_append, hA, hBl, hB]; omega
      refine symMerge gf lb g cap n (A ++ sortS c B) (by omega) n 0 20 n w2 (by omega) (by omega) (by omega) (Nat.le_refl _) ⟨eg, fun i z hi hz => hz.kp (hI.cell i (by omega)), fun i j _ hij hj => ⟨_, ?_, fun z hz => hc _ _ z (hPB _ ?_) (hPB _ ?_) (hT.trans (Tch.nw hz))⟩⟩
      · rw [decide_eq_false_iff_not]
        exact (pw_at hs hij (by omega)).2
      · exact getD_mem (by omega)
      · exact getD_mem (by omega)
    generalize sortS c B = B' at *
    have H1 := Lib.hid h1
    have H2 := Lib.hid h2
    have H3 := Lib.hid h3
    have HN := Lib.hid (fun w1 => insSort_no (.slice (some ⟨g, 0, none⟩) 40 cap) (.func (.func gf) #[] lb) 40 (some ⟨g, 0, none⟩) cap 40 40 w1 rfl (Nat.le_refl _) (by omega) gf lb rfl)
    clear h1 h2 h3 hc hs hPA hPB hA hB hBl
    by_cases hn : n = 40
    · subst hn
      clear h20 h40
      go_enter Try.func112, Try.ntmps112
      go_wp2
      refine wp_loop_rounds 3 ?_
      rw [rounds_succ]
      go_wp2_with (go_at_call 119; refine H1.out.mono ?_; rintro e w1 ⟨rfl, hI, hT⟩)
      have HA := Lib.hid (H2.out _ hT hI)
      have HT := Lib.hid hT
      clear hI hT
      rw [rounds_succ]
      go_wp2_with (go_at_call 119; refine HA.out.mono ?_; rintro e w2 ⟨rfl, hI, hT⟩)
      have HB := Lib.hid (And.intro hI (HT.out.trans hT))
      have HM := Lib.hid (H3.out _ HB.out.2 HB.out.1)
      clear hI hT
      rw [rounds_succ]
      go_wp2_with (go_at_call 119; refine (HN.out _).mono ?_; rintro e w3 ⟨rfl, rfl⟩)
      refine wp_loop_rounds 2 ?_
      rw [rounds_succ]
      go_wp2
      refine wp_loop_rounds 2 ?_
      rw [rounds_succ]
      go_wp2_with (go_at_call 120; refine HM.out.mono ?_; rintro e w4 ⟨rfl, g4⟩)
      have HG := Lib.hid g4
      clear g4
      rw [rounds_succ]
      go_wp2
      rw [rounds_succ]
      go_wp2
      exact bodyPost_end (results_none rfl _ _ _) rfl ⟨rfl, HB.out.1.nw HG.out, (HB.out.2.trans (Tch.nw HG.out)).mono fun i _ e => by rw [e]; rfl⟩
    · have d1 : decide ((20 : Int) ≤ (n : Int)) = true := by rw [decide_eq_true_iff]; omega
      have d2 : decide ((40 : Int) ≤ (n : Int)) = false := by rw [decide_eq_false_iff_not]; omega
      have d3 : decide ((20 : Int) < (n : Int)) = true := by rw [decide_eq_true_iff]; omega
      have d4 : decide ((40 : Int) < (n : Int)) = false := by rw [decide_eq_false_iff_not]; omega
      have d1' : decide (20 ≤ n) = true := by rw [decide_eq_true_iff]; omega
      have d2' : decide (40 ≤ n) = false := by rw [decide_eq_false_iff_not]; omega
      have d3' : decide (20 < n) = true := by rw [decide_eq_true_iff]; omega
      have d4' : decide (40 < n) = false := by rw [decide_eq_false_iff_not]; omega
      clear h20 h40 hn
      go_enter Try.func112, Try.ntmps112
      go_wp2
      refine wp_loop_rounds 2 ?_
      rw [rounds_succ]
      go_wp2_with (go_at_call 119; refine H1.out.mono ?_; rintro e w1 ⟨rfl, hI, hT⟩)
      have HA := Lib.hid (H2.out _ hT hI)
      have HT := Lib.hid hT
      clear hI hT
      rw [rounds_succ]
      go_wp2_with (go_at_call 119; refine HA.out.mono ?_; rintro e w2 ⟨rfl, hI, hT⟩)
      have HB := Lib.hid (And.intro hI (HT.out.trans hT))
      have HM := Lib.hid (H3.out _ HB.out.2 HB.out.1)
      clear hI hT
      refine wp_loop_rounds 2 ?_
      rw [rounds_succ]
      go_wp2
      refine wp_loop_rounds 1 ?_
      rw [rounds_succ]
      go_wp2_with (go_at_call 120; refine HM.out.mono ?_; rintro e w4 ⟨rfl, g4⟩)
      have HG := Lib.hid g4
      clear g4
      rw [rounds_succ]
      go_wp2
      exact bodyPost_end (results_none rfl _ _ _) rfl ⟨rfl, HB.out.1.nw HG.out, (HB.out.2.trans (Tch.nw HG.out)).mono fun i _ e => by rw [e]; rfl⟩
theorem dStable (f : Value) (c : Int → Int → Int) (P : Int → Prop) (v : Value) (l : List Int) (w : World) (gi : Nat) (hl : StOk c l) (h : IS w v l) (hP : ∀ x ∈ l, P x) (hf : Cmps w f gi c P) (hgi : ∀ g, v.ownBlock = some g → g = gi) :
    Calls Try.prog 89 #[v, f] w fun e w' => e = .returned (.tuple #[]) ∧ IS w' v (stR c l) ∧ Tch (fun k => v.ownBlock = some k) w w' := by
  by_cases h20 : l.length ≤ 20
  · unfold stR
    rw [if_pos h20]
    exact stableF20 f c P v l w gi h20 h hP hf hgi
  · obtain ⟨h40, hs⟩ := hl.resolve_left h20
    have HS := Lib.hid (stable40 f c P v l w gi (by omega) h40 hs h hP hf hgi)
    unfold stR
    rw [if_neg h20]
    obtain ⟨ao, cap, rfl, _⟩ := h.box
    obtain ⟨gf, lb, rfl, _⟩ := hf
    clear h hP hgi hl hs h20 h40
    go_enter Try.func89, Try.ntmps89
    go_wp2_with (go_at_call 112; refine HS.out.mono ?_; rintro e w1 ⟨rfl, hI, hT⟩)
    exact bodyPost_end (results_none rfl _ _ _) rfl ⟨rfl, hI, hT⟩
end Go.Proofs.Ytmciiobncfchlaa
end
