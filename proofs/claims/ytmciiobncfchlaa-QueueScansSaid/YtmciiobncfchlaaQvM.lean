
/- insertionSortCmpFunc of ints, with any function value that compares and makes at most new blocks. -/
import Derived.Test.YtmciiobncfchlaaQvC
import Derived.Test.YtmciiobncfchlaaInts
namespace Go.Proofs.Ytmciiobncfchlaa
open Go.RowKit
set_option linter.unusedVariables false      -- a contract need not use every name

/-- A function value that compares two numbers that meet a condition, whatever is done to block gi. -/
def Cmps (w : World) (f : Value) (gi : Nat) (c : Int → Int → Int) (P : Int → Prop) : Prop := ∃ (g : Nat) (lb : Array Value), f = .func (.func g) #[] lb ∧ (∀ args w, (callFunc g args).run Try.prog w = .ok (.enter g args) w) ∧
  ∀ (x y : Int) (w1 : World), P x → P y → Tch (fun k => k = gi) w w1 → Calls Try.prog g (#[.int .i64 x, .int .i64 y] ++ lb) w1 fun e w' => e = .returned (.int .i64 (c x y)) ∧ Nw w1 w'
def insF (c : Int → Int → Int) (a : Nat) : Nat → List Int → List Int
  | 0, L => L
  | j + 1, L => if a < j + 1 ∧ c (L.getD (j + 1) 0) (L.getD j 0) < 0 then insF c a j ((L.set (j + 1) (L.getD j 0)).set j (L.getD (j + 1) 0)) else L
def srtF (c : Int → Int → Int) (a : Nat) : Nat → Nat → List Int → List Int
  | 0, _, L => L
  | n + 1, i, L => srtF c a n (i + 1) (insF c a i L)
theorem insF_len (c : Int → Int → Int) (a : Nat) : ∀ (j : Nat) (L : List Int), (insF c a j L).length = L.length
  | 0, _ => rfl
  | j + 1, L => by
    unfold insF
    split
    · rw [insF_len c a j]; simp
    · rfl
theorem insF_all (c : Int → Int → Int) (a : Nat) (P : Int → Prop) : ∀ (j : Nat) (L : List Int), j < L.length → (∀ x ∈ L, P x) → ∀ x ∈ insF c a j L, P x
  | 0, _, _, h => h
  | j + 1, L, hj, h => by
    unfold insF
    split
    · refine insF_all c a P j _ (by simp; omega) fun x hx => ?_
      have g1 : ∀ i, i < L.length → P (L.getD i 0) := fun i hi => by
        have : L.getD i 0 = L[i] := by simp [List.getD, hi]
        rw [this]; exact h _ (List.getElem_mem hi)
      rcases List.mem_or_eq_of_mem_set hx with hx | rfl
      · rcases List.mem_or_eq_of_mem_set hx with hx | rfl
        · exact h x hx
        · exact g1 j (by omega)
      · exact g1 (j + 1) hj
    · exact h
theorem insF_stop {c : Int → Int → Int} {a j : Nat} {L : List Int} (h : ¬ a < j) : insF c a j L = L := by
  cases j with
  | zero => rfl
  | succ j => unfold insF; rw [if_neg (fun e => h e.1)]
theorem insF_keep {c : Int → Int → Int} {a j : Nat} {L : List Int} (h : ¬ c (L.getD (j + 1) 0) (L.getD j 0) < 0) : insF c a (j + 1) L = L := by
  unfold insF; rw [if_neg (fun e => h e.2)]
theorem insF_go {c : Int → Int → Int} {a j : Nat} {L : List Int} (h1 : a < j + 1) (h : c (L.getD (j + 1) 0) (L.getD j 0) < 0) : insF c a (j + 1) L = insF c a j ((L.set (j + 1) (L.getD j 0)).set j (L.getD (j + 1) 0)) := by
  conv => lhs; unfold insF
  rw [if_pos ⟨h1, h⟩]
theorem set2_all {P : Int → Prop} {L : List Int} (h : ∀ x ∈ L, P x) {x y : Int} (hx : P x) (hy : P y) {m m1 : Nat} : ∀ z ∈ (L.set m y).set m1 x, P z := by
  intro z hz
  rcases List.mem_or_eq_of_mem_set hz with hz | rfl
  · rcases List.mem_or_eq_of_mem_set hz with hz | rfl
    · exact h z hz
    · exact hy
  · exact hx
theorem Tch.st' {S : Nat → Prop} {a b : World} (h : Tch S a b) {p : Nat} (hp : S p) (j : Nat) (u : Value) : Tch S a (b.setCell ⟨p, j, none⟩ u) := h.set (p := ⟨p, j, none⟩) (.inl hp) u
set_option maxRecDepth 100000 in
set_option maxHeartbeats 4000000 in
theorem insSort (f : Value) (c : Int → Int → Int) (P : Int → Prop) (g cap : Nat) (l : List Int) (a b : Nat) (w : World) (hl : l.length ≤ 1000) (hab : a ≤ b) (hb : b ≤ l.length) (h : IS w (.slice (some ⟨g, 0, none⟩) l.length cap) l) (hP : ∀ x ∈ l, P x) (hf : Cmps w f g c P) :
    Calls Try.prog 119 #[.slice (some ⟨g, 0, none⟩) l.length cap, .int .i64 a, .int .i64 b, f] w fun e w' => e = .returned (.tuple #[]) ∧ IS w' (.slice (some ⟨g, 0, none⟩) l.length cap) (srtF c a (b - (a + 1)) (a + 1) l) ∧ Tch (fun k => k = g) w w' := by
  obtain ⟨gf, lb, rfl, eg, hT⟩ := hf
  have HT := Lib.hid hT
  have H := Lib.hid (And.intro h hP)
  obtain ⟨n, hn⟩ : ∃ n, l.length = n := ⟨_, rfl⟩
  rw [hn] at hl hb H ⊢
  obtain ⟨R, hR⟩ : ∃ R, srtF c a (b - (a + 1)) (a + 1) l = R := ⟨_, rfl⟩
  rw [hR]
  have HR := Lib.hid (And.intro hR hn)
  clear hT h hP hR hn
  go_enter Try.func119, Try.ntmps119
  go_wp2
  go_loopw [8] (fun i wr => ∃ (k : Nat) (L : List Int), i = .int .i64 k ∧ a < k ∧ (k ≤ b ∨ k = a + 1) ∧ srtF c a (b - k) k L = R ∧ L.length = n ∧ IS wr (.slice (some ⟨g, 0, none⟩) n cap) L ∧ (∀ x ∈ L, P x) ∧ Tch (fun k => k = g) w wr) (fun i _ => b - (intOf i).toNat)
  case atStart => exact ⟨a + 1, l, by go_num, by omega, .inr rfl, HR.out.1, HR.out.2, H.out.1, H.out.2, Tch.refl _ _⟩
  case round =>
    obtain ⟨k, L, rfl, hak, hkb, hS, hLn, hI, hPL, hTc⟩ := hrel
    by_cases hlt : k < b
    · have hS2 : srtF c a (b - (k + 1)) (k + 1) (insF c a k L) = R := by
        rw [show b - k = (b - (k + 1)) + 1 by omega] at hS
        exact hS
      obtain ⟨M, hM⟩ : ∃ M, insF c a k L = M := ⟨_, rfl⟩
      rw [hM] at hS2
      have HM := Lib.hid (And.intro hM (And.intro hI (And.intro hPL (And.intro hTc hLn))))
      have HS := Lib.hid hS2
      clear hS hS2 hM hI hPL hTc hLn
      go_wp2
      go_loopw [9] (fun j wr => ∃ (m : Nat) (L : List Int), j = .int .i64 m ∧ a ≤ m ∧ m ≤ k ∧ insF c a m L = M ∧ L.length = n ∧ IS wr (.slice (some ⟨g, 0, none⟩) n cap) L ∧ (∀ x ∈ L, P x) ∧ Tch (fun k => k = g) w wr) (fun j _ => (intOf j).toNat)
      case atStart => exact ⟨k, L, rfl, by omega, Nat.le_refl _, HM.out.1, HM.out.2.2.2.2, HM.out.2.1, HM.out.2.2.1, HM.out.2.2.2.1⟩
      case round =>
        obtain ⟨m, L, rfl, ham, hmk, hF, hLn, hI, hPL, hTc⟩ := hrel
        have q1 := (Nw.refl wr).drew1
        obtain ⟨wc, hwc⟩ : ∃ wc, wr.drew = wc := ⟨_, rfl⟩
        have hgl := hI.glt
        by_cases hm : a < m
        · obtain ⟨m1, hm1⟩ : ∃ m1, m = m1 + 1 := ⟨m - 1, by omega⟩
          have dm : decide ((a : Int) < (m : Int)) = true := by rw [decide_eq_true_iff]; omega
          have c1 := hI.cell m (by omega)
          have c0 := hI.cell m1 (by omega)
          have px : P (L.getD m 0) := by
            rw [show L.getD m 0 = L[m]'(by omega) by simp [List.getD, show m < L.length by omega]]
            exact hPL _ (List.getElem_mem _)
          have py : P (L.getD m1 0) := by
            rw [show L.getD m1 0 = L[m1]'(by omega) by simp [List.getD, show m1 < L.length by omega]]
            exact hPL _ (List.getElem_mem _)
          have HC := Lib.hid (fun (w1 : World) (hN : Nw wr w1) => HT.out _ _ w1 px py (hTc.trans (Tch.nw hN)))
          have hw1 : IntKind.i64.wrap ((m : Int) - 1) = (m1 : Int) := by rw [IntKind.wrap_i64]; omega
          have hi1 : (m : Int) < (n : Int) := by omega
          have hi0 : (m1 : Int) < (n : Int) := by omega
          have hkn1 : m < n := by omega
          have hkn0 : m1 < n := by omega
          have HGo : Hid (c (L.getD m 0) (L.getD m1 0) < 0 → insF c a m1 ((L.set m (L.getD m1 0)).set m1 (L.getD m 0)) = M) := Lib.hid (by subst hm1; exact fun e => (insF_go (L := L) hm e).symm.trans hF)
          have HKe : Hid (¬ c (L.getD m 0) (L.getD m1 0) < 0 → L = M) := Lib.hid (by subst hm1; exact fun e => (insF_keep (a := a) (L := L) e).symm.trans hF)
          have HM1 := Lib.hid hm1
          clear hm1
          have fz := fun j => hI.frozen j
          have HI := Lib.hid (And.intro hI (And.intro hPL (And.intro hTc hLn)))
          have hpx := Lib.hid px
          have hpy := Lib.hid py
          clear px py hI hPL hTc hF hLn
          generalize hxe : L.getD m 0 = x at *
          generalize hye : L.getD m1 0 = y at *
          obtain ⟨z, hz⟩ : ∃ z, c x y = z := ⟨_, rfl⟩
          rw [hz] at HC HGo HKe
          clear hz hxe hye
          have s1 : ∀ u, Nw wr u → u.cell? ⟨g, m, none⟩ = some (.int .i64 x) := fun u hu => hu.kp c1
          have s0 : ∀ u, Nw wr u → u.cell? ⟨g, m1, none⟩ = some (.int .i64 y) := fun u hu => hu.kp c0
          by_cases hz0 : z < 0
          · have dz : decide (z < 0) = true := by simpa using hz0
            have HF := Lib.hid (HGo.out hz0)
            clear HGo HKe hz0 c1 c0
            go_wp2
            refine region_told [some true, some true, some true, some true, some true, some true, some true, some true, some true, some true, some true, some true, some true, some true, some false, none, some true, some true] (Nw wr) (by kernel_rfl) (by kernel_rfl) (by kernel_rfl) q1 ?_
            rw [hwc] at q1 ⊢
            clear hwc
            repeat (first
              | (refine HW.off ?_)
              | (refine HW.take' ?_; (first | (refine ⟨undef, Or.inr ⟨by rfl, rfl⟩, ?_⟩) | (apply Exists.intro; refine ⟨Or.inl ⟨by rfl, ?_⟩, ?_⟩; (intro x hx; go_simp; first | done | with_reducible rfl))); (try simp only [Act.put, List.setIfInBounds_toArray, List.set_cons_zero, List.set_cons_succ]))
              | (refine HW.go (fun K hK => ?_); go_simp; (first
                | (go_at_fn gf; (with_reducible refine (HC.out _ q1).mono ?_); rintro e wy ⟨rfl, g2⟩; refine hK.out _ _ (q1.trans g2) ?_; intro _; replace q1 := q1.trans g2; clear hK K g2)
                | (refine hK.out _ _ q1 ?_; intro _; clear hK K))))
            refine HW.end_ ?_
            refine NoPanic.normal ?_
            have t1 := s1 _ q1
            have t0 := s0 _ q1
            have hgl2 := Nat.lt_of_lt_of_le hgl q1.sz
            have fz2 := fun j => (q1.froz (o := j) hgl).trans (fz j)
            have HQ := Lib.hid q1
            clear s1 s0 q1 fz hgl
            go_wp2
            have hn1 : ¬ m1 = m := by have := HM1.out; omega
            have hn2 : ¬ m = m1 := by have := HM1.out; omega
            go_region
            go_wp2
            go_roundw
            case rel => exact ⟨m1, _, by go_num, by have := HM1.out; omega, by have := HM1.out; omega, HF.out, by rw [List.length_set, List.length_set]; exact HI.out.2.2.2, (((HI.out.1.nw HQ.out).set m y).set m1 x).nw (Nw.refl _).drew1, set2_all HI.out.2.1 hpx.out hpy.out, (((HI.out.2.2.1.trans (Tch.nw HQ.out)).st' rfl m _).st' rfl m1 _).drewN 1⟩
            case measure => have := HM1.out; simp [intOf]; omega
          · have dz : decide (z < 0) = false := by simpa using hz0
            have HF := Lib.hid (HKe.out hz0)
            clear HGo HKe hz0 c1 c0
            go_wp2
            refine region_told [some true, some true, some true, some true, some true, some true, some true, some true, some true, some true, some true, some true, some true, some true, some false, none, some true, some true] (Nw wr) (by kernel_rfl) (by kernel_rfl) (by kernel_rfl) q1 ?_
            rw [hwc] at q1 ⊢
            clear hwc
            repeat (first
              | (refine HW.off ?_)
              | (refine HW.take' ?_; (first | (refine ⟨undef, Or.inr ⟨by rfl, rfl⟩, ?_⟩) | (apply Exists.intro; refine ⟨Or.inl ⟨by rfl, ?_⟩, ?_⟩; (intro x hx; go_simp; first | done | with_reducible rfl))); (try simp only [Act.put, List.setIfInBounds_toArray, List.set_cons_zero, List.set_cons_succ]))
              | (refine HW.go (fun K hK => ?_); go_simp; (first
                | (go_at_fn gf; (with_reducible refine (HC.out _ q1).mono ?_); rintro e wy ⟨rfl, g2⟩; refine hK.out _ _ (q1.trans g2) ?_; intro _; replace q1 := q1.trans g2; clear hK K g2)
                | (refine hK.out _ _ q1 ?_; intro _; clear hK K))))
            refine HW.end_ ?_
            refine NoPanic.normal ?_
            have HQ := Lib.hid q1
            clear s1 s0 q1 fz hgl
            go_wp2
            go_roundw
            case rel => exact ⟨k + 1, L, by go_num, by omega, .inl (by omega), by rw [HF.out]; exact HS.out, HI.out.2.2.2, HI.out.1.nw HQ.out, HI.out.2.1, HI.out.2.2.1.trans (Tch.nw HQ.out)⟩
            case measure => simp [intOf]; omega
        · have dm : decide ((a : Int) < (m : Int)) = false := by rw [decide_eq_false_iff_not]; omega
          have HF := Lib.hid ((insF_stop (c := c) (L := L) hm).symm.trans hF)
          have HI := Lib.hid (And.intro hI (And.intro hPL (And.intro hTc hLn)))
          clear hI hPL hTc hLn hF
          go_wp2
          refine region_told [some true, some true, some true, some true, some true, some true, some true, some true, some true, some true, some true, some true, some true, some true, some false, none, some true, some true] (Nw wr) (by kernel_rfl) (by kernel_rfl) (by kernel_rfl) q1 ?_
          rw [hwc] at q1 ⊢
          clear hwc
          repeat (first
            | (refine HW.off ?_)
            | (refine HW.take' ?_; (first | (refine ⟨undef, Or.inr ⟨by rfl, rfl⟩, ?_⟩) | (apply Exists.intro; refine ⟨Or.inl ⟨by rfl, ?_⟩, ?_⟩; (intro x hx; go_simp; first | done | with_reducible rfl))); (try simp only [Act.put, List.setIfInBounds_toArray, List.set_cons_zero, List.set_cons_succ]))
            | (refine HW.go (fun K hK => ?_); go_simp; ((refine hK.out _ _ q1 ?_; intro _; clear hK K))))
          refine HW.end_ ?_
          refine NoPanic.normal ?_
          have HQ := Lib.hid q1
          clear q1 hgl
          go_wp2
          go_roundw
          case rel => exact ⟨k + 1, L, by go_num, by omega, .inl (by omega), by rw [HF.out]; exact HS.out, HI.out.2.2.2, HI.out.1.nw HQ.out, HI.out.2.1, HI.out.2.2.1.trans (Tch.nw HQ.out)⟩
          case measure => simp [intOf]; omega
    · have HF := Lib.hid (show L = R by rw [← hS, show b - k = 0 by omega]; rfl)
      have HI := Lib.hid (And.intro hI hTc)
      clear hS hI hTc hPL hLn
      go_wp2
      exact bodyPost_end (results_none rfl _ _ _) rfl ⟨rfl, by rw [← HF.out]; exact HI.out.1, HI.out.2⟩
end Go.Proofs.Ytmciiobncfchlaa
