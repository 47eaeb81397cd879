/- Texts merged: QsA -/
import Derived.Test.YtodnlelnpidliaaGreatBucketHandsB17

/- symMergeCmpFunc of ints on a row that stands in order already: nothing moves. -/
section
namespace Go.Proofs.YtodnlelnpidliaaGreat
open Go.RowKit
set_option linter.unusedVariables false      -- a contract need not use every name

/-- What is known of the row, of the comparison. -/
structure SmH (w : World) (gf : Nat) (lb : Array Value) (g n a b : Nat) (l : List Int) : Prop where
  eg : ∀ args w, (callFunc gf args).run Tryz.prog w = .ok (.enter gf args) w
  cell : ∀ i z, i < n → Nw w z → z.cell? ⟨g, i, none⟩ = some (.int .i64 (l.getD i 0))
  call : ∀ i j, a ≤ i → i < j → j < b → ∃ v : Int, decide (v < 0) = false ∧ ∀ z, Nw w z → Calls Tryz.prog gf (#[.int .i64 (l.getD j 0), .int .i64 (l.getD i 0)] ++ lb) z fun e w' => e = .returned (.int .i64 v) ∧ Nw z w'
theorem SmH.sub {w w' : World} {gf : Nat} {lb : Array Value} {g n a b a' b' : Nat} {l : List Int} (h : SmH w gf lb g n a b l) (ha : a ≤ a') (hb : b' ≤ b) (hN : Nw w w') : SmH w' gf lb g n a' b' l :=
  ⟨h.eg, fun i z hi hz => h.cell i z hi (hN.trans hz), fun i j h1 h2 h3 => by
    obtain ⟨v, dz, hc⟩ := h.call i j (by omega) h2 (by omega)
    exact ⟨v, dz, fun z hz => hc z (hN.trans hz)⟩⟩
theorem sum_nat (x y : Nat) (hx : x ≤ 2000) (hy : y ≤ 2000) : IntKind.i64.wrap ((x : Int) + (y : Int)) = ((x + y : Nat) : Int) := by rw [IntKind.wrap_i64]; omega
theorem sub_nat (x y z : Nat) (hx : x ≤ 4000) (hz : x = y + z) : IntKind.i64.wrap ((x : Int) - (y : Int)) = (z : Int) := by rw [IntKind.wrap_i64]; omega
theorem one_nat (x z : Nat) (hx : x ≤ 4000) (hz : x = z + 1) : IntKind.i64.wrap ((x : Int) - 1) = (z : Int) := by rw [IntKind.wrap_i64]; omega
theorem suc_nat (x z : Nat) (hx : x ≤ 4000) (hz : z = x + 1) : IntKind.i64.wrap ((x : Int) + 1) = (z : Int) := by rw [IntKind.wrap_i64]; omega
set_option maxRecDepth 100000 in
set_option maxHeartbeats 4000000 in
theorem symOne (gf : Nat) (lb : Array Value) (g cap n a m b : Nat) (l : List Int) (w : World) (hm : m = a + 1) (hab : m < b) (hb : b ≤ n) (hn : n ≤ 1000) (h : SmH w gf lb g n a b l) :
    Calls Tryz.prog 157 #[.slice (some ⟨g, 0, none⟩) n cap, .int .i64 a, .int .i64 m, .int .i64 b, .func (.func gf) #[] lb] w fun e w' => e = .returned (.tuple #[]) ∧ Nw w w' := by
  have eg := h.eg
  have H := Lib.hid h
  clear h
  have w1 : IntKind.i64.wrap ((m : Int) - (a : Int)) = 1 := sub_nat m a 1 (by omega) (by omega)
  have w3 : IntKind.i64.wrap ((m : Int) - 1) = (a : Int) := one_nat m a (by omega) (by omega)
  have HM := Lib.hid hm
  clear hm
  go_enter Tryz.func157, Tryz.ntmps157
  go_wp2
  go_loopw [10, 11] (fun i j wr => ∃ k : Nat, i = .int .i64 m ∧ j = .int .i64 k ∧ m ≤ k ∧ k ≤ b ∧ Nw w wr) (fun _ j _ => (intOf j).toNat)
  case atStart => exact ⟨b, rfl, rfl, by omega, Nat.le_refl _, Nw.refl _⟩
  case round =>
    obtain ⟨k, rfl, rfl, hmk, hkb, hN⟩ := hrel
    have ham : a < m := by have := HM.out; omega
    by_cases hlt : m < k
    · have w2 := sum_nat m k (by omega) (by omega)
      have dlt : decide ((m : Int) < (k : Int)) = true := by rw [decide_eq_true_iff]; omega
      obtain ⟨hf, hh⟩ : ∃ x : Nat, ((m : Int) + (k : Int)) / 2 = (x : Int) := ⟨(m + k) / 2, by omega⟩
      have hf1 : m ≤ hf := by omega
      have hf2 : hf < k := by omega
      go_wp2
      try rw [hh]
      obtain ⟨v, dz, hcall⟩ := H.out.call a hf (by omega) (by omega) (by omega)
      have hi1 : ((hf : Nat) : Int) < (n : Int) := by omega
      have hi0 : ((a : Nat) : Int) < (n : Int) := by omega
      have hkn1 : hf < n := by omega
      have hkn0 : a < n := by omega
      have HC := Lib.hid (fun (z : World) (hz : Nw wr z) => hcall z (hN.trans hz))
      have s1 : ∀ u, Nw wr u → u.cell? ⟨g, hf, none⟩ = some (.int .i64 (l.getD hf 0)) := fun u hu => H.out.cell _ u hkn1 (hN.trans hu)
      have s0 : ∀ u, Nw wr u → u.cell? ⟨g, a, none⟩ = some (.int .i64 (l.getD a 0)) := fun u hu => H.out.cell _ u hkn0 (hN.trans hu)
      have q1 := (Nw.refl wr).drewQ
      obtain ⟨wc, hwc⟩ : ∃ wc, wr.drew = wc := ⟨_, rfl⟩
      have HNn := Lib.hid hN
      clear hcall hN
      generalize l.getD hf 0 = xx at *
      generalize l.getD a 0 = yy at *
      refine region_told [some true, some true, some true, some true, some true, some true, some true, some true, some true, some false, none, some true] (Nw wr) (by kernel_rfl) (by kernel_rfl) (by kernel_rfl) q1 ?_
      rw [hwc] at q1 ⊢
      clear hwc
      repeat (first
        | (refine HW.off ?_)
        | (refine HW.take' ?_; (first | (refine ⟨undef, Or.inr ⟨by rfl, rfl⟩, ?_⟩) | (apply Exists.intro; refine ⟨Or.inl ⟨by rfl, ?_⟩, ?_⟩; (intro x hx; go_simp; first | done | with_reducible rfl))); (try simp only [Act.put, List.setIfInBounds_toArray, List.set_cons_zero, List.set_cons_succ]))
        | (refine HW.go (fun K hK => ?_); go_simp; (first
          | (go_at_fn gf; (with_reducible refine (HC.out _ q1).mono ?_); rintro e wy ⟨rfl, g2⟩; refine hK.out _ _ (q1.trans g2) ?_; intro _; replace q1 := q1.trans g2; clear hK K g2)
          | (refine hK.out _ _ q1 ?_; intro _; clear hK K))))
      refine HW.end_ ?_
      refine NoPanic.normal ?_
      have HQ := Lib.hid q1
      clear s1 s0 q1
      go_wp2
      go_roundw
      case rel => exact ⟨hf, rfl, by go_num, hf1, by omega, HNn.out.trans HQ.out⟩
      case measure => simp [intOf]; omega
    · obtain rfl : k = m := by omega
      have HNn := Lib.hid hN
      clear hN
      go_wp2
      refine wp_loop_rounds 1 ?_
      repeat (rw [rounds_succ]; go_wp2)
      refine bodyPost_ret (v := .tuple #[]) (results_none rfl _ _ _) rfl ⟨rfl, HNn.out⟩
set_option maxRecDepth 100000 in
set_option maxHeartbeats 4000000 in
theorem symLast (gf : Nat) (lb : Array Value) (g cap n a m b : Nat) (l : List Int) (w : World) (hm : b = m + 1) (ham : a + 1 < m) (hb : b ≤ n) (hn : n ≤ 1000) (h : SmH w gf lb g n a b l) :
    Calls Tryz.prog 157 #[.slice (some ⟨g, 0, none⟩) n cap, .int .i64 a, .int .i64 m, .int .i64 b, .func (.func gf) #[] lb] w fun e w' => e = .returned (.tuple #[]) ∧ Nw w w' := by
  have eg := h.eg
  have H := Lib.hid h
  clear h
  obtain ⟨dd, hdd⟩ : ∃ x : Nat, m = a + x := ⟨m - a, by omega⟩
  have w1 : IntKind.i64.wrap ((m : Int) - (a : Int)) = dd := sub_nat m a dd (by omega) hdd
  have d1 : ((dd : Int) == 1) = false := by rw [beq_eq_false_iff_ne]; omega
  have d1' : ¬ dd = 1 := by omega
  have w3 : IntKind.i64.wrap ((b : Int) - (m : Int)) = 1 := sub_nat b m 1 (by omega) (by omega)
  have HM := Lib.hid (And.intro hm hdd)
  clear hm hdd
  go_enter Tryz.func157, Tryz.ntmps157
  go_wp2
  go_loopw [14, 15] (fun i j wr => ∃ k : Nat, i = .int .i64 k ∧ j = .int .i64 m ∧ a ≤ k ∧ k ≤ m ∧ Nw w wr) (fun i _ _ => m - (intOf i).toNat)
  case atStart => exact ⟨a, rfl, rfl, Nat.le_refl _, by omega, Nw.refl _⟩
  case round =>
    obtain ⟨k, rfl, rfl, hmk, hkb, hN⟩ := hrel
    have hmb : m < b := by have := HM.out.1; omega
    have ham : a < m := by omega
    by_cases hlt : k < m
    · have w2 := sum_nat k m (by omega) (by omega)
      have dlt : decide ((k : Int) < (m : Int)) = true := by rw [decide_eq_true_iff]; omega
      obtain ⟨hf, hh⟩ : ∃ x : Nat, ((k : Int) + (m : Int)) / 2 = (x : Int) := ⟨(k + m) / 2, by omega⟩
      have hf1 : k ≤ hf := by omega
      have hf2 : hf < m := by omega
      have w4 := suc_nat hf (hf + 1) (by omega) rfl
      go_wp2
      try rw [hh]
      obtain ⟨v, dz, hcall⟩ := H.out.call hf m (by omega) (by omega) (by omega)
      have hi1 : ((m : Nat) : Int) < (n : Int) := by omega
      have hi0 : ((hf : Nat) : Int) < (n : Int) := by omega
      have hkn1 : m < n := by omega
      have hkn0 : hf < n := by omega
      have HC := Lib.hid (fun (z : World) (hz : Nw wr z) => hcall z (hN.trans hz))
      have s1 : ∀ u, Nw wr u → u.cell? ⟨g, m, none⟩ = some (.int .i64 (l.getD m 0)) := fun u hu => H.out.cell _ u hkn1 (hN.trans hu)
      have s0 : ∀ u, Nw wr u → u.cell? ⟨g, hf, none⟩ = some (.int .i64 (l.getD hf 0)) := fun u hu => H.out.cell _ u hkn0 (hN.trans hu)
      have q1 := (Nw.refl wr).drewQ
      obtain ⟨wc, hwc⟩ : ∃ wc, wr.drew = wc := ⟨_, rfl⟩
      have HNn := Lib.hid hN
      clear hcall hN
      generalize l.getD m 0 = xx at *
      generalize l.getD hf 0 = yy at *
      refine region_told [some true, some true, some true, some true, some true, some true, some true, some true, some true, some false, none, some true, some true] (Nw wr) (by kernel_rfl) (by kernel_rfl) (by kernel_rfl) q1 ?_
      rw [hwc] at q1 ⊢
      clear hwc
      repeat (first
        | (refine HW.off ?_)
        | (refine HW.take' ?_; (first | (refine ⟨undef, Or.inr ⟨by rfl, rfl⟩, ?_⟩) | (apply Exists.intro; refine ⟨Or.inl ⟨by rfl, ?_⟩, ?_⟩; (intro x hx; go_simp; first | done | with_reducible rfl))); (try simp only [Act.put, List.setIfInBounds_toArray, List.set_cons_zero, List.set_cons_succ]))
        | (refine HW.go (fun K hK => ?_); go_simp; (first
          | (go_at_fn gf; (with_reducible refine (HC.out _ q1).mono ?_); rintro e wy ⟨rfl, g2⟩; refine hK.out _ _ (q1.trans g2) ?_; intro _; replace q1 := q1.trans g2; clear hK K g2)
          | (refine hK.out _ _ q1 ?_; intro _; clear hK K))))
      refine HW.end_ ?_
      refine NoPanic.normal ?_
      have HQ := Lib.hid q1
      clear s1 s0 q1
      go_wp2
      go_roundw
      case rel => exact ⟨hf + 1, by go_num, rfl, by omega, by omega, HNn.out.trans HQ.out⟩
      case measure => simp [intOf]; omega
    · obtain rfl : k = m := by omega
      have HNn := Lib.hid hN
      clear hN
      go_wp2
      refine wp_loop_rounds 1 ?_
      repeat (rw [rounds_succ]; go_wp2)
      refine bodyPost_ret (v := .tuple #[]) (results_none rfl _ _ _) rfl ⟨rfl, HNn.out⟩
set_option maxRecDepth 100000 in
set_option maxHeartbeats 4000000 in
theorem symBig (gf : Nat) (lb : Array Value) (g cap n a m b mid : Nat) (l : List Int) (w : World) (hmid : mid = (a + b) / 2) (ham : a + 1 < m) (hmb : m + 1 < b) (hb : b ≤ n) (hn : n ≤ 1000) (hcase : mid < m) (h : SmH w gf lb g n a b l)
    (hrec : ∀ z, Nw w z → Calls Tryz.prog 157 #[.slice (some ⟨g, 0, none⟩) n cap, .int .i64 mid, .int .i64 m, .int .i64 b, .func (.func gf) #[] lb] z fun e w' => e = .returned (.tuple #[]) ∧ Nw z w') :
    Calls Tryz.prog 157 #[.slice (some ⟨g, 0, none⟩) n cap, .int .i64 a, .int .i64 m, .int .i64 b, .func (.func gf) #[] lb] w fun e w' => e = .returned (.tuple #[]) ∧ Nw w w' := by
  have eg := h.eg
  have H := Lib.hid h
  have HR := Lib.hid hrec
  clear h hrec
  obtain ⟨dd, hdd⟩ : ∃ x : Nat, m = a + x := ⟨m - a, by omega⟩
  obtain ⟨d2, hd2⟩ : ∃ x : Nat, b = m + x := ⟨b - m, by omega⟩
  have w1 : IntKind.i64.wrap ((m : Int) - (a : Int)) = dd := sub_nat m a dd (by omega) hdd
  have d1 : ((dd : Int) == 1) = false := by rw [beq_eq_false_iff_ne]; omega
  have d1' : ¬ dd = 1 := by omega
  have w3 : IntKind.i64.wrap ((b : Int) - (m : Int)) = d2 := sub_nat b m d2 (by omega) hd2
  have d3 : ((d2 : Int) == 1) = false := by rw [beq_eq_false_iff_ne]; omega
  have d3' : ¬ d2 = 1 := by omega
  have w4 := sum_nat a b (by omega) (by omega)
  have hh : ((a : Int) + (b : Int)) / 2 = (mid : Int) := by omega
  obtain ⟨nn, hnn⟩ : ∃ x : Nat, mid + m = x := ⟨_, rfl⟩
  have w5 : IntKind.i64.wrap ((mid : Int) + (m : Int)) = (nn : Int) := by rw [sum_nat mid m (by omega) (by omega), hnn]
  obtain ⟨pp, hpp⟩ : ∃ x : Nat, nn = x + 1 := ⟨nn - 1, by omega⟩
  have w6 : IntKind.i64.wrap ((nn : Int) - 1) = (pp : Int) := one_nat nn pp (by omega) hpp
  have dn : decide (mid < m) = true := by rw [decide_eq_true_iff]; omega
  have dm : decide ((mid : Int) < (m : Int)) = true := by rw [decide_eq_true_iff]; omega
  obtain ⟨st, hst⟩ : ∃ x : Nat, nn = b + x := ⟨nn - b, by omega⟩
  have w7 : IntKind.i64.wrap ((nn : Int) - (b : Int)) = (st : Int) := sub_nat nn b st (by omega) hst
  have HM := Lib.hid (show mid = (a + b) / 2 ∧ m = a + dd ∧ b = m + d2 ∧ mid + m = nn ∧ nn = pp + 1 ∧ nn = b + st from ⟨hmid, hdd, hd2, hnn, hpp, hst⟩)
  clear hmid hdd hd2 hnn hpp hst
  go_enter Tryz.func157, Tryz.ntmps157
  go_wp2
  go_loopw [20, 21] (fun i j wr => ∃ k : Nat, i = .int .i64 k ∧ j = .int .i64 mid ∧ st ≤ k ∧ k ≤ mid ∧ Nw w wr) (fun i _ _ => mid - (intOf i).toNat)
  case atStart => exact ⟨st, by go_num, rfl, Nat.le_refl _, by have := HM.out; omega, Nw.refl _⟩
  case round =>
    obtain ⟨k, rfl, rfl, hmk, hkb, hN⟩ := hrel
    obtain ⟨hmid, hdd, hd2, hnn, hpp, hst⟩ := HM.out
    by_cases hlt : k < mid
    · have w8 := sum_nat k mid (by omega) (by omega)
      have dlt : decide ((k : Int) < (mid : Int)) = true := by rw [decide_eq_true_iff]; omega
      obtain ⟨hf, hhf⟩ : ∃ x : Nat, ((k : Int) + (mid : Int)) / 2 = (x : Int) := ⟨(k + mid) / 2, by omega⟩
      have hf1 : k ≤ hf := by omega
      have hf2 : hf < mid := by omega
      obtain ⟨qq, hqq⟩ : ∃ x : Nat, pp = hf + x := ⟨pp - hf, by omega⟩
      have w9 : IntKind.i64.wrap ((pp : Int) - (hf : Int)) = (qq : Int) := sub_nat pp hf qq (by omega) hqq
      have wa := suc_nat hf (hf + 1) (by omega) rfl
      have o1 : hf < qq := by omega
      have o2 : qq < b := by omega
      have o3 : a ≤ hf := by omega
      have HO := Lib.hid (And.intro hmid (And.intro hqq hdd))
      clear hmid hdd hd2 hnn hpp hqq hst
      go_wp2
      try rw [hhf]
      obtain ⟨v, dz, hcall⟩ := H.out.call hf qq (by omega) (by omega) (by omega)
      have hi1 : ((qq : Nat) : Int) < (n : Int) := by omega
      have hi0 : ((hf : Nat) : Int) < (n : Int) := by omega
      have hkn1 : qq < n := by omega
      have hkn0 : hf < n := by omega
      have HC := Lib.hid (fun (z : World) (hz : Nw wr z) => hcall z (hN.trans hz))
      have s1 : ∀ u, Nw wr u → u.cell? ⟨g, qq, none⟩ = some (.int .i64 (l.getD qq 0)) := fun u hu => H.out.cell _ u hkn1 (hN.trans hu)
      have s0 : ∀ u, Nw wr u → u.cell? ⟨g, hf, none⟩ = some (.int .i64 (l.getD hf 0)) := fun u hu => H.out.cell _ u hkn0 (hN.trans hu)
      have q1 := (Nw.refl wr).drewQ
      obtain ⟨wc, hwc⟩ : ∃ wc, wr.drew = wc := ⟨_, rfl⟩
      have HNn := Lib.hid hN
      clear hcall hN
      generalize l.getD qq 0 = xx at *
      generalize l.getD hf 0 = yy at *
      refine region_told [some true, some true, some true, some true, some true, some true, some true, some true, some true, some true, some true, some false, none, some true, some true] (Nw wr) (by kernel_rfl) (by kernel_rfl) (by kernel_rfl) q1 ?_
      rw [hwc] at q1 ⊢
      clear hwc
      repeat (first
        | (refine HW.off ?_)
        | (refine HW.take' ?_; (first | (refine ⟨undef, Or.inr ⟨by rfl, rfl⟩, ?_⟩) | (apply Exists.intro; refine ⟨Or.inl ⟨by rfl, ?_⟩, ?_⟩; (intro x hx; go_simp; first | done | with_reducible rfl))); (try simp only [Act.put, List.setIfInBounds_toArray, List.set_cons_zero, List.set_cons_succ]))
        | (refine HW.go (fun K hK => ?_); go_simp; (first
          | (go_at_fn gf; (with_reducible refine (HC.out _ q1).mono ?_); rintro e wy ⟨rfl, g2⟩; refine hK.out _ _ (q1.trans g2) ?_; intro _; replace q1 := q1.trans g2; clear hK K g2)
          | (refine hK.out _ _ q1 ?_; intro _; clear hK K))))
      refine HW.end_ ?_
      refine NoPanic.normal ?_
      have HQ := Lib.hid q1
      clear s1 s0 q1
      go_wp2
      go_roundw
      case rel => exact ⟨hf + 1, by go_num, rfl, by omega, by omega, HNn.out.trans HQ.out⟩
      case measure => simp [intOf]; omega
    · obtain rfl : k = mid := by omega
      have we : IntKind.i64.wrap ((nn : Int) - (k : Int)) = (m : Int) := sub_nat nn k m (by omega) (by omega)
      have e1 : decide ((a : Int) < (k : Int)) = true := by rw [decide_eq_true_iff]; omega
      have e2 : decide ((m : Int) < (b : Int)) = true := by rw [decide_eq_true_iff]; omega
      have HRz := Lib.hid (HR.out wr hN)
      have HNn := Lib.hid hN
      clear hN hmid hdd hd2 hnn hpp hst HR
      go_wp2_with (go_at_call 157; refine HRz.out.mono ?_; rintro e w2 ⟨rfl, g2⟩)
      exact bodyPost_end (results_none rfl _ _ _) rfl ⟨rfl, HNn.out.trans g2⟩
set_option maxRecDepth 100000 in
set_option maxHeartbeats 4000000 in
theorem symLow (gf : Nat) (lb : Array Value) (g cap n a m b mid : Nat) (l : List Int) (w : World) (hmid : mid = (a + b) / 2) (ham : a + 1 < m) (hmb : m + 1 < b) (hb : b ≤ n) (hn : n ≤ 1000) (hcase : m ≤ mid) (h : SmH w gf lb g n a b l)
    (hrec : ∀ z, Nw w z → m < mid → Calls Tryz.prog 157 #[.slice (some ⟨g, 0, none⟩) n cap, .int .i64 a, .int .i64 m, .int .i64 mid, .func (.func gf) #[] lb] z fun e w' => e = .returned (.tuple #[]) ∧ Nw z w') :
    Calls Tryz.prog 157 #[.slice (some ⟨g, 0, none⟩) n cap, .int .i64 a, .int .i64 m, .int .i64 b, .func (.func gf) #[] lb] w fun e w' => e = .returned (.tuple #[]) ∧ Nw w w' := by
  have eg := h.eg
  have H := Lib.hid h
  have HR := Lib.hid hrec
  clear h hrec
  obtain ⟨dd, hdd⟩ : ∃ x : Nat, m = a + x := ⟨m - a, by omega⟩
  obtain ⟨d2, hd2⟩ : ∃ x : Nat, b = m + x := ⟨b - m, by omega⟩
  have w1 : IntKind.i64.wrap ((m : Int) - (a : Int)) = dd := sub_nat m a dd (by omega) hdd
  have d1 : ((dd : Int) == 1) = false := by rw [beq_eq_false_iff_ne]; omega
  have d1' : ¬ dd = 1 := by omega
  have w3 : IntKind.i64.wrap ((b : Int) - (m : Int)) = d2 := sub_nat b m d2 (by omega) hd2
  have d3 : ((d2 : Int) == 1) = false := by rw [beq_eq_false_iff_ne]; omega
  have d3' : ¬ d2 = 1 := by omega
  have w4 := sum_nat a b (by omega) (by omega)
  have hh : ((a : Int) + (b : Int)) / 2 = (mid : Int) := by omega
  obtain ⟨nn, hnn⟩ : ∃ x : Nat, mid + m = x := ⟨_, rfl⟩
  have w5 : IntKind.i64.wrap ((mid : Int) + (m : Int)) = (nn : Int) := by rw [sum_nat mid m (by omega) (by omega), hnn]
  obtain ⟨pp, hpp⟩ : ∃ x : Nat, nn = x + 1 := ⟨nn - 1, by omega⟩
  have w6 : IntKind.i64.wrap ((nn : Int) - 1) = (pp : Int) := one_nat nn pp (by omega) hpp
  have dn : decide (mid < m) = false := by rw [decide_eq_false_iff_not]; omega
  have dm : decide ((mid : Int) < (m : Int)) = false := by rw [decide_eq_false_iff_not]; omega
  have HM := Lib.hid (show mid = (a + b) / 2 ∧ m = a + dd ∧ b = m + d2 ∧ mid + m = nn ∧ nn = pp + 1 from ⟨hmid, hdd, hd2, hnn, hpp⟩)
  clear hmid hdd hd2 hnn hpp
  go_enter Tryz.func157, Tryz.ntmps157
  go_wp2
  go_loopw [20, 21] (fun i j wr => ∃ k : Nat, i = .int .i64 k ∧ j = .int .i64 m ∧ a ≤ k ∧ k ≤ m ∧ Nw w wr) (fun i _ _ => m - (intOf i).toNat)
  case atStart => exact ⟨a, by go_num, rfl, Nat.le_refl _, by have := HM.out; omega, Nw.refl _⟩
  case round =>
    obtain ⟨k, rfl, rfl, hmk, hkb, hN⟩ := hrel
    obtain ⟨hmid, hdd, hd2, hnn, hpp⟩ := HM.out
    by_cases hlt : k < m
    · have w8 := sum_nat k m (by omega) (by omega)
      have dlt : decide ((k : Int) < (m : Int)) = true := by rw [decide_eq_true_iff]; omega
      obtain ⟨hf, hhf⟩ : ∃ x : Nat, ((k : Int) + (m : Int)) / 2 = (x : Int) := ⟨(k + m) / 2, by omega⟩
      have hf1 : k ≤ hf := by omega
      have hf2 : hf < m := by omega
      obtain ⟨qq, hqq⟩ : ∃ x : Nat, pp = hf + x := ⟨pp - hf, by omega⟩
      have w9 : IntKind.i64.wrap ((pp : Int) - (hf : Int)) = (qq : Int) := sub_nat pp hf qq (by omega) hqq
      have wa := suc_nat hf (hf + 1) (by omega) rfl
      have o1 : hf < qq := by omega
      have o2 : qq < b := by omega
      have o3 : a ≤ hf := by omega
      have HO := Lib.hid (And.intro hmid (And.intro hqq hdd))
      clear hmid hdd hd2 hnn hpp hqq
      go_wp2
      try rw [hhf]
      obtain ⟨v, dz, hcall⟩ := H.out.call hf qq (by omega) (by omega) (by omega)
      have hi1 : ((qq : Nat) : Int) < (n : Int) := by omega
      have hi0 : ((hf : Nat) : Int) < (n : Int) := by omega
      have hkn1 : qq < n := by omega
      have hkn0 : hf < n := by omega
      have HC := Lib.hid (fun (z : World) (hz : Nw wr z) => hcall z (hN.trans hz))
      have s1 : ∀ u, Nw wr u → u.cell? ⟨g, qq, none⟩ = some (.int .i64 (l.getD qq 0)) := fun u hu => H.out.cell _ u hkn1 (hN.trans hu)
      have s0 : ∀ u, Nw wr u → u.cell? ⟨g, hf, none⟩ = some (.int .i64 (l.getD hf 0)) := fun u hu => H.out.cell _ u hkn0 (hN.trans hu)
      have q1 := (Nw.refl wr).drewQ
      obtain ⟨wc, hwc⟩ : ∃ wc, wr.drew = wc := ⟨_, rfl⟩
      have HNn := Lib.hid hN
      clear hcall hN
      generalize l.getD qq 0 = xx at *
      generalize l.getD hf 0 = yy at *
      refine region_told [some true, some true, some true, some true, some true, some true, some true, some true, some true, some true, some true, some false, none, some true, some true] (Nw wr) (by kernel_rfl) (by kernel_rfl) (by kernel_rfl) q1 ?_
      rw [hwc] at q1 ⊢
      clear hwc
      repeat (first
        | (refine HW.off ?_)
        | (refine HW.take' ?_; (first | (refine ⟨undef, Or.inr ⟨by rfl, rfl⟩, ?_⟩) | (apply Exists.intro; refine ⟨Or.inl ⟨by rfl, ?_⟩, ?_⟩; (intro x hx; go_simp; first | done | with_reducible rfl))); (try simp only [Act.put, List.setIfInBounds_toArray, List.set_cons_zero, List.set_cons_succ]))
        | (refine HW.go (fun K hK => ?_); go_simp; (first
          | (go_at_fn gf; (with_reducible refine (HC.out _ q1).mono ?_); rintro e wy ⟨rfl, g2⟩; refine hK.out _ _ (q1.trans g2) ?_; intro _; replace q1 := q1.trans g2; clear hK K g2)
          | (refine hK.out _ _ q1 ?_; intro _; clear hK K))))
      refine HW.end_ ?_
      refine NoPanic.normal ?_
      have HQ := Lib.hid q1
      clear s1 s0 q1
      go_wp2
      go_roundw
      case rel => exact ⟨hf + 1, by go_num, rfl, by omega, by omega, HNn.out.trans HQ.out⟩
      case measure => simp [intOf]; omega
    · obtain rfl : k = m := by omega
      have we : IntKind.i64.wrap ((nn : Int) - (k : Int)) = (mid : Int) := sub_nat nn k mid (by omega) (by omega)
      have e1 : decide ((a : Int) < (k : Int)) = true := by rw [decide_eq_true_iff]; omega
      by_cases hkm : k < mid
      · have e2 : decide ((k : Int) < (mid : Int)) = true := by rw [decide_eq_true_iff]; omega
        have HRz := Lib.hid (HR.out wr hN hkm)
        have HNn := Lib.hid hN
        clear hN hmid hdd hd2 hnn hpp HR
        go_wp2_with (go_at_call 157; refine HRz.out.mono ?_; rintro e w2 ⟨rfl, g2⟩)
        exact bodyPost_end (results_none rfl _ _ _) rfl ⟨rfl, HNn.out.trans g2⟩
      · have e2 : decide ((k : Int) < (mid : Int)) = false := by rw [decide_eq_false_iff_not]; omega
        have HNn := Lib.hid hN
        clear hN hmid hdd hd2 hnn hpp HR
        go_wp2
        exact bodyPost_end (results_none rfl _ _ _) rfl ⟨rfl, HNn.out⟩
theorem symMerge (gf : Nat) (lb : Array Value) (g cap n : Nat) (l : List Int) (hn : n ≤ 1000) : ∀ (k a m b : Nat) (w : World), b - a ≤ k → a < m → m < b → b ≤ n → SmH w gf lb g n a b l →
    Calls Tryz.prog 157 #[.slice (some ⟨g, 0, none⟩) n cap, .int .i64 a, .int .i64 m, .int .i64 b, .func (.func gf) #[] lb] w fun e w' => e = .returned (.tuple #[]) ∧ Nw w w'
  | 0, a, m, b, w, hk, h1, h2, _, _ => by omega
  | k + 1, a, m, b, w, hk, h1, h2, h3, h => by
    by_cases c1 : m = a + 1
    · exact symOne gf lb g cap n a m b l w c1 h2 h3 hn h
    by_cases c2 : b = m + 1
    · exact symLast gf lb g cap n a m b l w c2 (by omega) h3 hn h
    by_cases c3 : (a + b) / 2 < m
    · exact symBig gf lb g cap n a m b _ l w rfl (by omega) (by omega) h3 hn c3 h fun z hz => symMerge gf lb g cap n l hn k _ m b z (by omega) c3 h2 h3 (h.sub (by omega) (Nat.le_refl _) hz)
    · exact symLow gf lb g cap n a m b _ l w rfl (by omega) (by omega) h3 hn (by omega) h fun z hz hm => symMerge gf lb g cap n l hn k a m _ z (by omega) h1 hm (by omega) (h.sub (Nat.le_refl a) (by omega) hz)
end Go.Proofs.YtodnlelnpidliaaGreat
end
