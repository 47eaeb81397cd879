/- Texts merged: QsA, SmA -/
import Derived.Test.YtfemopcichmlmaaGreatRRRBucketFullB12

/- symMergeCmpFunc of ints on a row that stands in order already: nothing moves. -/
section
namespace Go.Proofs.YtfemopcichmlmaaGreatRRR
open Go.RowKit
set_option linter.unusedVariables false      -- a contract need not use every name

/-- What is known of the row, of the comparison. -/
structure SmH (w : World) (gf : Nat) (lb : Array Value) (g n a b : Nat) (l : List Int) : Prop where
  eg : ∀ args w, (callFunc gf args).run Tryz.prog w = .ok (.enter gf args) w
  cell : ∀ i z, i < n → Nw w z → z.cell? ⟨g, i, none⟩ = some (.int .i64 (l.getD i 0))
  call : ∀ i j, a ≤ i → i < j → j < b → ∃ v : Int, decide (v < 0) = false ∧ ∀ z, Nw w z → Calls Tryz.prog gf (#[.int .i64 (l.getD j 0), .int .i64 (l.getD i 0)] ++ lb) z fun e w' => e = .returned (.int .i64 v) ∧ Nw z w'
theorem SmH.sub {w w' : World} {gf : Nat} {lb : Array Value} {g n a b a' b' : Nat} {l : List Int} (h : SmH w gf lb g n a b l) (ha : a ≤ a') (hb : b' ≤ b) (hN : Nw w w') : SmH w' gf lb g n a' b' l :=
  ⟨h.eg, fun i z hi hz => h.cell i z hi (hN.trans hz), fun i j h1 h2 h3 => by
    obtain ⟨v, dz, hc⟩ := h.call i j (by omega) h2 (by omega)
    exact ⟨v, dz, fun z hz => hc z (hN.trans hz)⟩⟩
theorem sum_nat (x y : Nat) (hx : x ≤ 2000) (hy : y ≤ 2000) : IntKind.i64.wrap ((x : Int) + (y : Int)) = ((x + y : Nat) : Int) := by rw [IntKind.wrap_i64]; omega
theorem sub_nat (x y z : Nat) (hx : x ≤ 4000) (hz : x = y + z) : IntKind.i64.wrap ((x : Int) - (y : Int)) = (z : Int) := by rw [IntKind.wrap_i64]; omega
theorem one_nat (x z : Nat) (hx : x ≤ 4000) (hz : x = z + 1) : IntKind.i64.wrap ((x : Int) - 1) = (z : Int) := by rw [IntKind.wrap_i64]; omega
theorem suc_nat (x z : Nat) (hx : x ≤ 4000) (hz : z = x + 1) : IntKind.i64.wrap ((x : Int) + 1) = (z : Int) := by rw [IntKind.wrap_i64]; omega
set_option maxRecDepth 100000 in
set_option maxHeartbeats 4000000 in
theorem symOne (gf : Nat) (lb : Array Value) (g cap n a m b : Nat) (l : List Int) (w : World) (hm : m = a + 1) (hab : m < b) (hb : b ≤ n) (hn : n ≤ 1000) (h : SmH w gf lb g n a b l) :
    Calls Tryz.prog 108 #[.slice (some ⟨g, 0, none⟩) n cap, .int .i64 a, .int .i64 m, .int .i64 b, .func (.func gf) #[] lb] w fun e w' => e = .returned (.tuple #[]) ∧ Nw w w' := by
  have eg := h.eg
  have H := Lib.hid h
  clear h
  have w1 : IntKind.i64.wrap ((m : Int) - (a : Int)) = 1 := sub_nat m a 1 (by omega) (by omega)
  have w3 : IntKind.i64.wrap ((m : Int) - 1) = (a : Int) := one_nat m a (by omega) (by omega)
  have HM := Lib.hid hm
  clear hm
  go_enter Tryz.func108, Tryz.ntmps108
  go_wp2
  go_loopw [10, 11] (fun i j wr => ∃ k : Nat, i = .int .i64 m ∧ j = .int .i64 k ∧ m ≤ k ∧ k ≤ b ∧ Nw w wr) (fun _ j _ => (intOf j).toNat)
  case atStart => exact ⟨b, rfl, rfl, by omega, Nat.le_refl _, Nw.refl _⟩
  case round =>
    obtain ⟨k, rfl, rfl, hmk, hkb, hN⟩ := hrel
    have ham : a < m := by have := HM.out; omega
    by_cases hlt : m < k
    · have w2 := sum_nat m k (by omega) (by omega)
      have dlt : decide ((m : Int) < (k : Int)) = true := by rw [decide_eq_true_iff]; omega
      obtain ⟨hf, hh⟩ : ∃ x : Nat, ((m : Int) + (k : Int)) / 2 = (x : Int) := ⟨(m + k) / 2, by omega⟩
      have hf1 : m ≤ hf := by omega
      have hf2 : hf < k := by omega
      go_wp2
      try rw [hh]
      obtain ⟨v, dz, hcall⟩ := H.out.call a hf (by omega) (by omega) (by omega)
      have hi1 : ((hf : Nat) : Int) < (n : Int) := by omega
      have hi0 : ((a : Nat) : Int) < (n : Int) := by omega
      have hkn1 : hf < n := by omega
      have hkn0 : a < n := by omega
      have HC := Lib.hid (fun (z : World) (hz : Nw wr z) => hcall z (hN.trans hz))
      have s1 : ∀ u, Nw wr u → u.cell? ⟨g, hf, none⟩ = some (.int .i64 (l.getD hf 0)) := fun u hu => H.out.cell _ u hkn1 (hN.trans hu)
      have s0 : ∀ u, Nw wr u → u.cell? ⟨g, a, none⟩ = some (.int .i64 (l.getD a 0)) := fun u hu => H.out.cell _ u hkn0 (hN.trans hu)
      have q1 := (Nw.refl wr).drewQ
      obtain ⟨wc, hwc⟩ : ∃ wc, wr.drew = wc := ⟨_, rfl⟩
      have HNn := Lib.hid hN
      clear hcall hN
      generalize l.getD hf 0 = xx at *
      generalize l.getD a 0 = yy at *
      refine region_told [some true, some true, some true, some true, some true, some true, some true, some true, some true, some false, none, some true] (Nw wr) (by kernel_rfl) (by kernel_rfl) (by kernel_rfl) q1 ?_
      rw [hwc] at q1 ⊢
      clear hwc
      repeat (first
        | (refine HW.off ?_)
        | (refine HW.take' ?_; (first | (refine ⟨undef, Or.inr ⟨by rfl, rfl⟩, ?_⟩) | (apply Exists.intro; refine ⟨Or.inl ⟨by rfl, ?_⟩, ?_⟩; (intro x hx; go_simp; first | done | with_reducible rfl))); (try simp only [Act.put, List.setIfInBounds_toArray, List.set_cons_zero, List.set_cons_succ]))
        | (refine HW.go (fun K hK => ?_); go_simp; (first
          | (go_at_fn gf; (with_reducible refine (HC.out _ q1).mono ?_); rintro e wy ⟨rfl, g2⟩; refine hK.out _ _ (q1.trans g2) ?_; intro _; replace q1 := q1.trans g2; clear hK K g2)
          | (refine hK.out _ _ q1 ?_; intro _; clear hK K))))
      refine HW.end_ ?_
      refine NoPanic.normal ?_
      have HQ := Lib.hid q1
      clear s1 s0 q1
      go_wp2
      go_roundw
      case rel => exact ⟨hf, rfl, by go_num, hf1, by omega, HNn.out.trans HQ.out⟩
      case measure => simp [intOf]; omega
    · obtain rfl : k = m := by omega
      have HNn := Lib.hid hN
      clear hN
      go_wp2
      refine wp_loop_rounds 1 ?_
      repeat (rw [rounds_succ]; go_wp2)
      refine bodyPost_ret (v := .tuple #[]) (results_none rfl _ _ _) rfl ⟨rfl, HNn.out⟩
set_option maxRecDepth 100000 in
set_option maxHeartbeats 4000000 in
theorem symLast (gf : Nat) (lb : Array Value) (g cap n a m b : Nat) (l : List Int) (w : World) (hm : b = m + 1) (ham : a + 1 < m) (hb : b ≤ n) (hn : n ≤ 1000) (h : SmH w gf lb g n a b l) :
    Calls Tryz.prog 108 #[.slice (some ⟨g, 0, none⟩) n cap, .int .i64 a, .int .i64 m, .int .i64 b, .func (.func gf) #[] lb] w fun e w' => e = .returned (.tuple #[]) ∧ Nw w w' := by
  have eg := h.eg
  have H := Lib.hid h
  clear h
  obtain ⟨dd, hdd⟩ : ∃ x : Nat, m = a + x := ⟨m - a, by omega⟩
  have w1 : IntKind.i64.wrap ((m : Int) - (a : Int)) = dd := sub_nat m a dd (by omega) hdd
  have d1 : ((dd : Int) == 1) = false := by rw [beq_eq_false_iff_ne]; omega
  have d1' : ¬ dd = 1 := by omega
  have w3 : IntKind.i64.wrap ((b : Int) - (m : Int)) = 1 := sub_nat b m 1 (by omega) (by omega)
  have HM := Lib.hid (And.intro hm hdd)
  clear hm hdd
  go_enter Tryz.func108, Tryz.ntmps108
  go_wp2
  go_loopw [14, 15] (fun i j wr => ∃ k : Nat, i = .int .i64 k ∧ j = .int .i64 m ∧ a ≤ k ∧ k ≤ m ∧ Nw w wr) (fun i _ _ => m - (intOf i).toNat)
  case atStart => exact ⟨a, rfl, rfl, Nat.le_refl _, by omega, Nw.refl _⟩
  case round =>
    obtain ⟨k, rfl, rfl, hmk, hkb, hN⟩ := hrel
    have hmb : m < b := by have := HM.out.1; omega
    have ham : a < m := by omega
    by_cases hlt : k < m
    · have w2 := sum_nat k m (by omega) (by omega)
      have dlt : decide ((k : Int) < (m : Int)) = true := by rw [decide_eq_true_iff]; omega
      obtain ⟨hf, hh⟩ : ∃ x : Nat, ((k : Int) + (m : Int)) / 2 = (x : Int) := ⟨(k + m) / 2, by omega⟩
      have hf1 : k ≤ hf := by omega
      have hf2 : hf < m := by omega
      have w4 := suc_nat hf (hf + 1) (by omega) rfl
      go_wp2
      try rw [hh]
      obtain ⟨v, dz, hcall⟩ := H.out.call hf m (by omega) (by omega) (by omega)
      have hi1 : ((m : Nat) : Int) < (n : Int) := by omega
      have hi0 : ((hf : Nat) : Int) < (n : Int) := by omega
      have hkn1 : m < n := by omega
      have hkn0 : hf < n := by omega
      have HC := Lib.hid (fun (z : World) (hz : Nw wr z) => hcall z (hN.trans hz))
      have s1 : ∀ u, Nw wr u → u.cell? ⟨g, m, none⟩ = some (.int .i64 (l.getD m 0)) := fun u hu => H.out.cell _ u hkn1 (hN.trans hu)
      have s0 : ∀ u, Nw wr u → u.cell? ⟨g, hf, none⟩ = some (.int .i64 (l.getD hf 0)) := fun u hu => H.out.cell _ u hkn0 (hN.trans hu)
      have q1 := (Nw.refl wr).drewQ
      obtain ⟨wc, hwc⟩ : ∃ wc, wr.drew = wc := ⟨_, rfl⟩
      have HNn := Lib.hid hN
      clear hcall hN
      generalize l.getD m 0 = xx at *
      generalize l.getD hf 0 = yy at *
      refine region_told [some true, some true, some true, some true, some true, some true, some true, some true, some true, some false, none, some true, some true] (Nw wr) (by kernel_rfl) (by kernel_rfl) (by kernel_rfl) q1 ?_
      rw [hwc] at q1 ⊢
      clear hwc
      repeat (first
        | (refine HW.off ?_)
        | (refine HW.take' ?_; (first | (refine ⟨undef, Or.inr ⟨by rfl, rfl⟩, ?_⟩) | (apply Exists.intro; refine ⟨Or.inl ⟨by rfl, ?_⟩, ?_⟩; (intro x hx; go_simp; first | done | with_reducible rfl))); (try simp only [Act.put, List.setIfInBounds_toArray, List.set_cons_zero, List.set_cons_succ]))
        | (refine HW.go (fun K hK => ?_); go_simp; (first
          | (go_at_fn gf; (with_reducible refine (HC.out _ q1).mono ?_); rintro e wy ⟨rfl, g2⟩; refine hK.out _ _ (q1.trans g2) ?_; intro _; replace q1 := q1.trans g2; clear hK K g2)
          | (refine hK.out _ _ q1 ?_; intro _; clear hK K))))
      refine HW.end_ ?_
      refine NoPanic.normal ?_
      have HQ := Lib.hid q1
      clear s1 s0 q1
      go_wp2
      go_roundw
      case rel => exact ⟨hf + 1, by go_num, rfl, by omega, by omega, HNn.out.trans HQ.out⟩
      case measure => simp [intOf]; omega
    · obtain rfl : k = m := by omega
      have HNn := Lib.hid hN
      clear hN
      go_wp2
      refine wp_loop_rounds 1 ?_
      repeat (rw [rounds_succ]; go_wp2)
      refine bodyPost_ret (v := .tuple #[]) (results_none rfl _ _ _) rfl ⟨rfl, HNn.out⟩
set_option maxRecDepth 100000 in
set_option maxHeartbeats 4000000 in
theorem symBig (gf : Nat) (lb : Array Value) (g cap n a m b mid : Nat) (l : List Int) (w : World) (hmid : mid = (a + b) / 2) (ham : a + 1 < m) (hmb : m + 1 < b) (hb : b ≤ n) (hn : n ≤ 1000) (hcase : mid < m) (h : SmH w gf lb g n a b l)
    (hrec : ∀ z, Nw w z → Calls Tryz.prog 108 #[.slice (some ⟨g, 0, none⟩) n cap, .int .i64 mid, .int .i64 m, .int .i64 b, .func (.func gf) #[] lb] z fun e w' => e = .returned (.tuple #[]) ∧ Nw z w') :
    Calls Tryz.prog 108 #[.slice (some ⟨g, 0, none⟩) n cap, .int .i64 a, .int .i64 m, .int .i64 b, .func (.func gf) #[] lb] w fun e w' => e = .returned (.tuple #[]) ∧ Nw w w' := by
  have eg := h.eg
  have H := Lib.hid h
  have HR := Lib.hid hrec
  clear h hrec
  obtain ⟨dd, hdd⟩ : ∃ x : Nat, m = a + x := ⟨m - a, by omega⟩
  obtain ⟨d2, hd2⟩ : ∃ x : Nat, b = m + x := ⟨b - m, by omega⟩
  have w1 : IntKind.i64.wrap ((m : Int) - (a : Int)) = dd := sub_nat m a dd (by omega) hdd
  have d1 : ((dd : Int) == 1) = false := by rw [beq_eq_false_iff_ne]; omega
  have d1' : ¬ dd = 1 := by omega
  have w3 : IntKind.i64.wrap ((b : Int) - (m : Int)) = d2 := sub_nat b m d2 (by omega) hd2
  have d3 : ((d2 : Int) == 1) = false := by rw [beq_eq_false_iff_ne]; omega
  have d3' : ¬ d2 = 1 := by omega
  have w4 := sum_nat a b (by omega) (by omega)
  have hh : ((a : Int) + (b : Int)) / 2 = (mid : Int) := by omega
  obtain ⟨nn, hnn⟩ : ∃ x : Nat, mid + m = x := ⟨_, rfl⟩
  have w5 : IntKind.i64.wrap ((mid : Int) + (m : Int)) = (nn : Int) := by rw [sum_nat mid m (by omega) (by omega), hnn]
  obtain ⟨pp, hpp⟩ : ∃ x : Nat, nn = x + 1 := ⟨nn - 1, by omega⟩
  have w6 : IntKind.i64.wrap ((nn : Int) - 1) = (pp : Int) := one_nat nn pp (by omega) hpp
  have dn : decide (mid < m) = true := by rw [decide_eq_true_iff]; omega
  have dm : decide ((mid : Int) < (m : Int)) = true := by rw [decide_eq_true_iff]; omega
  obtain ⟨st, hst⟩ : ∃ x : Nat, nn = b + x := ⟨nn - b, by omega⟩
  have w7 : IntKind.i64.wrap ((nn : Int) - (b : Int)) = (st : Int) := sub_nat nn b st (by omega) hst
  have HM := Lib.hid (show mid = (a + b) / 2 ∧ m = a + dd ∧ b = m + d2 ∧ mid + m = nn ∧ nn = pp + 1 ∧ nn = b + st from ⟨hmid, hdd, hd2, hnn, hpp, hst⟩)
  clear hmid hdd hd2 hnn hpp hst
  go_enter Tryz.func108, Tryz.ntmps108
  go_wp2
  go_loopw [20, 21] (fun i j wr => ∃ k : Nat, i = .int .i64 k ∧ j = .int .i64 mid ∧ st ≤ k ∧ k ≤ mid ∧ Nw w wr) (fun i _ _ => mid - (intOf i).toNat)
  case atStart => exact ⟨st, by go_num, rfl, Nat.le_refl _, by have := HM.out; omega, Nw.refl _⟩
  case round =>
    obtain ⟨k, rfl, rfl, hmk, hkb, hN⟩ := hrel
    obtain ⟨hmid, hdd, hd2, hnn, hpp, hst⟩ := HM.out
    by_cases hlt : k < mid
    · have w8 := sum_nat k mid (by omega) (by omega)
      have dlt : decide ((k : Int) < (mid : Int)) = true := by rw [decide_eq_true_iff]; omega
      obtain ⟨hf, hhf⟩ : ∃ x : Nat, ((k : Int) + (mid : Int)) / 2 = (x : Int) := ⟨(k + mid) / 2, by omega⟩
      have hf1 : k ≤ hf := by omega
      have hf2 : hf < mid := by omega
      obtain ⟨qq, hqq⟩ : ∃ x : Nat, pp = hf + x := ⟨pp - hf, by omega⟩
      have w9 : IntKind.i64.wrap ((pp : Int) - (hf : Int)) = (qq : Int) := sub_nat pp hf qq (by omega) hqq
      have wa := suc_nat hf (hf + 1) (by omega) rfl
      have o1 : hf < qq := by omega
      have o2 : qq < b := by omega
      have o3 : a ≤ hf := by omega
      have HO := Lib.hid (And.intro hmid (And.intro hqq hdd))
      clear hmid hdd hd2 hnn hpp hqq hst
      go_wp2
      try rw [hhf]
      obtain ⟨v, dz, hcall⟩ := H.out.call hf qq (by omega) (by omega) (by omega)
      have hi1 : ((qq : Nat) : Int) < (n : Int) := by omega
      have hi0 : ((hf : Nat) : Int) < (n : Int) := by omega
      have hkn1 : qq < n := by omega
      have hkn0 : hf < n := by omega
      have HC := Lib.hid (fun (z : World) (hz : Nw wr z) => hcall z (hN.trans hz))
      have s1 : ∀ u, Nw wr u → u.cell? ⟨g, qq, none⟩ = some (.int .i64 (l.getD qq 0)) := fun u hu => H.out.cell _ u hkn1 (hN.trans hu)
      have s0 : ∀ u, Nw wr u → u.cell? ⟨g, hf, none⟩ = some (.int .i64 (l.getD hf 0)) := fun u hu => H.out.cell _ u hkn0 (hN.trans hu)
      have q1 := (Nw.refl wr).drewQ
      obtain ⟨wc, hwc⟩ : ∃ wc, wr.drew = wc := ⟨_, rfl⟩
      have HNn := Lib.hid hN
      clear hcall hN
      generalize l.getD qq 0 = xx at *
      generalize l.getD hf 0 = yy at *
      refine region_told [some true, some true, some true, some true, some true, some true, some true, some true, some true, some true, some true, some false, none, some true, some true] (Nw wr) (by kernel_rfl) (by kernel_rfl) (by kernel_rfl) q1 ?_
      rw [hwc] at q1 ⊢
      clear hwc
      repeat (first
        | (refine HW.off ?_)
        | (refine HW.take' ?_; (first | (refine ⟨undef, Or.inr ⟨by rfl, rfl⟩, ?_⟩) | (apply Exists.intro; refine ⟨Or.inl ⟨by rfl, ?_⟩, ?_⟩; (intro x hx; go_simp; first | done | with_reducible rfl))); (try simp only [Act.put, List.setIfInBounds_toArray, List.set_cons_zero, List.set_cons_succ]))
        | (refine HW.go (fun K hK => ?_); go_simp; (first
          | (go_at_fn gf; (with_reducible refine (HC.out _ q1).mono ?_); rintro e wy ⟨rfl, g2⟩; refine hK.out _ _ (q1.trans g2) ?_; intro _; replace q1 := q1.trans g2; clear hK K g2)
          | (refine hK.out _ _ q1 ?_; intro _; clear hK K))))
      refine HW.end_ ?_
      refine NoPanic.normal ?_
      have HQ := Lib.hid q1
      clear s1 s0 q1
      go_wp2
      go_roundw
      case rel => exact ⟨hf + 1, by go_num, rfl, by omega, by omega, HNn.out.trans HQ.out⟩
      case measure => simp [intOf]; omega
    · obtain rfl : k = mid := by omega
      have we : IntKind.i64.wrap ((nn : Int) - (k : Int)) = (m : Int) := sub_nat nn k m (by omega) (by omega)
      have e1 : decide ((a : Int) < (k : Int)) = true := by rw [decide_eq_true_iff]; omega
      have e2 : decide ((m : Int) < (b : Int)) = true := by rw [decide_eq_true_iff]; omega
      have HRz := Lib.hid (HR.out wr hN)
      have HNn := Lib.hid hN
      clear hN hmid hdd hd2 hnn hpp hst HR
      go_wp2_with (go_at_call 108; refine HRz.out.mono ?_; rintro e w2 ⟨rfl, g2⟩)
      exact bodyPost_end (results_none rfl _ _ _) rfl ⟨rfl, HNn.out.trans g2⟩
set_option maxRecDepth 100000 in
set_option maxHeartbeats 4000000 in
theorem symLow (gf : Nat) (lb : Array Value) (g cap n a m b mid : Nat) (l : List Int) (w : World) (hmid : mid = (a + b) / 2) (ham : a + 1 < m) (hmb : m + 1 < b) (hb : b ≤ n) (hn : n ≤ 1000) (hcase : m ≤ mid) (h : SmH w gf lb g n a b l)
    (hrec : ∀ z, Nw w z → m < mid → Calls Tryz.prog 108 #[.slice (some ⟨g, 0, none⟩) n cap, .int .i64 a, .int .i64 m, .int .i64 mid, .func (.func gf) #[] lb] z fun e w' => e = .returned (.tuple #[]) ∧ Nw z w') :
    Calls Tryz.prog 108 #[.slice (some ⟨g, 0, none⟩) n cap, .int .i64 a, .int .i64 m, .int .i64 b, .func (.func gf) #[] lb] w fun e w' => e = .returned (.tuple #[]) ∧ Nw w w' := by
  have eg := h.eg
  have H := Lib.hid h
  have HR := Lib.hid hrec
  clear h hrec
  obtain ⟨dd, hdd⟩ : ∃ x : Nat, m = a + x := ⟨m - a, by omega⟩
  obtain ⟨d2, hd2⟩ : ∃ x : Nat, b = m + x := ⟨b - m, by omega⟩
  have w1 : IntKind.i64.wrap ((m : Int) - (a : Int)) = dd := sub_nat m a dd (by omega) hdd
  have d1 : ((dd : Int) == 1) = false := by rw [beq_eq_false_iff_ne]; omega
  have d1' : ¬ dd = 1 := by omega
  have w3 : IntKind.i64.wrap ((b : Int) - (m : Int)) = d2 := sub_nat b m d2 (by omega) hd2
  have d3 : ((d2 : Int) == 1) = false := by rw [beq_eq_false_iff_ne]; omega
  have d3' : ¬ d2 = 1 := by omega
  have w4 := sum_nat a b (by omega) (by omega)
  have hh : ((a : Int) + (b : Int)) / 2 = (mid : Int) := by omega
  obtain ⟨nn, hnn⟩ : ∃ x : Nat, mid + m = x := ⟨_, rfl⟩
  have w5 : IntKind.i64.wrap ((mid : Int) + (m : Int)) = (nn : Int) := by rw [sum_nat mid m (by omega) (by omega), hnn]
  obtain ⟨pp, hpp⟩ : ∃ x : Nat, nn = x + 1 := ⟨nn - 1, by omega⟩
  have w6 : IntKind.i64.wrap ((nn : Int) - 1) = (pp : Int) := one_nat nn pp (by omega) hpp
  have dn : decide (mid < m) = false := by rw [decide_eq_false_iff_not]; omega
  have dm : decide ((mid : Int) < (m : Int)) = false := by rw [decide_eq_false_iff_not]; omega
  have HM := Lib.hid (show mid = (a + b) / 2 ∧ m = a + dd ∧ b = m + d2 ∧ mid + m = nn ∧ nn = pp + 1 from ⟨hmid, hdd, hd2, hnn, hpp⟩)
  clear hmid hdd hd2 hnn hpp
  go_enter Tryz.func108, Tryz.ntmps108
  go_wp2
  go_loopw [20, 21] (fun i j wr => ∃ k : Nat, i = .int .i64 k ∧ j = .int .i64 m ∧ a ≤ k ∧ k ≤ m ∧ Nw w wr) (fun i _ _ => m - (intOf i).toNat)
  case atStart => exact ⟨a, by go_num, rfl, Nat.le_refl _, by have := HM.out; omega, Nw.refl _⟩
  case round =>
    obtain ⟨k, rfl, rfl, hmk, hkb, hN⟩ := hrel
    obtain ⟨hmid, hdd, hd2, hnn, hpp⟩ := HM.out
    by_cases hlt : k < m
    · have w8 := sum_nat k m (by omega) (by omega)
      have dlt : decide ((k : Int) < (m : Int)) = true := by rw [decide_eq_true_iff]; omega
      obtain ⟨hf, hhf⟩ : ∃ x : Nat, ((k : Int) + (m : Int)) / 2 = (x : Int) := ⟨(k + m) / 2, by omega⟩
      have hf1 : k ≤ hf := by omega
      have hf2 : hf < m := by omega
      obtain ⟨qq, hqq⟩ : ∃ x : Nat, pp = hf + x := ⟨pp - hf, by omega⟩
      have w9 : IntKind.i64.wrap ((pp : Int) - (hf : Int)) = (qq : Int) := sub_nat pp hf qq (by omega) hqq
      have wa := suc_nat hf (hf + 1) (by omega) rfl
      have o1 : hf < qq := by omega
      have o2 : qq < b := by omega
      have o3 : a ≤ hf := by omega
      have HO := Lib.hid (And.intro hmid (And.intro hqq hdd))
      clear hmid hdd hd2 hnn hpp hqq
      go_wp2
      try rw [hhf]
      obtain ⟨v, dz, hcall⟩ := H.out.call hf qq (by omega) (by omega) (by omega)
      have hi1 : ((qq : Nat) : Int) < (n : Int) := by omega
      have hi0 : ((hf : Nat) : Int) < (n : Int) := by omega
      have hkn1 : qq < n := by omega
      have hkn0 : hf < n := by omega
      have HC := Lib.hid (fun (z : World) (hz : Nw wr z) => hcall z (hN.trans hz))
      have s1 : ∀ u, Nw wr u → u.cell? ⟨g, qq, none⟩ = some (.int .i64 (l.getD qq 0)) := fun u hu => H.out.cell _ u hkn1 (hN.trans hu)
      have s0 : ∀ u, Nw wr u → u.cell? ⟨g, hf, none⟩ = some (.int .i64 (l.getD hf 0)) := fun u hu => H.out.cell _ u hkn0 (hN.trans hu)
      have q1 := (Nw.refl wr).drewQ
      obtain ⟨wc, hwc⟩ : ∃ wc, wr.drew = wc := ⟨_, rfl⟩
      have HNn := Lib.hid hN
      clear hcall hN
      generalize l.getD qq 0 = xx at *
      generalize l.getD hf 0 = yy at *
      refine region_told [some true, some true, some true, some true, some true, some true, some true, some true, some true, some true, some true, some false, none, some true, some true] (Nw wr) (by kernel_rfl) (by kernel_rfl) (by kernel_rfl) q1 ?_
      rw [hwc] at q1 ⊢
      clear hwc
      repeat (first
        | (refine HW.off ?_)
        | (refine HW.take' ?_; (first | (refine ⟨undef, Or.inr ⟨by rfl, rfl⟩, ?_⟩) | (apply Exists.intro; refine ⟨Or.inl ⟨by rfl, ?_⟩, ?_⟩; (intro x hx; go_simp; first | done | with_reducible rfl))); (try simp only [Act.put, List.setIfInBounds_toArray, List.set_cons_zero, List.set_cons_succ]))
        | (refine HW.go (fun K hK => ?_); go_simp; (first
          | (go_at_fn gf; (with_reducible refine (HC.out _ q1).mono ?_); rintro e wy ⟨rfl, g2⟩; refine hK.out _ _ (q1.trans g2) ?_; intro _; replace q1 := q1.trans g2; clear hK K g2)
          | (refine hK.out _ _ q1 ?_; intro _; clear hK K))))
      refine HW.end_ ?_
      refine NoPanic.normal ?_
      have HQ := Lib.hid q1
      clear s1 s0 q1
      go_wp2
      go_roundw
      case rel => exact ⟨hf + 1, by go_num, rfl, by omega, by omega, HNn.out.trans HQ.out⟩
      case measure => simp [intOf]; omega
    · obtain rfl : k = m := by omega
      have we : IntKind.i64.wrap ((nn : Int) - (k : Int)) = (mid : Int) := sub_nat nn k mid (by omega) (by omega)
      have e1 : decide ((a : Int) < (k : Int)) = true := by rw [decide_eq_true_iff]; omega
      by_cases hkm : k < mid
      · have e2 : decide ((k : Int) < (mid : Int)) = true := by rw [decide_eq_true_iff]; omega
        have HRz := Lib.hid (HR.out wr hN hkm)
        have HNn := Lib.hid hN
        clear hN hmid hdd hd2 hnn hpp HR
        go_wp2_with (go_at_call 108; refine HRz.out.mono ?_; rintro e w2 ⟨rfl, g2⟩)
        exact bodyPost_end (results_none rfl _ _ _) rfl ⟨rfl, HNn.out.trans g2⟩
      · have e2 : decide ((k : Int) < (mid : Int)) = false := by rw [decide_eq_false_iff_not]; omega
        have HNn := Lib.hid hN
        clear hN hmid hdd hd2 hnn hpp HR
        go_wp2
        exact bodyPost_end (results_none rfl _ _ _) rfl ⟨rfl, HNn.out⟩
theorem symMerge (gf : Nat) (lb : Array Value) (g cap n : Nat) (l : List Int) (hn : n ≤ 1000) : ∀ (k a m b : Nat) (w : World), b - a ≤ k → a < m → m < b → b ≤ n → SmH w gf lb g n a b l →
    Calls Tryz.prog 108 #[.slice (some ⟨g, 0, none⟩) n cap, .int .i64 a, .int .i64 m, .int .i64 b, .func (.func gf) #[] lb] w fun e w' => e = .returned (.tuple #[]) ∧ Nw w w'
  | 0, a, m, b, w, hk, h1, h2, _, _ => by omega
  | k + 1, a, m, b, w, hk, h1, h2, h3, h => by
    by_cases c1 : m = a + 1
    · exact symOne gf lb g cap n a m b l w c1 h2 h3 hn h
    by_cases c2 : b = m + 1
    · exact symLast gf lb g cap n a m b l w c2 (by omega) h3 hn h
    by_cases c3 : (a + b) / 2 < m
    · exact symBig gf lb g cap n a m b _ l w rfl (by omega) (by omega) h3 hn c3 h fun z hz => symMerge gf lb g cap n l hn k _ m b z (by omega) c3 h2 h3 (h.sub (by omega) (Nat.le_refl _) hz)
    · exact symLow gf lb g cap n a m b _ l w rfl (by omega) (by omega) h3 hn (by omega) h fun z hz hm => symMerge gf lb g cap n l hn k a m _ z (by omega) h1 hm (by omega) (h.sub (Nat.le_refl a) (by omega) hz)
end Go.Proofs.YtfemopcichmlmaaGreatRRR
end

/- swapRangeCmpFunc and rotateCmpFunc of ints. -/
section
namespace Go.Proofs.YtfemopcichmlmaaGreatRRR
open Go.RowKit
set_option linter.unusedVariables false      -- a contract need not use every name

/-- A row of n numbers, behind one block. -/
abbrev RowN (w : World) (g cap n : Nat) (l : List Int) : Prop := IS w (.slice (some ⟨g, 0, none⟩) n cap) l
theorem RowN.swap {w : World} {g cap n : Nat} {U V Z : List Int} {x y : Int} (h : RowN w g cap n (U ++ x :: (V ++ y :: Z))) (p q : Nat) (hp : p = U.length) (hq : q = U.length + 1 + V.length) :
    RowN ((w.setCell ⟨g, p, none⟩ (.int .i64 y)).setCell ⟨g, q, none⟩ (.int .i64 x)) g cap n (U ++ y :: (V ++ x :: Z)) := by
  have := IS.set (IS.set h p y) q x
  rwa [sm_sw_mid U V Z x y p q hp hq] at this
theorem sm_two_tch (w : World) (g a b : Nat) (va vb : Value) : Tch (fun k => k = g) w ((w.setCell ⟨g, a, none⟩ va).setCell ⟨g, b, none⟩ vb).drew :=
  Tch.drew (Tch.set (p := ⟨g, b, none⟩) (Tch.set (p := ⟨g, a, none⟩) (Tch.refl (fun k => k = g) w) (.inl rfl) va) (.inl rfl) vb)
theorem sm_two_tch' (w : World) (g a b : Nat) (va vb : Value) : Tch (fun k => k = g) w ((w.setCell ⟨g, a, none⟩ va).setCell ⟨g, b, none⟩ vb) :=
  Tch.set (p := ⟨g, b, none⟩) (Tch.set (p := ⟨g, a, none⟩) (Tch.refl (fun k => k = g) w) (.inl rfl) va) (.inl rfl) vb
theorem RowN.drew {w : World} {g cap n : Nat} {l : List Int} (h : RowN w g cap n l) : RowN w.drew g cap n l := h.nw ((Nw.refl w).drewN 1)
set_option maxRecDepth 100000 in
set_option maxHeartbeats 4000000 in
theorem swapRange (f : Value) (gf : Nat) (lb : Array Value) (hf : f = .func (.func gf) #[] lb) (g cap n : Nat) (P X R Y Q : List Int) (w : World) (hn : n ≤ 1000) (h : RowN w g cap n (P ++ X ++ R ++ Y ++ Q)) (hXY : X.length = Y.length) (a b k : Nat) (ha : a = P.length) (hb : b = P.length + X.length + R.length) (hk : k = X.length) :
    Calls Tryz.prog 110 #[.slice (some ⟨g, 0, none⟩) n cap, .int .i64 a, .int .i64 b, .int .i64 k, f] w fun e w' => e = .returned (.tuple #[]) ∧ RowN w' g cap n (P ++ Y ++ R ++ X ++ Q) ∧ Tch (fun k => k = g) w w' := by
  subst hf
  have H := Lib.hid (show RowN w g cap n (swSt P X R Y Q 0) by rw [swSt_zero]; exact h)
  have hl : n = P.length + X.length + R.length + Y.length + Q.length := by
    have := h.nlen
    simp at this
    omega
  have HL := Lib.hid (And.intro hl (And.intro hXY (And.intro ha (And.intro hb hk))))
  have hab : a + k ≤ b ∧ b + k ≤ n := by omega
  clear h hl hXY ha hb hk
  go_enter Tryz.func110, Tryz.ntmps110
  go_wp2
  go_loopw [10] (fun v wr => ∃ i : Nat, v = .int .i64 i ∧ i ≤ k ∧ Hid (RowN wr g cap n (swSt P X R Y Q i) ∧ Tch (fun k => k = g) w wr)) (fun v _ => k - (intOf v).toNat)
  case atStart => exact ⟨0, rfl, Nat.zero_le _, Lib.hid ⟨H.out, Tch.refl _ _⟩⟩
  case round =>
    clear H
    obtain ⟨i, rfl, hi, HI⟩ := hrel
    by_cases hik : i < k
    · obtain ⟨h1, h2, h3, h4, h5⟩ := HL.out
      obtain ⟨x, y, U, V, Z, e1, e2, e3, e4⟩ := swSt_step P X R Y Q h2 i (by omega)
      obtain ⟨p1, hp1⟩ : ∃ p1, a + i = p1 := ⟨_, rfl⟩
      obtain ⟨p2, hp2⟩ : ∃ p2, b + i = p2 := ⟨_, rfl⟩
      have wA : IntKind.i64.wrap ((a : Int) + (i : Int)) = (p1 : Int) := by rw [sum_nat a i (by omega) (by omega), hp1]
      have wB : IntKind.i64.wrap ((b : Int) + (i : Int)) = (p2 : Int) := by rw [sum_nat b i (by omega) (by omega), hp2]
      have hR := HI.out.1
      rw [e1] at hR
      have hS := hR.swap p1 p2 (by omega) (by omega)
      have hl2 := hR.nlen
      have c1 := IS.cell hR p1 (by simp; omega)
      have c2 := IS.cell hR p2 (by simp; omega)
      rw [sm_at_mid U x _ p1 (by omega)] at c1
      rw [sm_at_mid2 U V Z x y p2 (by omega)] at c2
      rw [← e2] at hS
      have HS := Lib.hid (And.intro hS HI.out.2)
      have fz := IS.frozen hR
      have hg := IS.glt hR
      have ne : ¬ p1 = p2 := by omega
      have ne' : ¬ p2 = p1 := by omega
      have b1 : (p1 : Int) < (n : Int) := by omega
      have b2 : (p2 : Int) < (n : Int) := by omega
      have b1' : p1 < n := by omega
      have b2' : p2 < n := by omega
      have hki : (i : Int) < (k : Int) := by omega
      clear h1 h2 h3 h4 h5 e1 e2 e3 e4 hp1 hp2 hR hS hl2 HI
      go_wp2
      go_region
      all_goals
        go_wp2
        go_roundw
        case rel => exact ⟨i + 1, by go_num, by omega, Lib.hid ⟨RowN.drew HS.out.1, HS.out.2.trans (sm_two_tch _ _ _ _ _ _)⟩⟩
        case measure => simp [intOf]; omega
    · obtain rfl : i = k := by omega
      have HE := Lib.hid (show RowN wr g cap n (P ++ Y ++ R ++ X ++ Q) by
        have := HI.out.1
        rwa [HL.out.2.2.2.2, swSt_all P X R Y Q HL.out.2.1] at this)
      have HT := Lib.hid HI.out.2
      clear HI
      go_wp2
      exact bodyPost_end (results_none rfl _ _ _) rfl ⟨rfl, HE.out, HT.out⟩
/-- What is left to turn. -/
def RotI (w : World) (g cap n m : Nat) (T : List Int) (i j : Nat) (wr : World) : Prop := ∃ P A B Q : List Int, P.length + A.length = m ∧ A.length = i ∧ B.length = j ∧ 0 < i ∧ 0 < j ∧ P.length + A.length + B.length + Q.length = n ∧ P ++ B ++ A ++ Q = T ∧ RowN wr g cap n (P ++ A ++ B ++ Q) ∧ Tch (fun k => k = g) w wr
set_option maxRecDepth 100000 in
set_option maxHeartbeats 4000000 in
theorem rotate (f : Value) (gf : Nat) (lb : Array Value) (hf : f = .func (.func gf) #[] lb) (g cap n : Nat) (P A B Q : List Int) (w : World) (hn : n ≤ 1000) (h : RowN w g cap n (P ++ A ++ B ++ Q)) (hA : 0 < A.length) (hB : 0 < B.length) (a m b : Nat) (ha : a = P.length) (hm : m = P.length + A.length) (hb : b = P.length + A.length + B.length) :
    Calls Tryz.prog 109 #[.slice (some ⟨g, 0, none⟩) n cap, .int .i64 a, .int .i64 m, .int .i64 b, f] w fun e w' => e = .returned (.tuple #[]) ∧ RowN w' g cap n (P ++ B ++ A ++ Q) ∧ Tch (fun k => k = g) w w' := by
  subst hf
  obtain ⟨T, hT⟩ : ∃ T, P ++ B ++ A ++ Q = T := ⟨_, rfl⟩
  have hl := h.nlen
  simp at hl
  have H0 := Lib.hid (show RotI w g cap n m T A.length B.length w from ⟨P, A, B, Q, hm.symm, rfl, rfl, hA, hB, by omega, hT, h, Tch.refl _ _⟩)
  obtain ⟨i0, hi0⟩ : ∃ x, A.length = x := ⟨_, rfl⟩
  obtain ⟨j0, hj0⟩ : ∃ x, B.length = x := ⟨_, rfl⟩
  rw [hi0, hj0] at H0
  rw [hT]
  have w1 : IntKind.i64.wrap ((m : Int) - (a : Int)) = (i0 : Int) := sub_nat m a i0 (by omega) (by omega)
  have w2 : IntKind.i64.wrap ((b : Int) - (m : Int)) = (j0 : Int) := sub_nat b m j0 (by omega) (by omega)
  have hm1 : m ≤ 1000 := by omega
  clear h hA hB ha hm hb hl hi0 hj0 hT
  go_enter Tryz.func109, Tryz.ntmps109
  go_wp2
  clear w1 w2
  go_loopw [10, 11] (fun vi vj wr => ∃ i j : Nat, vi = .int .i64 i ∧ vj = .int .i64 j ∧ Hid (RotI w g cap n m T i j wr)) (fun vi vj _ => (intOf vi).toNat + (intOf vj).toNat)
  case atStart => exact ⟨i0, j0, rfl, rfl, H0⟩
  case round =>
    clear H0
    obtain ⟨i, j, rfl, rfl, HI⟩ := hrel
    obtain ⟨P', A', B', Q', e1, e2, e3, hi, hj, e4, e5, hR, hTc⟩ := HI.out
    obtain ⟨p, hp⟩ : ∃ p, m = p + i := ⟨m - i, by omega⟩
    have w3 : IntKind.i64.wrap ((m : Int) - (i : Int)) = (p : Int) := sub_nat m i p (by omega) (by omega)
    by_cases hij : i = j
    · subst hij
      have HS := Lib.hid (swapRange (.func (.func gf) #[] lb) gf lb rfl g cap n P' A' [] B' Q' wr hn (by simpa using hR) (by omega) p m i (by omega) (by simp; omega) (by omega))
      have HT := Lib.hid hTc
      have HE := Lib.hid e5
      clear HI e1 e2 e3 e4 e5 hR hTc hp
      go_wp2_with fail
      refine HS.out.mono ?_
      rintro e w5 ⟨rfl, q1, q2⟩
      have HQ := Lib.hid (And.intro q1 q2)
      clear q1 q2
      go_wp2
      refine bodyPost_end (results_none rfl _ _ _) rfl ⟨rfl, ?_, HT.out.trans HQ.out.2⟩
      have := HQ.out.1
      rw [← HE.out]
      simpa using this
    · have dij : ((i : Int) == (j : Int)) = false := by simp; omega
      by_cases hgt : j < i
      · have dgt : decide ((j : Int) < (i : Int)) = true := by simp; omega
        have w4 : IntKind.i64.wrap ((i : Int) - (j : Int)) = ((i - j : Nat) : Int) := sub_nat i j (i - j) (by omega) (by omega)
        have eA : A' = A'.take j ++ A'.drop j := (List.take_append_drop j A').symm
        have e6 : P' ++ B' ++ A'.take j ++ A'.drop j ++ Q' = T := by rw [List.append_assoc (P' ++ B') (A'.take j), List.take_append_drop]; exact e5
        have lt : (A'.take j).length = j := by simp; omega
        have ld : (A'.drop j).length = i - j := by simp; omega
        have HS := Lib.hid (swapRange (.func (.func gf) #[] lb) gf lb rfl g cap n P' (A'.take j) (A'.drop j) B' Q' wr hn (by rw [eA] at hR; simpa using hR) (by omega) p m j (by omega) (by omega) (by omega))
        have HN := Lib.hid (fun w5 (q1 : RowN w5 g cap n (P' ++ B' ++ A'.drop j ++ A'.take j ++ Q')) (q2 : Tch (fun k => k = g) wr w5) => show RotI w g cap n m T (i - j) j w5 from
          ⟨P' ++ B', A'.drop j, A'.take j, Q', by rw [List.length_append, ld]; omega, ld, lt, by omega, hj, by rw [List.length_append, ld, lt]; omega, e6, q1, hTc.trans q2⟩)
        clear HI e1 e2 e3 e4 e5 hR hTc hp eA lt ld e6
        go_wp2_with fail
        refine HS.out.mono ?_
        rintro e w5 ⟨rfl, q1, q2⟩
        have HQ := Lib.hid (HN.out w5 q1 q2)
        clear q1 q2
        go_wp2
        go_roundw
        case rel => exact ⟨i - j, j, by go_num, rfl, HQ⟩
        case measure => simp [intOf]; omega
      · have dgt : decide ((j : Int) < (i : Int)) = false := by simp; omega
        have w4 : IntKind.i64.wrap ((j : Int) - (i : Int)) = ((j - i : Nat) : Int) := sub_nat j i (j - i) (by omega) (by omega)
        obtain ⟨mj, hmj⟩ : ∃ x, m + j = x := ⟨_, rfl⟩
        obtain ⟨mk, hmk⟩ : ∃ x, mj = i + x := ⟨mj - i, by omega⟩
        have w5 : IntKind.i64.wrap ((m : Int) + (j : Int)) = (mj : Int) := by rw [sum_nat m j (by omega) (by omega), hmj]
        have w6 : IntKind.i64.wrap ((mj : Int) - (i : Int)) = (mk : Int) := sub_nat mj i mk (by omega) hmk
        have eB : B' = B'.take (j - i) ++ B'.drop (j - i) := (List.take_append_drop (j - i) B').symm
        have e6 : P' ++ B'.take (j - i) ++ B'.drop (j - i) ++ (A' ++ Q') = T := by rw [List.append_assoc P' (B'.take (j - i)), List.take_append_drop, ← e5]; simp
        have lt : (B'.take (j - i)).length = j - i := by simp; omega
        have ld : (B'.drop (j - i)).length = i := by simp; omega
        have HS := Lib.hid (swapRange (.func (.func gf) #[] lb) gf lb rfl g cap n P' A' (B'.take (j - i)) (B'.drop (j - i)) Q' wr hn (by rw [eB] at hR; simpa using hR) (by omega) p mk i (by omega) (by omega) (by omega))
        have HN := Lib.hid (fun w5 (q1 : RowN w5 g cap n (P' ++ B'.drop (j - i) ++ B'.take (j - i) ++ A' ++ Q')) (q2 : Tch (fun k => k = g) wr w5) => show RotI w g cap n m T i (j - i) w5 from
          ⟨P', B'.drop (j - i), B'.take (j - i), A' ++ Q', by omega, ld, lt, hi, by omega, by rw [List.length_append, ld, lt]; omega, e6, by simpa using q1, hTc.trans q2⟩)
        clear HI e1 e2 e3 e4 e5 hR hTc hp eB lt ld e6 hmj hmk
        go_wp2_with fail
        refine HS.out.mono ?_
        rintro e w7 ⟨rfl, q1, q2⟩
        have HQ := Lib.hid (HN.out w7 q1 q2)
        clear q1 q2
        go_wp2
        go_roundw
        case rel => exact ⟨i, j - i, rfl, by go_num, HQ⟩
        case measure => simp [intOf]; omega
end Go.Proofs.YtfemopcichmlmaaGreatRRR
end
