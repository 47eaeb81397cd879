
/- ScriptOps: the walk. -/
import Derived.Test.YtmegaipedagcjaaScPkR
import Derived.Test.YtmegaipedagcjaaScX
import Derived.Test.YtmegaipedagcjaaRefA
namespace Go.Proofs.Ytmegaipedagcjaa.scriptOps
open Go.RowKit
set_option linter.unusedVariables false

set_option maxRecDepth 100000 in
set_option maxHeartbeats 2000000 in
theorem main_inv (l : List UInt8) (a k t r m v x E : Int) (T : Nat) (b1 b2 b3 b4 b5 b6 b7 : UInt8) (W : World) (hl : l.length ≤ 1600) (hT : T < 8)
    (HP : Hid (∀ z, Calls Try.prog 22 #[.int .i64 a, .int .i64 8] z fun e w' => e = .returned (.int .i64 T) ∧ z = w'))
    (h1 : (b1.toNat : Int) = T) (h2 : IntKind.u8.wrap k = (b2.toNat : Int)) (h3 : wrap64 (t + 1) % 256 = (b3.toNat : Int)) (h4 : wrap64 (r + 1) % 256 = (b4.toNat : Int)) (h5 : IntKind.u8.wrap m = (b5.toNat : Int)) (h6 : IntKind.u8.wrap v = (b6.toNat : Int)) (h7 : IntKind.u8.wrap x = (b7.toNat : Int))
    (HO : Hid (∀ z, Calls Try.prog 14 #[.agg #[.int .i64 k, .int .i64 t, .int .i64 r, .int .i64 m, .int .i64 v, .int .i64 x]] z fun e w' => e = .returned (.int .i64 E) ∧ Nw z w')) (hE : E = 2) :
    Calls Try.prog 6 #[stV l, .int .i64 a, .agg #[.int .i64 k, .int .i64 t, .int .i64 r, .int .i64 m, .int .i64 v, .int .i64 x]] W fun e w' => e = .returned (.bool true) ∧ Nw W w' := by
  subst hE
  have dl : decide ((1600 : Int) < (l.length : Int)) = false := by simp; omega
  have hcells : #[.int .u8 2, .int .u8 (T : Int), .int .u8 (b2.toNat : Int), .int .u8 (b3.toNat : Int), .int .u8 (b4.toNat : Int), .int .u8 (b5.toNat : Int), .int .u8 (b6.toNat : Int), .int .u8 (b7.toNat : Int)] = (#[.int .u8 2, .int .u8 (b1.toNat : Int), .int .u8 (b2.toNat : Int), .int .u8 (b3.toNat : Int), .int .u8 (b4.toNat : Int), .int .u8 (b5.toNat : Int), .int .u8 (b6.toNat : Int), .int .u8 (b7.toNat : Int)] : Array Value) := by rw [h1]
  have hcv : ∀ (z : World) (b : Nat), z.heap.size = b → (convert 55 9 (.slice (some ⟨b, 0, none⟩) 8 8)).run Try.prog (z.alloc (.cells #[.int .u8 2, .int .u8 (T : Int), .int .u8 (b2.toNat : Int), .int .u8 (b3.toNat : Int), .int .u8 (b4.toNat : Int), .int .u8 (b5.toNat : Int), .int .u8 (b6.toNat : Int), .int .u8 (b7.toNat : Int)] 5)) =
      .ok (stV [2, b1, b2, b3, b4, b5, b6, b7]) (z.alloc (.cells #[.int .u8 2, .int .u8 (T : Int), .int .u8 (b2.toNat : Int), .int .u8 (b3.toNat : Int), .int .u8 (b4.toNat : Int), .int .u8 (b5.toNat : Int), .int .u8 (b6.toNat : Int), .int .u8 (b7.toNat : Int)] 5)) := fun z b h => by rw [← h1]; exact conv8 z b h 2 b1 b2 b3 b4 b5 b6 b7
  clear hcells
  have k0_ : ∀ y, CV W [(W.heap.size, 0, .int .i64 k), (W.heap.size, 1, .int .i64 t), (W.heap.size, 2, .int .i64 r), (W.heap.size, 3, .int .i64 m), (W.heap.size, 4, .int .i64 v), (W.heap.size, 5, .int .i64 x)] y → y.cell? ⟨W.heap.size, 0, none⟩ = some (.int .i64 k) := fun y h => h.at _ _ _ (by simp)
  have k1_ : ∀ y, CV W [(W.heap.size, 0, .int .i64 k), (W.heap.size, 1, .int .i64 t), (W.heap.size, 2, .int .i64 r), (W.heap.size, 3, .int .i64 m), (W.heap.size, 4, .int .i64 v), (W.heap.size, 5, .int .i64 x)] y → y.cell? ⟨W.heap.size, 1, none⟩ = some (.int .i64 t) := fun y h => h.at _ _ _ (by simp)
  have k2_ : ∀ y, CV W [(W.heap.size, 0, .int .i64 k), (W.heap.size, 1, .int .i64 t), (W.heap.size, 2, .int .i64 r), (W.heap.size, 3, .int .i64 m), (W.heap.size, 4, .int .i64 v), (W.heap.size, 5, .int .i64 x)] y → y.cell? ⟨W.heap.size, 2, none⟩ = some (.int .i64 r) := fun y h => h.at _ _ _ (by simp)
  have k3_ : ∀ y, CV W [(W.heap.size, 0, .int .i64 k), (W.heap.size, 1, .int .i64 t), (W.heap.size, 2, .int .i64 r), (W.heap.size, 3, .int .i64 m), (W.heap.size, 4, .int .i64 v), (W.heap.size, 5, .int .i64 x)] y → y.cell? ⟨W.heap.size, 3, none⟩ = some (.int .i64 m) := fun y h => h.at _ _ _ (by simp)
  have k4_ : ∀ y, CV W [(W.heap.size, 0, .int .i64 k), (W.heap.size, 1, .int .i64 t), (W.heap.size, 2, .int .i64 r), (W.heap.size, 3, .int .i64 m), (W.heap.size, 4, .int .i64 v), (W.heap.size, 5, .int .i64 x)] y → y.cell? ⟨W.heap.size, 4, none⟩ = some (.int .i64 v) := fun y h => h.at _ _ _ (by simp)
  have k5_ : ∀ y, CV W [(W.heap.size, 0, .int .i64 k), (W.heap.size, 1, .int .i64 t), (W.heap.size, 2, .int .i64 r), (W.heap.size, 3, .int .i64 m), (W.heap.size, 4, .int .i64 v), (W.heap.size, 5, .int .i64 x)] y → y.cell? ⟨W.heap.size, 5, none⟩ = some (.int .i64 x) := fun y h => h.at _ _ _ (by simp)
  go_enter Try.func6, Try.ntmps6
  go_wp2_with fail
  refine (lives_ok _).mono ?_
  rintro e w1 ⟨rfl, g1⟩
  have hB1 : CV W [(W.heap.size, 0, .int .i64 k), (W.heap.size, 1, .int .i64 t), (W.heap.size, 2, .int .i64 r), (W.heap.size, 3, .int .i64 m), (W.heap.size, 4, .int .i64 v), (W.heap.size, 5, .int .i64 x)] w1 := by
    refine CV.step _ _ ?_ g1
    repeat' (first | exact CV.nil ((Nw.refl W).alloc _) | refine CV.cons ?_ ?_)
    all_goals simp [go_sem]
  clear g1
  have a0 := k0_ w1 hB1
  have a1 := k1_ w1 hB1
  have a2 := k2_ w1 hB1
  have a3 := k3_ w1 hB1
  have a4 := k4_ w1 hB1
  have a5 := k5_ w1 hB1
  have hltW : W.heap.size < w1.heap.size := World.block_lt_of_cell? _ _ a0
  go_wp2_with (go_at_call 22; (with_reducible refine (HP.out _).mono ?_); rintro e wq ⟨rfl, rfl⟩)
  refine (HO.out _).mono ?_
  rintro e w2 ⟨rfl, g2⟩
  have hn := hB1.2.trans (((Nw.refl w1).alloc _).trans g2)
  go_wp2
  go_ret
  exact ⟨rfl, hn⟩
set_option maxRecDepth 100000 in
set_option maxHeartbeats 2000000 in
theorem main_ok (l : List UInt8) (a k t r m v x E : Int) (T : Nat) (b1 b2 b3 b4 b5 b6 b7 : UInt8) (B : List UInt8) (R S : PS) (W : World) (hl : l.length ≤ 1600) (hT : T < 8)
    (HP : Hid (∀ z, Calls Try.prog 22 #[.int .i64 a, .int .i64 8] z fun e w' => e = .returned (.int .i64 T) ∧ z = w'))
    (h1 : (b1.toNat : Int) = T) (h2 : IntKind.u8.wrap k = (b2.toNat : Int)) (h3 : wrap64 (t + 1) % 256 = (b3.toNat : Int)) (h4 : wrap64 (r + 1) % 256 = (b4.toNat : Int)) (h5 : IntKind.u8.wrap m = (b5.toNat : Int)) (h6 : IntKind.u8.wrap v = (b6.toNat : Int)) (h7 : IntKind.u8.wrap x = (b7.toNat : Int))
    (HO : Hid (∀ z, Calls Try.prog 14 #[.agg #[.int .i64 k, .int .i64 t, .int .i64 r, .int .i64 m, .int .i64 v, .int .i64 x]] z fun e w' => e = .returned (.int .i64 E) ∧ Nw z w')) (hE : E = 0) (hv : lvl t r ≠ -1)
    (HEn : Hid (∀ z, Calls Try.prog 15 #[stV [2, b1, b2, b3, b4, b5, b6, b7]] z fun e w' => e = .returned (.tuple #[.int .i64 T, .agg #[.int .i64 k, .int .i64 t, .int .i64 r, .int .i64 m, .int .i64 v, .int .i64 x], .bool true]) ∧ Nw z w'))
    (hB : l.take (l.length / 8 * 8) = B) (hBl : B.length ≤ 1600) (HR1 : Hid (∀ z, Calls Try.prog 16 #[stV B] z (RdS z R))) (HR2 : Hid (∀ z, Calls Try.prog 16 #[stV (B ++ [2, b1, b2, b3, b4, b5, b6, b7])] z (RdS z S))) (hfR : Hid (Fits R)) (hn2 : T < S.th.length) (hpk : Hid (S.pk = R.pk)) (hSR : Hid (32 ≤ (R.th.getD T []).length → S = R)) (hST : Hid ((R.th.getD T []).length < 32 → S.th[T] = R.th.getD T [] ++ [(k, t, r, m, v, x)])) :
    Calls Try.prog 6 #[stV l, .int .i64 a, .agg #[.int .i64 k, .int .i64 t, .int .i64 r, .int .i64 m, .int .i64 v, .int .i64 x]] W fun e w' => e = .returned (.bool true) ∧ Nw W w' := by
  subst hE
  have dl : decide ((1600 : Int) < (l.length : Int)) = false := by simp; omega
  have hcells : #[.int .u8 2, .int .u8 (T : Int), .int .u8 (b2.toNat : Int), .int .u8 (b3.toNat : Int), .int .u8 (b4.toNat : Int), .int .u8 (b5.toNat : Int), .int .u8 (b6.toNat : Int), .int .u8 (b7.toNat : Int)] = (#[.int .u8 2, .int .u8 (b1.toNat : Int), .int .u8 (b2.toNat : Int), .int .u8 (b3.toNat : Int), .int .u8 (b4.toNat : Int), .int .u8 (b5.toNat : Int), .int .u8 (b6.toNat : Int), .int .u8 (b7.toNat : Int)] : Array Value) := by rw [h1]
  have hcv : ∀ (z : World) (b : Nat), z.heap.size = b → (convert 55 9 (.slice (some ⟨b, 0, none⟩) 8 8)).run Try.prog (z.alloc (.cells #[.int .u8 2, .int .u8 (T : Int), .int .u8 (b2.toNat : Int), .int .u8 (b3.toNat : Int), .int .u8 (b4.toNat : Int), .int .u8 (b5.toNat : Int), .int .u8 (b6.toNat : Int), .int .u8 (b7.toNat : Int)] 5)) =
      .ok (stV [2, b1, b2, b3, b4, b5, b6, b7]) (z.alloc (.cells #[.int .u8 2, .int .u8 (T : Int), .int .u8 (b2.toNat : Int), .int .u8 (b3.toNat : Int), .int .u8 (b4.toNat : Int), .int .u8 (b5.toNat : Int), .int .u8 (b6.toNat : Int), .int .u8 (b7.toNat : Int)] 5)) := fun z b h => by rw [← h1]; exact conv8 z b h 2 b1 b2 b3 b4 b5 b6 b7
  clear hcells
  have k0_ : ∀ y, CV W [(W.heap.size, 0, .int .i64 k), (W.heap.size, 1, .int .i64 t), (W.heap.size, 2, .int .i64 r), (W.heap.size, 3, .int .i64 m), (W.heap.size, 4, .int .i64 v), (W.heap.size, 5, .int .i64 x)] y → y.cell? ⟨W.heap.size, 0, none⟩ = some (.int .i64 k) := fun y h => h.at _ _ _ (by simp)
  have k1_ : ∀ y, CV W [(W.heap.size, 0, .int .i64 k), (W.heap.size, 1, .int .i64 t), (W.heap.size, 2, .int .i64 r), (W.heap.size, 3, .int .i64 m), (W.heap.size, 4, .int .i64 v), (W.heap.size, 5, .int .i64 x)] y → y.cell? ⟨W.heap.size, 1, none⟩ = some (.int .i64 t) := fun y h => h.at _ _ _ (by simp)
  have k2_ : ∀ y, CV W [(W.heap.size, 0, .int .i64 k), (W.heap.size, 1, .int .i64 t), (W.heap.size, 2, .int .i64 r), (W.heap.size, 3, .int .i64 m), (W.heap.size, 4, .int .i64 v), (W.heap.size, 5, .int .i64 x)] y → y.cell? ⟨W.heap.size, 2, none⟩ = some (.int .i64 r) := fun y h => h.at _ _ _ (by simp)
  have k3_ : ∀ y, CV W [(W.heap.size, 0, .int .i64 k), (W.heap.size, 1, .int .i64 t), (W.heap.size, 2, .int .i64 r), (W.heap.size, 3, .int .i64 m), (W.heap.size, 4, .int .i64 v), (W.heap.size, 5, .int .i64 x)] y → y.cell? ⟨W.heap.size, 3, none⟩ = some (.int .i64 m) := fun y h => h.at _ _ _ (by simp)
  have k4_ : ∀ y, CV W [(W.heap.size, 0, .int .i64 k), (W.heap.size, 1, .int .i64 t), (W.heap.size, 2, .int .i64 r), (W.heap.size, 3, .int .i64 m), (W.heap.size, 4, .int .i64 v), (W.heap.size, 5, .int .i64 x)] y → y.cell? ⟨W.heap.size, 4, none⟩ = some (.int .i64 v) := fun y h => h.at _ _ _ (by simp)
  have k5_ : ∀ y, CV W [(W.heap.size, 0, .int .i64 k), (W.heap.size, 1, .int .i64 t), (W.heap.size, 2, .int .i64 r), (W.heap.size, 3, .int .i64 m), (W.heap.size, 4, .int .i64 v), (W.heap.size, 5, .int .i64 x)] y → y.cell? ⟨W.heap.size, 5, none⟩ = some (.int .i64 x) := fun y h => h.at _ _ _ (by simp)
  go_enter Try.func6, Try.ntmps6
  go_wp2_with fail
  refine (lives_ok _).mono ?_
  rintro e w1 ⟨rfl, g1⟩
  have hB1 : CV W [(W.heap.size, 0, .int .i64 k), (W.heap.size, 1, .int .i64 t), (W.heap.size, 2, .int .i64 r), (W.heap.size, 3, .int .i64 m), (W.heap.size, 4, .int .i64 v), (W.heap.size, 5, .int .i64 x)] w1 := by
    refine CV.step _ _ ?_ g1
    repeat' (first | exact CV.nil ((Nw.refl W).alloc _) | refine CV.cons ?_ ?_)
    all_goals simp [go_sem]
  clear g1
  have a0 := k0_ w1 hB1
  have a1 := k1_ w1 hB1
  have a2 := k2_ w1 hB1
  have a3 := k3_ w1 hB1
  have a4 := k4_ w1 hB1
  have a5 := k5_ w1 hB1
  have hltW : W.heap.size < w1.heap.size := World.block_lt_of_cell? _ _ a0
  go_wp2_with (go_at_call 22; (with_reducible refine (HP.out _).mono ?_); rintro e wq ⟨rfl, rfl⟩)
  refine (HO.out _).mono ?_
  rintro e w2 ⟨rfl, g2⟩
  have hB2 := CV.step' g2 (CV.step' ((Nw.refl w1).alloc (.cells #[.int .u8 2, .int .u8 (T : Int), .int .u8 (b2.toNat : Int), .int .u8 (b3.toNat : Int), .int .u8 (b4.toNat : Int), .int .u8 (b5.toNat : Int), .int .u8 (b6.toNat : Int), .int .u8 (b7.toNat : Int)] 5)) hB1)
  clear g2 hB1 a0 a1 a2 a3 a4 a5 hcv h1 h2 h3 h4 h5 h6 h7 hltW
  have HRf := Lib.hid (fun z => refCheck_ok t r z hv)
  have hxr := ext_rule
  have har := app_rule
  go_wp2_with fail
  refine (HEn.out _).mono ?_
  rintro e w3 ⟨rfl, g3⟩
  have hB3 := CV.step' g3 hB2
  clear g3 hB2
  have a0 := k0_ w3 hB3
  have a1 := k1_ w3 hB3
  have a2 := k2_ w3 hB3
  have a3 := k3_ w3 hB3
  have a4 := k4_ w3 hB3
  have a5 := k5_ w3 hB3
  have hltW : W.heap.size < w3.heap.size := World.block_lt_of_cell? _ _ a0
  have hcc : ¬ (9223372036854775807 < B.length + 8) := by omega
  go_wp2_with fail
  refine (HRf.out _).mono ?_
  rintro e w4 ⟨rfl, g4⟩
  have hB4 := CV.step' g4 (CV.step' ((Nw.refl w3).alloc (.cells #[.int .i64 k, .int .i64 t, .int .i64 r, .int .i64 m, .int .i64 v, .int .i64 x] 37)) hB3)
  clear g4 hB3 a0 a1 a2 a3 a4 a5 hltW HRf
  go_wp2_with fail
  refine (HR1.out _).mono ?_
  rintro e w5 ⟨vt, vp, rfl, hs1, g5⟩
  have hB5 := CV.step' g5 hB4
  clear hB4
  go_wp2_with fail
  refine (HR2.out _).mono ?_
  rintro e w6 ⟨vt', vp', rfl, hs2, g6⟩
  have hB6 := CV.step' g6 hB5
  have HS1 := Lib.hid (hs1.nw g6)
  have HS2 := Lib.hid hs2
  clear hB5 g5 g6
  obtain ⟨⟨d1, d2, d3, d4⟩, hd⟩ : ∃ d, R.cp = d := ⟨_, rfl⟩
  obtain ⟨⟨f1, f2, f3, f4⟩, hf⟩ : ∃ d, S.cp = d := ⟨_, rfl⟩
  have HD := Lib.hid (And.intro hd hf)
  obtain ⟨⟨a1, t1, rfl, hc1⟩, p1, q1, rfl, _⟩ := HS1.out
  obtain ⟨⟨a2, t2, rfl, hc2⟩, p2, q2, rfl, _⟩ := HS2.out
  rcases hc2 with hc2 | ⟨b', o', rfl, hc2⟩
  · rw [hc2] at hn2; simp at hn2
  obtain ⟨u', e2, hu'⟩ := hc2.2 T hn2
  have hb2 := hc2.1
  clear hs1 hs2 hc2
  have HSP : Hid (∀ z, Nw w6 z → ∀ j, Calls Try.prog 24 #[.slice p2 S.pk.length q2, .slice p1 R.pk.length q1] (z.drewN j) fun e w' => e = .returned (.bool true) ∧ ∃ m, w' = z.drewN m) := Lib.hid fun z g j =>
    sameP_q _ _ R.pk z hfR.out.2.2 (by have := HS2.out.2; rw [hpk.out] at this ⊢; exact this.nw g) (HS1.out.2.nw g) j
  have HSS : Hid (32 ≤ (R.th.getD T []).length → ∀ z, Nw w6 z → Calls Try.prog 21 #[scV (.slice a1 R.th.length t1) (.slice p1 R.pk.length q1) R.cp, scV (.slice (some ⟨b', o', none⟩) S.th.length t2) (.slice p2 S.pk.length q2) S.cp] z fun e w' => e = .returned (.bool true) ∧ Nw z w') := Lib.hid fun hh z g => by
    have h2 := HS2.out
    have he := hSR.out hh
    rw [he] at h2 ⊢
    exact sameScript_any _ _ _ _ R z hfR.out (HS1.out.nw g) (h2.nw g)
  rw [hd, hf] at HSS
  rw [hd, hf]
  have ka0 := k0_ w6 hB6
  have ka1 := k1_ w6 hB6
  have ka2 := k2_ w6 hB6
  have ka3 := k3_ w6 hB6
  have ka4 := k4_ w6 hB6
  have ka5 := k5_ w6 hB6
  have hltW : W.heap.size < w6.heap.size := World.block_lt_of_cell? _ _ ka0
  have hW6 := hB6.2
  have hn2' : decide ((S.th.length : Int) ≤ (T : Int)) = false := by simp; omega
  have hT2 : decide ((T : Int) < (S.th.length : Int)) = true := by simp; omega
  have hT0 : (0 : Int) ≤ (T : Int) := by omega
  obtain ⟨n2, hn2e⟩ : ∃ n, S.th.length = n := ⟨_, rfl⟩
  obtain ⟨m2, hm2⟩ : ∃ n, S.pk.length = n := ⟨_, rfl⟩
  obtain ⟨m1, hm1⟩ : ∃ n, R.pk.length = n := ⟨_, rfl⟩
  rw [hm1, hm2] at HSP HSS
  rw [hn2e] at HSS hn2' hT2
  have hnA : decide (n2 ≤ T) = false := by simp; omega
  have hnB : ¬ (n2 ≤ T) := by omega
  rw [hn2e, hm1, hm2]
  clear hd hf k0_ k1_ k2_ k3_ k4_ k5_ hB6 HR1 HR2 hpk hn2e hm1 hm2
  by_cases hTn : T < R.th.length
  · -- the thread is there
    rcases hc1 with hc1 | ⟨b, o, rfl, hc1⟩
    · rw [hc1] at hTn; simp at hTn
    obtain ⟨u, e1, hu⟩ := hc1.2 T hTn
    have hb1 := hc1.1
    have hg : R.th.getD T [] = R.th[T] := by simp [List.getD, hTn]
    rw [hg] at HSS hSR hST
    obtain ⟨au, cu, rfl, _⟩ := hu
    have hT1 : decide ((T : Int) < (R.th.length : Int)) = true := by simp; omega
    have hT1' : (T : Int) < (R.th.length : Int) := by omega
    have hTA : decide (T < R.th.length) = true := by simp; omega
    obtain ⟨h, hh⟩ : ∃ n, R.th[T].length = n := ⟨_, rfl⟩
    rw [hh] at e1 HSS hST
    obtain ⟨n1, hn1⟩ : ∃ n, R.th.length = n := ⟨_, rfl⟩
    have hh32 : h ≤ 100000 := by rw [← hh]; exact hfR.out.2.1 _ (List.getElem_mem hTn)
    have Hh := Lib.hid hh
    simp only [hn1] at HSS hT1 hT1' hTA ⊢
    clear hc1 hg hh hn1
    by_cases h32 : 32 ≤ h
    · have y1 : decide ((32 : Int) ≤ (h : Int)) = true := by simp; omega
      have y2 : decide ((h : Int) < 32) = false := by simp; omega
      have HSS' := Lib.hid (HSS.out h32)
      clear HSS HSP hu' e2
      go_wp2_with fail
      refine (HSS'.out _ (((Nw.refl w6).alloc _).alloc _)).mono ?_
      rintro e w9 ⟨rfl, g9⟩
      have hend := hW6.trans ((((Nw.refl w6).alloc _).alloc _).trans g9)
      go_wp2
      go_ret
      exact ⟨rfl, hend⟩
    · have y1 : decide ((32 : Int) ≤ (h : Int)) = false := by simp; omega
      have y2 : decide ((h : Int) < 32) = true := by simp; omega
      have y3 : IntKind.i64.wrap ((h : Int) + 1) = (h : Int) + 1 := by rw [IntKind.wrap_i64]; omega
      have HSTL := hST.out (by omega)
      obtain ⟨L, hL⟩ : ∃ L, S.th[T] = L := ⟨_, rfl⟩
      rw [hL] at hu' HSTL
      subst HSTL
      obtain ⟨au', cu', rfl, hx⟩ := hu'
      rcases hx with hx | ⟨ob, oo, rfl, hoc⟩
      · simp at hx
      have hlen : (R.th[T] ++ [(k, t, r, m, v, x)]).length = h + 1 := by rw [List.length_append, Hh.out]; rfl
      have hcs := hoc.2 h (by rw [hlen]; omega)
      have hel : (R.th[T] ++ [(k, t, r, m, v, x)])[h]'(by rw [hlen]; omega) = (k, t, r, m, v, x) := by rw [List.getElem_append_right (by rw [Hh.out]; exact Nat.le_refl _)]; simp
      rw [hel] at hcs
      rw [hlen] at e2
      obtain ⟨x0, x1, x2, x3, x4, x5⟩ := hcs
      have hob := hoc.1
      try simp only at x0 x1 x2 x3 x4 x5
      clear hoc hL hST HSS hSR
      go_wp2_with fail
      have h67 : Nw w6 ((w6.alloc (.cells #[.slice (some ⟨b, o, none⟩) n1 t1, .slice p1 m1 q1, .int .i64 d1, .int .i64 d2, .int .i64 d3, .int .i64 d4] 28)).alloc (.cells #[.slice (some ⟨b', o', none⟩) n2 t2, .slice p2 m2 q2, .int .i64 f1, .int .i64 f2, .int .i64 f3, .int .i64 f4] 28)) := ((Nw.refl w6).alloc _).alloc _
      have j0 : ((w6.alloc (.cells #[.slice (some ⟨b, o, none⟩) n1 t1, .slice p1 m1 q1, .int .i64 d1, .int .i64 d2, .int .i64 d3, .int .i64 d4] 28)).alloc (.cells #[.slice (some ⟨b', o', none⟩) n2 t2, .slice p2 m2 q2, .int .i64 f1, .int .i64 f2, .int .i64 f3, .int .i64 f4] 28)).cell? ⟨w6.heap.size, 0, none⟩ = some (.slice (some ⟨b, o, none⟩) n1 t1) := by simp [go_sem]
      have j1 : ((w6.alloc (.cells #[.slice (some ⟨b, o, none⟩) n1 t1, .slice p1 m1 q1, .int .i64 d1, .int .i64 d2, .int .i64 d3, .int .i64 d4] 28)).alloc (.cells #[.slice (some ⟨b', o', none⟩) n2 t2, .slice p2 m2 q2, .int .i64 f1, .int .i64 f2, .int .i64 f3, .int .i64 f4] 28)).cell? ⟨w6.heap.size, 1, none⟩ = some (.slice p1 m1 q1) := by simp [go_sem]
      have j2 : ((w6.alloc (.cells #[.slice (some ⟨b, o, none⟩) n1 t1, .slice p1 m1 q1, .int .i64 d1, .int .i64 d2, .int .i64 d3, .int .i64 d4] 28)).alloc (.cells #[.slice (some ⟨b', o', none⟩) n2 t2, .slice p2 m2 q2, .int .i64 f1, .int .i64 f2, .int .i64 f3, .int .i64 f4] 28)).cell? ⟨w6.heap.size, 2, none⟩ = some (.int .i64 d1) := by simp [go_sem]
      have j3 : ((w6.alloc (.cells #[.slice (some ⟨b, o, none⟩) n1 t1, .slice p1 m1 q1, .int .i64 d1, .int .i64 d2, .int .i64 d3, .int .i64 d4] 28)).alloc (.cells #[.slice (some ⟨b', o', none⟩) n2 t2, .slice p2 m2 q2, .int .i64 f1, .int .i64 f2, .int .i64 f3, .int .i64 f4] 28)).cell? ⟨w6.heap.size, 3, none⟩ = some (.int .i64 d2) := by simp [go_sem]
      have j4 : ((w6.alloc (.cells #[.slice (some ⟨b, o, none⟩) n1 t1, .slice p1 m1 q1, .int .i64 d1, .int .i64 d2, .int .i64 d3, .int .i64 d4] 28)).alloc (.cells #[.slice (some ⟨b', o', none⟩) n2 t2, .slice p2 m2 q2, .int .i64 f1, .int .i64 f2, .int .i64 f3, .int .i64 f4] 28)).cell? ⟨w6.heap.size, 4, none⟩ = some (.int .i64 d3) := by simp [go_sem]
      have j5 : ((w6.alloc (.cells #[.slice (some ⟨b, o, none⟩) n1 t1, .slice p1 m1 q1, .int .i64 d1, .int .i64 d2, .int .i64 d3, .int .i64 d4] 28)).alloc (.cells #[.slice (some ⟨b', o', none⟩) n2 t2, .slice p2 m2 q2, .int .i64 f1, .int .i64 f2, .int .i64 f3, .int .i64 f4] 28)).cell? ⟨w6.heap.size, 5, none⟩ = some (.int .i64 d4) := by simp [go_sem]
      have j6 : ((w6.alloc (.cells #[.slice (some ⟨b, o, none⟩) n1 t1, .slice p1 m1 q1, .int .i64 d1, .int .i64 d2, .int .i64 d3, .int .i64 d4] 28)).alloc (.cells #[.slice (some ⟨b', o', none⟩) n2 t2, .slice p2 m2 q2, .int .i64 f1, .int .i64 f2, .int .i64 f3, .int .i64 f4] 28)).cell? ⟨w6.heap.size + 1, 0, none⟩ = some (.slice (some ⟨b', o', none⟩) n2 t2) := by simp [go_sem]
      have j7 : ((w6.alloc (.cells #[.slice (some ⟨b, o, none⟩) n1 t1, .slice p1 m1 q1, .int .i64 d1, .int .i64 d2, .int .i64 d3, .int .i64 d4] 28)).alloc (.cells #[.slice (some ⟨b', o', none⟩) n2 t2, .slice p2 m2 q2, .int .i64 f1, .int .i64 f2, .int .i64 f3, .int .i64 f4] 28)).cell? ⟨w6.heap.size + 1, 1, none⟩ = some (.slice p2 m2 q2) := by simp [go_sem]
      have j8 : ((w6.alloc (.cells #[.slice (some ⟨b, o, none⟩) n1 t1, .slice p1 m1 q1, .int .i64 d1, .int .i64 d2, .int .i64 d3, .int .i64 d4] 28)).alloc (.cells #[.slice (some ⟨b', o', none⟩) n2 t2, .slice p2 m2 q2, .int .i64 f1, .int .i64 f2, .int .i64 f3, .int .i64 f4] 28)).cell? ⟨w6.heap.size + 1, 2, none⟩ = some (.int .i64 f1) := by simp [go_sem]
      have j9 : ((w6.alloc (.cells #[.slice (some ⟨b, o, none⟩) n1 t1, .slice p1 m1 q1, .int .i64 d1, .int .i64 d2, .int .i64 d3, .int .i64 d4] 28)).alloc (.cells #[.slice (some ⟨b', o', none⟩) n2 t2, .slice p2 m2 q2, .int .i64 f1, .int .i64 f2, .int .i64 f3, .int .i64 f4] 28)).cell? ⟨w6.heap.size + 1, 3, none⟩ = some (.int .i64 f2) := by simp [go_sem]
      have j10 : ((w6.alloc (.cells #[.slice (some ⟨b, o, none⟩) n1 t1, .slice p1 m1 q1, .int .i64 d1, .int .i64 d2, .int .i64 d3, .int .i64 d4] 28)).alloc (.cells #[.slice (some ⟨b', o', none⟩) n2 t2, .slice p2 m2 q2, .int .i64 f1, .int .i64 f2, .int .i64 f3, .int .i64 f4] 28)).cell? ⟨w6.heap.size + 1, 4, none⟩ = some (.int .i64 f3) := by simp [go_sem]
      have j11 : ((w6.alloc (.cells #[.slice (some ⟨b, o, none⟩) n1 t1, .slice p1 m1 q1, .int .i64 d1, .int .i64 d2, .int .i64 d3, .int .i64 d4] 28)).alloc (.cells #[.slice (some ⟨b', o', none⟩) n2 t2, .slice p2 m2 q2, .int .i64 f1, .int .i64 f2, .int .i64 f3, .int .i64 f4] 28)).cell? ⟨w6.heap.size + 1, 5, none⟩ = some (.int .i64 f4) := by simp [go_sem]
      have l0 : ((w6.alloc (.cells #[.slice (some ⟨b, o, none⟩) n1 t1, .slice p1 m1 q1, .int .i64 d1, .int .i64 d2, .int .i64 d3, .int .i64 d4] 28)).alloc (.cells #[.slice (some ⟨b', o', none⟩) n2 t2, .slice p2 m2 q2, .int .i64 f1, .int .i64 f2, .int .i64 f3, .int .i64 f4] 28)).cell? ⟨W.heap.size, 0, none⟩ = some (.int .i64 k) := h67.keep' ka0
      have l1 : ((w6.alloc (.cells #[.slice (some ⟨b, o, none⟩) n1 t1, .slice p1 m1 q1, .int .i64 d1, .int .i64 d2, .int .i64 d3, .int .i64 d4] 28)).alloc (.cells #[.slice (some ⟨b', o', none⟩) n2 t2, .slice p2 m2 q2, .int .i64 f1, .int .i64 f2, .int .i64 f3, .int .i64 f4] 28)).cell? ⟨W.heap.size, 1, none⟩ = some (.int .i64 t) := h67.keep' ka1
      have l2 : ((w6.alloc (.cells #[.slice (some ⟨b, o, none⟩) n1 t1, .slice p1 m1 q1, .int .i64 d1, .int .i64 d2, .int .i64 d3, .int .i64 d4] 28)).alloc (.cells #[.slice (some ⟨b', o', none⟩) n2 t2, .slice p2 m2 q2, .int .i64 f1, .int .i64 f2, .int .i64 f3, .int .i64 f4] 28)).cell? ⟨W.heap.size, 2, none⟩ = some (.int .i64 r) := h67.keep' ka2
      have l3 : ((w6.alloc (.cells #[.slice (some ⟨b, o, none⟩) n1 t1, .slice p1 m1 q1, .int .i64 d1, .int .i64 d2, .int .i64 d3, .int .i64 d4] 28)).alloc (.cells #[.slice (some ⟨b', o', none⟩) n2 t2, .slice p2 m2 q2, .int .i64 f1, .int .i64 f2, .int .i64 f3, .int .i64 f4] 28)).cell? ⟨W.heap.size, 3, none⟩ = some (.int .i64 m) := h67.keep' ka3
      have l4 : ((w6.alloc (.cells #[.slice (some ⟨b, o, none⟩) n1 t1, .slice p1 m1 q1, .int .i64 d1, .int .i64 d2, .int .i64 d3, .int .i64 d4] 28)).alloc (.cells #[.slice (some ⟨b', o', none⟩) n2 t2, .slice p2 m2 q2, .int .i64 f1, .int .i64 f2, .int .i64 f3, .int .i64 f4] 28)).cell? ⟨W.heap.size, 4, none⟩ = some (.int .i64 v) := h67.keep' ka4
      have l5 : ((w6.alloc (.cells #[.slice (some ⟨b, o, none⟩) n1 t1, .slice p1 m1 q1, .int .i64 d1, .int .i64 d2, .int .i64 d3, .int .i64 d4] 28)).alloc (.cells #[.slice (some ⟨b', o', none⟩) n2 t2, .slice p2 m2 q2, .int .i64 f1, .int .i64 f2, .int .i64 f3, .int .i64 f4] 28)).cell? ⟨W.heap.size, 5, none⟩ = some (.int .i64 x) := h67.keep' ka5
      have l6 : ((w6.alloc (.cells #[.slice (some ⟨b, o, none⟩) n1 t1, .slice p1 m1 q1, .int .i64 d1, .int .i64 d2, .int .i64 d3, .int .i64 d4] 28)).alloc (.cells #[.slice (some ⟨b', o', none⟩) n2 t2, .slice p2 m2 q2, .int .i64 f1, .int .i64 f2, .int .i64 f3, .int .i64 f4] 28)).cell? ⟨b', o' + T, none⟩ = some (.slice (some ⟨ob, oo, none⟩) (h + 1) cu') := h67.keep' e2
      have l7 : ((w6.alloc (.cells #[.slice (some ⟨b, o, none⟩) n1 t1, .slice p1 m1 q1, .int .i64 d1, .int .i64 d2, .int .i64 d3, .int .i64 d4] 28)).alloc (.cells #[.slice (some ⟨b', o', none⟩) n2 t2, .slice p2 m2 q2, .int .i64 f1, .int .i64 f2, .int .i64 f3, .int .i64 f4] 28)).cell? ⟨ob, oo + h * 6, none⟩ = some (.int .i64 k) := h67.keep' x0
      have l8 : ((w6.alloc (.cells #[.slice (some ⟨b, o, none⟩) n1 t1, .slice p1 m1 q1, .int .i64 d1, .int .i64 d2, .int .i64 d3, .int .i64 d4] 28)).alloc (.cells #[.slice (some ⟨b', o', none⟩) n2 t2, .slice p2 m2 q2, .int .i64 f1, .int .i64 f2, .int .i64 f3, .int .i64 f4] 28)).cell? ⟨ob, oo + h * 6 + 1, none⟩ = some (.int .i64 t) := h67.keep' x1
      have l9 : ((w6.alloc (.cells #[.slice (some ⟨b, o, none⟩) n1 t1, .slice p1 m1 q1, .int .i64 d1, .int .i64 d2, .int .i64 d3, .int .i64 d4] 28)).alloc (.cells #[.slice (some ⟨b', o', none⟩) n2 t2, .slice p2 m2 q2, .int .i64 f1, .int .i64 f2, .int .i64 f3, .int .i64 f4] 28)).cell? ⟨ob, oo + h * 6 + 2, none⟩ = some (.int .i64 r) := h67.keep' x2
      have l10 : ((w6.alloc (.cells #[.slice (some ⟨b, o, none⟩) n1 t1, .slice p1 m1 q1, .int .i64 d1, .int .i64 d2, .int .i64 d3, .int .i64 d4] 28)).alloc (.cells #[.slice (some ⟨b', o', none⟩) n2 t2, .slice p2 m2 q2, .int .i64 f1, .int .i64 f2, .int .i64 f3, .int .i64 f4] 28)).cell? ⟨ob, oo + h * 6 + 3, none⟩ = some (.int .i64 m) := h67.keep' x3
      have l11 : ((w6.alloc (.cells #[.slice (some ⟨b, o, none⟩) n1 t1, .slice p1 m1 q1, .int .i64 d1, .int .i64 d2, .int .i64 d3, .int .i64 d4] 28)).alloc (.cells #[.slice (some ⟨b', o', none⟩) n2 t2, .slice p2 m2 q2, .int .i64 f1, .int .i64 f2, .int .i64 f3, .int .i64 f4] 28)).cell? ⟨ob, oo + h * 6 + 4, none⟩ = some (.int .i64 v) := h67.keep' x4
      have l12 : ((w6.alloc (.cells #[.slice (some ⟨b, o, none⟩) n1 t1, .slice p1 m1 q1, .int .i64 d1, .int .i64 d2, .int .i64 d3, .int .i64 d4] 28)).alloc (.cells #[.slice (some ⟨b', o', none⟩) n2 t2, .slice p2 m2 q2, .int .i64 f1, .int .i64 f2, .int .i64 f3, .int .i64 f4] 28)).cell? ⟨ob, oo + h * 6 + 5, none⟩ = some (.int .i64 x) := h67.keep' x5
      have l13 : ((w6.alloc (.cells #[.slice (some ⟨b, o, none⟩) n1 t1, .slice p1 m1 q1, .int .i64 d1, .int .i64 d2, .int .i64 d3, .int .i64 d4] 28)).alloc (.cells #[.slice (some ⟨b', o', none⟩) n2 t2, .slice p2 m2 q2, .int .i64 f1, .int .i64 f2, .int .i64 f3, .int .i64 f4] 28)).cell? ⟨b, o + T, none⟩ = some (.slice au h cu) := h67.keep' e1
      obtain ⟨w7, hw7⟩ : ∃ z, ((w6.alloc (.cells #[.slice (some ⟨b, o, none⟩) n1 t1, .slice p1 m1 q1, .int .i64 d1, .int .i64 d2, .int .i64 d3, .int .i64 d4] 28)).alloc (.cells #[.slice (some ⟨b', o', none⟩) n2 t2, .slice p2 m2 q2, .int .i64 f1, .int .i64 f2, .int .i64 f3, .int .i64 f4] 28)) = z := ⟨_, rfl⟩
      rw [hw7] at h67 j0 j1 j2 j3 j4 j5 j6 j7 j8 j9 j10 j11 l0 l1 l2 l3 l4 l5 l6 l7 l8 l9 l10 l11 l12 l13 ⊢
      clear hw7 ka0 ka1 ka2 ka3 ka4 ka5 e2 x0 x1 x2 x3 x4 x5 hltW e1
      have HSP' := Lib.hid (HSP.out w7 h67)
      have hend := hW6.trans h67
      clear HSP h67 hob hb2
      go_quiet ((go_at_call 24; (with_reducible exact HSP'.out _)))
      go_wp2
      go_ret
      exact ⟨rfl, hend.drewN _⟩
  · have hg : R.th.getD T [] = [] := by simp [List.getD, List.getElem?_eq_none (Nat.le_of_not_lt hTn)]
    rw [hg] at HSS hSR hST
    have hT1 : decide ((T : Int) < (R.th.length : Int)) = false := by simp; omega
    have hT1' : ¬ (T : Int) < (R.th.length : Int) := by omega
    have hTA : decide (T < R.th.length) = false := by simp; omega
    obtain ⟨n1, hn1⟩ : ∃ n, R.th.length = n := ⟨_, rfl⟩
    try simp only [hn1] at HSS hT1 hT1' hTA ⊢
    clear hc1 hg hn1
    have HST := hST
    have HSTL := HST.out (by simp)
    obtain ⟨L, hL⟩ : ∃ L, S.th[T] = L := ⟨_, rfl⟩
    rw [hL] at hu' HSTL
    subst HSTL
    obtain ⟨au', cu', rfl, hx⟩ := hu'
    rcases hx with hx | ⟨ob, oo, rfl, hoc⟩
    · simp at hx
    have hcs := hoc.2 0 (by simp)
    try simp only [List.nil_append, List.getElem_cons_zero, Nat.zero_mul, Nat.add_zero] at hcs
    try simp only [List.nil_append, List.length_cons, List.length_nil, Nat.zero_add] at e2
    obtain ⟨x0, x1, x2, x3, x4, x5⟩ := hcs
    have hob := hoc.1
    try simp only at x0 x1 x2 x3 x4 x5
    clear hoc hL HST hST HSS hSR
    go_wp2_with fail
    have h67 : Nw w6 ((w6.alloc (.cells #[.slice a1 n1 t1, .slice p1 m1 q1, .int .i64 d1, .int .i64 d2, .int .i64 d3, .int .i64 d4] 28)).alloc (.cells #[.slice (some ⟨b', o', none⟩) n2 t2, .slice p2 m2 q2, .int .i64 f1, .int .i64 f2, .int .i64 f3, .int .i64 f4] 28)) := ((Nw.refl w6).alloc _).alloc _
    have j0 : ((w6.alloc (.cells #[.slice a1 n1 t1, .slice p1 m1 q1, .int .i64 d1, .int .i64 d2, .int .i64 d3, .int .i64 d4] 28)).alloc (.cells #[.slice (some ⟨b', o', none⟩) n2 t2, .slice p2 m2 q2, .int .i64 f1, .int .i64 f2, .int .i64 f3, .int .i64 f4] 28)).cell? ⟨w6.heap.size, 0, none⟩ = some (.slice a1 n1 t1) := by simp [go_sem]
    have j1 : ((w6.alloc (.cells #[.slice a1 n1 t1, .slice p1 m1 q1, .int .i64 d1, .int .i64 d2, .int .i64 d3, .int .i64 d4] 28)).alloc (.cells #[.slice (some ⟨b', o', none⟩) n2 t2, .slice p2 m2 q2, .int .i64 f1, .int .i64 f2, .int .i64 f3, .int .i64 f4] 28)).cell? ⟨w6.heap.size, 1, none⟩ = some (.slice p1 m1 q1) := by simp [go_sem]
    have j2 : ((w6.alloc (.cells #[.slice a1 n1 t1, .slice p1 m1 q1, .int .i64 d1, .int .i64 d2, .int .i64 d3, .int .i64 d4] 28)).alloc (.cells #[.slice (some ⟨b', o', none⟩) n2 t2, .slice p2 m2 q2, .int .i64 f1, .int .i64 f2, .int .i64 f3, .int .i64 f4] 28)).cell? ⟨w6.heap.size, 2, none⟩ = some (.int .i64 d1) := by simp [go_sem]
    have j3 : ((w6.alloc (.cells #[.slice a1 n1 t1, .slice p1 m1 q1, .int .i64 d1, .int .i64 d2, .int .i64 d3, .int .i64 d4] 28)).alloc (.cells #[.slice (some ⟨b', o', none⟩) n2 t2, .slice p2 m2 q2, .int .i64 f1, .int .i64 f2, .int .i64 f3, .int .i64 f4] 28)).cell? ⟨w6.heap.size, 3, none⟩ = some (.int .i64 d2) := by simp [go_sem]
    have j4 : ((w6.alloc (.cells #[.slice a1 n1 t1, .slice p1 m1 q1, .int .i64 d1, .int .i64 d2, .int .i64 d3, .int .i64 d4] 28)).alloc (.cells #[.slice (some ⟨b', o', none⟩) n2 t2, .slice p2 m2 q2, .int .i64 f1, .int .i64 f2, .int .i64 f3, .int .i64 f4] 28)).cell? ⟨w6.heap.size, 4, none⟩ = some (.int .i64 d3) := by simp [go_sem]
    have j5 : ((w6.alloc (.cells #[.slice a1 n1 t1, .slice p1 m1 q1, .int .i64 d1, .int .i64 d2, .int .i64 d3, .int .i64 d4] 28)).alloc (.cells #[.slice (some ⟨b', o', none⟩) n2 t2, .slice p2 m2 q2, .int .i64 f1, .int .i64 f2, .int .i64 f3, .int .i64 f4] 28)).cell? ⟨w6.heap.size, 5, none⟩ = some (.int .i64 d4) := by simp [go_sem]
    have j6 : ((w6.alloc (.cells #[.slice a1 n1 t1, .slice p1 m1 q1, .int .i64 d1, .int .i64 d2, .int .i64 d3, .int .i64 d4] 28)).alloc (.cells #[.slice (some ⟨b', o', none⟩) n2 t2, .slice p2 m2 q2, .int .i64 f1, .int .i64 f2, .int .i64 f3, .int .i64 f4] 28)).cell? ⟨w6.heap.size + 1, 0, none⟩ = some (.slice (some ⟨b', o', none⟩) n2 t2) := by simp [go_sem]
    have j7 : ((w6.alloc (.cells #[.slice a1 n1 t1, .slice p1 m1 q1, .int .i64 d1, .int .i64 d2, .int .i64 d3, .int .i64 d4] 28)).alloc (.cells #[.slice (some ⟨b', o', none⟩) n2 t2, .slice p2 m2 q2, .int .i64 f1, .int .i64 f2, .int .i64 f3, .int .i64 f4] 28)).cell? ⟨w6.heap.size + 1, 1, none⟩ = some (.slice p2 m2 q2) := by simp [go_sem]
    have j8 : ((w6.alloc (.cells #[.slice a1 n1 t1, .slice p1 m1 q1, .int .i64 d1, .int .i64 d2, .int .i64 d3, .int .i64 d4] 28)).alloc (.cells #[.slice (some ⟨b', o', none⟩) n2 t2, .slice p2 m2 q2, .int .i64 f1, .int .i64 f2, .int .i64 f3, .int .i64 f4] 28)).cell? ⟨w6.heap.size + 1, 2, none⟩ = some (.int .i64 f1) := by simp [go_sem]
    have j9 : ((w6.alloc (.cells #[.slice a1 n1 t1, .slice p1 m1 q1, .int .i64 d1, .int .i64 d2, .int .i64 d3, .int .i64 d4] 28)).alloc (.cells #[.slice (some ⟨b', o', none⟩) n2 t2, .slice p2 m2 q2, .int .i64 f1, .int .i64 f2, .int .i64 f3, .int .i64 f4] 28)).cell? ⟨w6.heap.size + 1, 3, none⟩ = some (.int .i64 f2) := by simp [go_sem]
    have j10 : ((w6.alloc (.cells #[.slice a1 n1 t1, .slice p1 m1 q1, .int .i64 d1, .int .i64 d2, .int .i64 d3, .int .i64 d4] 28)).alloc (.cells #[.slice (some ⟨b', o', none⟩) n2 t2, .slice p2 m2 q2, .int .i64 f1, .int .i64 f2, .int .i64 f3, .int .i64 f4] 28)).cell? ⟨w6.heap.size + 1, 4, none⟩ = some (.int .i64 f3) := by simp [go_sem]
    have j11 : ((w6.alloc (.cells #[.slice a1 n1 t1, .slice p1 m1 q1, .int .i64 d1, .int .i64 d2, .int .i64 d3, .int .i64 d4] 28)).alloc (.cells #[.slice (some ⟨b', o', none⟩) n2 t2, .slice p2 m2 q2, .int .i64 f1, .int .i64 f2, .int .i64 f3, .int .i64 f4] 28)).cell? ⟨w6.heap.size + 1, 5, none⟩ = some (.int .i64 f4) := by simp [go_sem]
    have l0 : ((w6.alloc (.cells #[.slice a1 n1 t1, .slice p1 m1 q1, .int .i64 d1, .int .i64 d2, .int .i64 d3, .int .i64 d4] 28)).alloc (.cells #[.slice (some ⟨b', o', none⟩) n2 t2, .slice p2 m2 q2, .int .i64 f1, .int .i64 f2, .int .i64 f3, .int .i64 f4] 28)).cell? ⟨W.heap.size, 0, none⟩ = some (.int .i64 k) := h67.keep' ka0
    have l1 : ((w6.alloc (.cells #[.slice a1 n1 t1, .slice p1 m1 q1, .int .i64 d1, .int .i64 d2, .int .i64 d3, .int .i64 d4] 28)).alloc (.cells #[.slice (some ⟨b', o', none⟩) n2 t2, .slice p2 m2 q2, .int .i64 f1, .int .i64 f2, .int .i64 f3, .int .i64 f4] 28)).cell? ⟨W.heap.size, 1, none⟩ = some (.int .i64 t) := h67.keep' ka1
    have l2 : ((w6.alloc (.cells #[.slice a1 n1 t1, .slice p1 m1 q1, .int .i64 d1, .int .i64 d2, .int .i64 d3, .int .i64 d4] 28)).alloc (.cells #[.slice (some ⟨b', o', none⟩) n2 t2, .slice p2 m2 q2, .int .i64 f1, .int .i64 f2, .int .i64 f3, .int .i64 f4] 28)).cell? ⟨W.heap.size, 2, none⟩ = some (.int .i64 r) := h67.keep' ka2
    have l3 : ((w6.alloc (.cells #[.slice a1 n1 t1, .slice p1 m1 q1, .int .i64 d1, .int .i64 d2, .int .i64 d3, .int .i64 d4] 28)).alloc (.cells #[.slice (some ⟨b', o', none⟩) n2 t2, .slice p2 m2 q2, .int .i64 f1, .int .i64 f2, .int .i64 f3, .int .i64 f4] 28)).cell? ⟨W.heap.size, 3, none⟩ = some (.int .i64 m) := h67.keep' ka3
    have l4 : ((w6.alloc (.cells #[.slice a1 n1 t1, .slice p1 m1 q1, .int .i64 d1, .int .i64 d2, .int .i64 d3, .int .i64 d4] 28)).alloc (.cells #[.slice (some ⟨b', o', none⟩) n2 t2, .slice p2 m2 q2, .int .i64 f1, .int .i64 f2, .int .i64 f3, .int .i64 f4] 28)).cell? ⟨W.heap.size, 4, none⟩ = some (.int .i64 v) := h67.keep' ka4
    have l5 : ((w6.alloc (.cells #[.slice a1 n1 t1, .slice p1 m1 q1, .int .i64 d1, .int .i64 d2, .int .i64 d3, .int .i64 d4] 28)).alloc (.cells #[.slice (some ⟨b', o', none⟩) n2 t2, .slice p2 m2 q2, .int .i64 f1, .int .i64 f2, .int .i64 f3, .int .i64 f4] 28)).cell? ⟨W.heap.size, 5, none⟩ = some (.int .i64 x) := h67.keep' ka5
    have l6 : ((w6.alloc (.cells #[.slice a1 n1 t1, .slice p1 m1 q1, .int .i64 d1, .int .i64 d2, .int .i64 d3, .int .i64 d4] 28)).alloc (.cells #[.slice (some ⟨b', o', none⟩) n2 t2, .slice p2 m2 q2, .int .i64 f1, .int .i64 f2, .int .i64 f3, .int .i64 f4] 28)).cell? ⟨b', o' + T, none⟩ = some (.slice (some ⟨ob, oo, none⟩) 1 cu') := h67.keep' e2
    have l7 : ((w6.alloc (.cells #[.slice a1 n1 t1, .slice p1 m1 q1, .int .i64 d1, .int .i64 d2, .int .i64 d3, .int .i64 d4] 28)).alloc (.cells #[.slice (some ⟨b', o', none⟩) n2 t2, .slice p2 m2 q2, .int .i64 f1, .int .i64 f2, .int .i64 f3, .int .i64 f4] 28)).cell? ⟨ob, oo, none⟩ = some (.int .i64 k) := h67.keep' x0
    have l8 : ((w6.alloc (.cells #[.slice a1 n1 t1, .slice p1 m1 q1, .int .i64 d1, .int .i64 d2, .int .i64 d3, .int .i64 d4] 28)).alloc (.cells #[.slice (some ⟨b', o', none⟩) n2 t2, .slice p2 m2 q2, .int .i64 f1, .int .i64 f2, .int .i64 f3, .int .i64 f4] 28)).cell? ⟨ob, oo + 1, none⟩ = some (.int .i64 t) := h67.keep' x1
    have l9 : ((w6.alloc (.cells #[.slice a1 n1 t1, .slice p1 m1 q1, .int .i64 d1, .int .i64 d2, .int .i64 d3, .int .i64 d4] 28)).alloc (.cells #[.slice (some ⟨b', o', none⟩) n2 t2, .slice p2 m2 q2, .int .i64 f1, .int .i64 f2, .int .i64 f3, .int .i64 f4] 28)).cell? ⟨ob, oo + 2, none⟩ = some (.int .i64 r) := h67.keep' x2
    have l10 : ((w6.alloc (.cells #[.slice a1 n1 t1, .slice p1 m1 q1, .int .i64 d1, .int .i64 d2, .int .i64 d3, .int .i64 d4] 28)).alloc (.cells #[.slice (some ⟨b', o', none⟩) n2 t2, .slice p2 m2 q2, .int .i64 f1, .int .i64 f2, .int .i64 f3, .int .i64 f4] 28)).cell? ⟨ob, oo + 3, none⟩ = some (.int .i64 m) := h67.keep' x3
    have l11 : ((w6.alloc (.cells #[.slice a1 n1 t1, .slice p1 m1 q1, .int .i64 d1, .int .i64 d2, .int .i64 d3, .int .i64 d4] 28)).alloc (.cells #[.slice (some ⟨b', o', none⟩) n2 t2, .slice p2 m2 q2, .int .i64 f1, .int .i64 f2, .int .i64 f3, .int .i64 f4] 28)).cell? ⟨ob, oo + 4, none⟩ = some (.int .i64 v) := h67.keep' x4
    have l12 : ((w6.alloc (.cells #[.slice a1 n1 t1, .slice p1 m1 q1, .int .i64 d1, .int .i64 d2, .int .i64 d3, .int .i64 d4] 28)).alloc (.cells #[.slice (some ⟨b', o', none⟩) n2 t2, .slice p2 m2 q2, .int .i64 f1, .int .i64 f2, .int .i64 f3, .int .i64 f4] 28)).cell? ⟨ob, oo + 5, none⟩ = some (.int .i64 x) := h67.keep' x5
    obtain ⟨w7, hw7⟩ : ∃ z, ((w6.alloc (.cells #[.slice a1 n1 t1, .slice p1 m1 q1, .int .i64 d1, .int .i64 d2, .int .i64 d3, .int .i64 d4] 28)).alloc (.cells #[.slice (some ⟨b', o', none⟩) n2 t2, .slice p2 m2 q2, .int .i64 f1, .int .i64 f2, .int .i64 f3, .int .i64 f4] 28)) = z := ⟨_, rfl⟩
    rw [hw7] at h67 j0 j1 j2 j3 j4 j5 j6 j7 j8 j9 j10 j11 l0 l1 l2 l3 l4 l5 l6 l7 l8 l9 l10 l11 l12 ⊢
    clear hw7 ka0 ka1 ka2 ka3 ka4 ka5 e2 x0 x1 x2 x3 x4 x5 hltW
    have HSP' := Lib.hid (HSP.out w7 h67)
    have hend := hW6.trans h67
    clear HSP h67 hob hb2
    go_quiet ((go_at_call 24; (with_reducible exact HSP'.out _)))
    go_wp2
    go_ret
    exact ⟨rfl, hend.drewN _⟩

end Go.Proofs.Ytmegaipedagcjaa.scriptOps
