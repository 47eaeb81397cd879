
/- addCaps, addOp, addPick, add. -/
import Derived.Test.YtmegaipedagcjaaScJ
import Derived.Test.YtmegaipedagcjaaScD
namespace Go.Proofs.Ytmegaipedagcjaa
open Go.RowKit
set_option linter.unusedVariables false      -- a contract need not use every name

set_option maxRecDepth 100000 in
set_option maxHeartbeats 2000000 in
theorem addCaps_no1 (B : Nat) (e0 e1 e2 e3 e4 e5 e6 e7 : UInt8) (L : List UInt8) (BT : Bool) (w : World) (HC : Hid (∀ z, Calls Try.prog 46 #[.agg #[.int .i64 e1.toNat, .int .i64 e2.toNat, .int .i64 e3.toNat, .int .i64 e4.toNat]] z fun e w' => e = .returned (.bool false) ∧ Nw z w'))
    (HT : Hid (∀ z, Calls Try.prog 41 #[.int .i64 e5.toNat] z fun e w' => e = .returned (.bool BT) ∧ Nw z w'))
    (HE : Hid (∀ z, Calls Try.prog 27 #[.agg #[.int .i64 e1.toNat, .int .i64 e2.toNat, .int .i64 e3.toNat, .int .i64 e4.toNat], .int .i64 e5.toNat] z fun e w' => e = .returned (stV L) ∧ Nw z w')) :
    Calls Try.prog 54 #[.pointer (some ⟨B, 0, none⟩), stV [e0, e1, e2, e3, e4, e5, e6, e7]] w fun e w' => e = .returned (.tuple #[]) ∧ Nw w w' := by
  have g1 : ∀ h, (⟨#[e0, e1, e2, e3, e4, e5, e6, e7]⟩ : ByteArray)[1]'h = e1 := fun _ => rfl
  have g2 : ∀ h, (⟨#[e0, e1, e2, e3, e4, e5, e6, e7]⟩ : ByteArray)[2]'h = e2 := fun _ => rfl
  have g3 : ∀ h, (⟨#[e0, e1, e2, e3, e4, e5, e6, e7]⟩ : ByteArray)[3]'h = e3 := fun _ => rfl
  have g4 : ∀ h, (⟨#[e0, e1, e2, e3, e4, e5, e6, e7]⟩ : ByteArray)[4]'h = e4 := fun _ => rfl
  have g5 : ∀ h, (⟨#[e0, e1, e2, e3, e4, e5, e6, e7]⟩ : ByteArray)[5]'h = e5 := fun _ => rfl
  have t1 : e1.toNat < 256 := e1.toNat_lt
  have w1 : IntKind.i64.wrap (e1.toNat : Int) = (e1.toNat : Int) := by rw [IntKind.wrap_i64]; omega
  have t2 : e2.toNat < 256 := e2.toNat_lt
  have w2 : IntKind.i64.wrap (e2.toNat : Int) = (e2.toNat : Int) := by rw [IntKind.wrap_i64]; omega
  have t3 : e3.toNat < 256 := e3.toNat_lt
  have w3 : IntKind.i64.wrap (e3.toNat : Int) = (e3.toNat : Int) := by rw [IntKind.wrap_i64]; omega
  have t4 : e4.toNat < 256 := e4.toNat_lt
  have w4 : IntKind.i64.wrap (e4.toNat : Int) = (e4.toNat : Int) := by rw [IntKind.wrap_i64]; omega
  have t5 : e5.toNat < 256 := e5.toNat_lt
  have w5 : IntKind.i64.wrap (e5.toNat : Int) = (e5.toNat : Int) := by rw [IntKind.wrap_i64]; omega
  go_enter Try.func54, Try.ntmps54
  go_wp2
  go_region
  go_wp2_with (first | (go_at_call 46; refine (HC.out _).mono ?_; rintro e w1 ⟨rfl, g1⟩; obtain ⟨hc1, hf1⟩ := g1.rules) | (go_at_call 41; refine (HT.out _).mono ?_; rintro e w2 ⟨rfl, g2⟩; replace g2 := Nw.trans g1 g2; clear hc1 hf1; obtain ⟨hc2, hf2⟩ := g2.rules) | (go_at_call 27; refine (HE.out _).mono ?_; rintro e w3 ⟨rfl, g3⟩; replace g3 := Nw.trans g2 g3; clear hc2 hf2; obtain ⟨hc3, hf3⟩ := g3.rules))
  exact bodyPost_end (results_none rfl _ _ _) rfl ⟨rfl, ((Nw.refl w).drew1.alloc _).trans g1⟩
set_option maxRecDepth 100000 in
set_option maxHeartbeats 2000000 in
theorem addCaps_no2 (B : Nat) (e0 e1 e2 e3 e4 e5 e6 e7 : UInt8) (L : List UInt8) (w : World) (HC : Hid (∀ z, Calls Try.prog 46 #[.agg #[.int .i64 e1.toNat, .int .i64 e2.toNat, .int .i64 e3.toNat, .int .i64 e4.toNat]] z fun e w' => e = .returned (.bool true) ∧ Nw z w'))
    (HT : Hid (∀ z, Calls Try.prog 41 #[.int .i64 e5.toNat] z fun e w' => e = .returned (.bool false) ∧ Nw z w'))
    (HE : Hid (∀ z, Calls Try.prog 27 #[.agg #[.int .i64 e1.toNat, .int .i64 e2.toNat, .int .i64 e3.toNat, .int .i64 e4.toNat], .int .i64 e5.toNat] z fun e w' => e = .returned (stV L) ∧ Nw z w')) :
    Calls Try.prog 54 #[.pointer (some ⟨B, 0, none⟩), stV [e0, e1, e2, e3, e4, e5, e6, e7]] w fun e w' => e = .returned (.tuple #[]) ∧ Nw w w' := by
  have g1 : ∀ h, (⟨#[e0, e1, e2, e3, e4, e5, e6, e7]⟩ : ByteArray)[1]'h = e1 := fun _ => rfl
  have g2 : ∀ h, (⟨#[e0, e1, e2, e3, e4, e5, e6, e7]⟩ : ByteArray)[2]'h = e2 := fun _ => rfl
  have g3 : ∀ h, (⟨#[e0, e1, e2, e3, e4, e5, e6, e7]⟩ : ByteArray)[3]'h = e3 := fun _ => rfl
  have g4 : ∀ h, (⟨#[e0, e1, e2, e3, e4, e5, e6, e7]⟩ : ByteArray)[4]'h = e4 := fun _ => rfl
  have g5 : ∀ h, (⟨#[e0, e1, e2, e3, e4, e5, e6, e7]⟩ : ByteArray)[5]'h = e5 := fun _ => rfl
  have t1 : e1.toNat < 256 := e1.toNat_lt
  have w1 : IntKind.i64.wrap (e1.toNat : Int) = (e1.toNat : Int) := by rw [IntKind.wrap_i64]; omega
  have t2 : e2.toNat < 256 := e2.toNat_lt
  have w2 : IntKind.i64.wrap (e2.toNat : Int) = (e2.toNat : Int) := by rw [IntKind.wrap_i64]; omega
  have t3 : e3.toNat < 256 := e3.toNat_lt
  have w3 : IntKind.i64.wrap (e3.toNat : Int) = (e3.toNat : Int) := by rw [IntKind.wrap_i64]; omega
  have t4 : e4.toNat < 256 := e4.toNat_lt
  have w4 : IntKind.i64.wrap (e4.toNat : Int) = (e4.toNat : Int) := by rw [IntKind.wrap_i64]; omega
  have t5 : e5.toNat < 256 := e5.toNat_lt
  have w5 : IntKind.i64.wrap (e5.toNat : Int) = (e5.toNat : Int) := by rw [IntKind.wrap_i64]; omega
  go_enter Try.func54, Try.ntmps54
  go_wp2
  go_region
  go_wp2_with (first | (go_at_call 46; refine (HC.out _).mono ?_; rintro e w1 ⟨rfl, g1⟩; obtain ⟨hc1, hf1⟩ := g1.rules) | (go_at_call 41; refine (HT.out _).mono ?_; rintro e w2 ⟨rfl, g2⟩; replace g2 := Nw.trans g1 g2; clear hc1 hf1; obtain ⟨hc2, hf2⟩ := g2.rules) | (go_at_call 27; refine (HE.out _).mono ?_; rintro e w3 ⟨rfl, g3⟩; replace g3 := Nw.trans g2 g3; clear hc2 hf2; obtain ⟨hc3, hf3⟩ := g3.rules))
  exact bodyPost_end (results_none rfl _ _ _) rfl ⟨rfl, ((Nw.refl w).drew1.alloc _).trans g2⟩
set_option maxRecDepth 100000 in
set_option maxHeartbeats 2000000 in
theorem addCaps_no3 (B : Nat) (e0 e1 e2 e3 e4 e5 e6 e7 : UInt8) (L : List UInt8) (w : World) (HC : Hid (∀ z, Calls Try.prog 46 #[.agg #[.int .i64 e1.toNat, .int .i64 e2.toNat, .int .i64 e3.toNat, .int .i64 e4.toNat]] z fun e w' => e = .returned (.bool true) ∧ Nw z w'))
    (HT : Hid (∀ z, Calls Try.prog 41 #[.int .i64 e5.toNat] z fun e w' => e = .returned (.bool true) ∧ Nw z w'))
    (HE : Hid (∀ z, Calls Try.prog 27 #[.agg #[.int .i64 e1.toNat, .int .i64 e2.toNat, .int .i64 e3.toNat, .int .i64 e4.toNat], .int .i64 e5.toNat] z fun e w' => e = .returned (stV L) ∧ Nw z w')) (hL : (L == [e0, e1, e2, e3, e4, e5, e6, e7]) = false) :
    Calls Try.prog 54 #[.pointer (some ⟨B, 0, none⟩), stV [e0, e1, e2, e3, e4, e5, e6, e7]] w fun e w' => e = .returned (.tuple #[]) ∧ Nw w w' := by
  have g1 : ∀ h, (⟨#[e0, e1, e2, e3, e4, e5, e6, e7]⟩ : ByteArray)[1]'h = e1 := fun _ => rfl
  have g2 : ∀ h, (⟨#[e0, e1, e2, e3, e4, e5, e6, e7]⟩ : ByteArray)[2]'h = e2 := fun _ => rfl
  have g3 : ∀ h, (⟨#[e0, e1, e2, e3, e4, e5, e6, e7]⟩ : ByteArray)[3]'h = e3 := fun _ => rfl
  have g4 : ∀ h, (⟨#[e0, e1, e2, e3, e4, e5, e6, e7]⟩ : ByteArray)[4]'h = e4 := fun _ => rfl
  have g5 : ∀ h, (⟨#[e0, e1, e2, e3, e4, e5, e6, e7]⟩ : ByteArray)[5]'h = e5 := fun _ => rfl
  have t1 : e1.toNat < 256 := e1.toNat_lt
  have w1 : IntKind.i64.wrap (e1.toNat : Int) = (e1.toNat : Int) := by rw [IntKind.wrap_i64]; omega
  have t2 : e2.toNat < 256 := e2.toNat_lt
  have w2 : IntKind.i64.wrap (e2.toNat : Int) = (e2.toNat : Int) := by rw [IntKind.wrap_i64]; omega
  have t3 : e3.toNat < 256 := e3.toNat_lt
  have w3 : IntKind.i64.wrap (e3.toNat : Int) = (e3.toNat : Int) := by rw [IntKind.wrap_i64]; omega
  have t4 : e4.toNat < 256 := e4.toNat_lt
  have w4 : IntKind.i64.wrap (e4.toNat : Int) = (e4.toNat : Int) := by rw [IntKind.wrap_i64]; omega
  have t5 : e5.toNat < 256 := e5.toNat_lt
  have w5 : IntKind.i64.wrap (e5.toNat : Int) = (e5.toNat : Int) := by rw [IntKind.wrap_i64]; omega
  go_enter Try.func54, Try.ntmps54
  go_wp2
  go_region
  go_wp2_with (first | (go_at_call 46; refine (HC.out _).mono ?_; rintro e w1 ⟨rfl, g1⟩; obtain ⟨hc1, hf1⟩ := g1.rules) | (go_at_call 41; refine (HT.out _).mono ?_; rintro e w2 ⟨rfl, g2⟩; replace g2 := Nw.trans g1 g2; clear hc1 hf1; obtain ⟨hc2, hf2⟩ := g2.rules) | (go_at_call 27; refine (HE.out _).mono ?_; rintro e w3 ⟨rfl, g3⟩; replace g3 := Nw.trans g2 g3; clear hc2 hf2; obtain ⟨hc3, hf3⟩ := g3.rules))
  exact bodyPost_end (results_none rfl _ _ _) rfl ⟨rfl, ((Nw.refl w).drew1.alloc _).trans g3⟩
set_option maxRecDepth 100000 in
set_option maxHeartbeats 2000000 in
theorem addCaps_yes (g0 B : Nat) (s : PS) (e0 e1 e2 e3 e4 e5 e6 e7 : UInt8) (L : List UInt8) (w : World) (HC : Hid (∀ z, Calls Try.prog 46 #[.agg #[.int .i64 e1.toNat, .int .i64 e2.toNat, .int .i64 e3.toNat, .int .i64 e4.toNat]] z fun e w' => e = .returned (.bool true) ∧ Nw z w'))
    (HT : Hid (∀ z, Calls Try.prog 41 #[.int .i64 e5.toNat] z fun e w' => e = .returned (.bool true) ∧ Nw z w'))
    (HE : Hid (∀ z, Calls Try.prog 27 #[.agg #[.int .i64 e1.toNat, .int .i64 e2.toNat, .int .i64 e3.toNat, .int .i64 e4.toNat], .int .i64 e5.toNat] z fun e w' => e = .returned (stV L) ∧ Nw z w')) (hL : (L == [e0, e1, e2, e3, e4, e5, e6, e7]) = true) (hn : e5.toNat ≤ 8) (hs : s.th.length ≤ 8) (hO : Own w g0 B s) :
    Calls Try.prog 54 #[.pointer (some ⟨B, 0, none⟩), stV [e0, e1, e2, e3, e4, e5, e6, e7]] w fun e w' => e = .returned (.tuple #[]) ∧ Own w' g0 B ⟨grow e5.toNat s.th, s.pk, ((e1.toNat : Int), (e2.toNat : Int), (e3.toNat : Int), (e4.toNat : Int))⟩ ∧ Below g0 w w' ∧ Kept B w w' := by
  have g1 : ∀ h, (⟨#[e0, e1, e2, e3, e4, e5, e6, e7]⟩ : ByteArray)[1]'h = e1 := fun _ => rfl
  have g2 : ∀ h, (⟨#[e0, e1, e2, e3, e4, e5, e6, e7]⟩ : ByteArray)[2]'h = e2 := fun _ => rfl
  have g3 : ∀ h, (⟨#[e0, e1, e2, e3, e4, e5, e6, e7]⟩ : ByteArray)[3]'h = e3 := fun _ => rfl
  have g4 : ∀ h, (⟨#[e0, e1, e2, e3, e4, e5, e6, e7]⟩ : ByteArray)[4]'h = e4 := fun _ => rfl
  have g5 : ∀ h, (⟨#[e0, e1, e2, e3, e4, e5, e6, e7]⟩ : ByteArray)[5]'h = e5 := fun _ => rfl
  have t1 : e1.toNat < 256 := e1.toNat_lt
  have w1 : IntKind.i64.wrap (e1.toNat : Int) = (e1.toNat : Int) := by rw [IntKind.wrap_i64]; omega
  have t2 : e2.toNat < 256 := e2.toNat_lt
  have w2 : IntKind.i64.wrap (e2.toNat : Int) = (e2.toNat : Int) := by rw [IntKind.wrap_i64]; omega
  have t3 : e3.toNat < 256 := e3.toNat_lt
  have w3 : IntKind.i64.wrap (e3.toNat : Int) = (e3.toNat : Int) := by rw [IntKind.wrap_i64]; omega
  have t4 : e4.toNat < 256 := e4.toNat_lt
  have w4 : IntKind.i64.wrap (e4.toNat : Int) = (e4.toNat : Int) := by rw [IntKind.wrap_i64]; omega
  have t5 : e5.toNat < 256 := e5.toNat_lt
  have w5 : IntKind.i64.wrap (e5.toNat : Int) = (e5.toNat : Int) := by rw [IntKind.wrap_i64]; omega
  obtain ⟨vt, vp, us, h⟩ := hO
  have hlt := h.lt
  have hb := h.base
  have k2 : w.cell? ⟨B, 2, none⟩ = some (.int .i64 s.cp.1) := heap_cell h.box
  have k3 : w.cell? ⟨B, 3, none⟩ = some (.int .i64 s.cp.2.1) := heap_cell h.box
  have k4 : w.cell? ⟨B, 4, none⟩ = some (.int .i64 s.cp.2.2.1) := heap_cell h.box
  have k5 : w.cell? ⟨B, 5, none⟩ = some (.int .i64 s.cp.2.2.2) := heap_cell h.box
  have f2 := h.fz 2
  have f3 := h.fz 3
  have f4 := h.fz 4
  have f5 := h.fz 5
  have H := Lib.hid h
  clear h
  go_enter Try.func54, Try.ntmps54
  go_wp2
  go_region
  go_wp2_with (first | (go_at_call 46; refine (HC.out _).mono ?_; rintro e w1 ⟨rfl, g1⟩; obtain ⟨hc1, hf1⟩ := g1.rules) | (go_at_call 41; refine (HT.out _).mono ?_; rintro e w2 ⟨rfl, g2⟩; replace g2 := Nw.trans g1 g2; clear hc1 hf1; obtain ⟨hc2, hf2⟩ := g2.rules) | (go_at_call 27; refine (HE.out _).mono ?_; rintro e w3 ⟨rfl, g3⟩; replace g3 := Nw.trans g2 g3; clear hc2 hf2; obtain ⟨hc3, hf3⟩ := g3.rules))
  have hN : Nw w w3 := ((Nw.refl w).drew1.alloc _).trans g3
  obtain ⟨hO3, hK3⟩ := (H.out.nw hN).setCaps ((e1.toNat : Int), (e2.toNat : Int), (e3.toNat : Int), (e4.toNat : Int))
  refine (createThreads_any g0 B e5.toNat ⟨s.th, s.pk, ((e1.toNat : Int), (e2.toNat : Int), (e3.toNat : Int), (e4.toNat : Int))⟩ _ (by omega) (by simp only; omega) ⟨_, _, _, hO3⟩).mono ?_
  rintro e w4 ⟨rfl, hO4, hB4, hK4⟩
  go_wp2
  exact bodyPost_end (results_none rfl _ _ _) rfl ⟨rfl, hO4, Below.trans ((((Below.setCell (Below.mono hN (by omega)) (by exact hb) _).setCell (by exact hb) _).setCell (by exact hb) _).setCell (by exact hb) _) hB4, ((Kept.nw hN).trans hK3).trans (Kept.ofT hK4)⟩
end Go.Proofs.Ytmegaipedagcjaa
