
/- addPick. -/
import Derived.Test.YtmegaipedagcjaaScJ
import Derived.Test.YtmegaipedagcjaaScE
import Derived.Deep.RegionLaw
namespace Go.Proofs.Ytmegaipedagcjaa
open Go.RowKit
set_option linter.unusedVariables false      -- a contract need not use every name

set_option maxRecDepth 100000 in
set_option maxHeartbeats 2000000 in
theorem addPick_no0 (g0 B : Nat) (s : PS) (e0 e1 e2 e3 e4 e5 e6 e7 : UInt8) (L : List UInt8) (BW : Bool) (w : World) (HW : Hid (∀ z, Calls Try.prog 45 #[.agg #[.int .i64 e1.toNat, .int .i64 e2.toNat]] z fun e w' => e = .returned (.bool BW) ∧ Nw z w'))
    (HE : Hid (∀ z, Calls Try.prog 29 #[.agg #[.int .i64 e1.toNat, .int .i64 e2.toNat]] z fun e w' => e = .returned (stV L) ∧ Nw z w')) (hn : 4096 ≤ s.pk.length) (hO : Own w g0 B s) :
    Calls Try.prog 56 #[.pointer (some ⟨B, 0, none⟩), stV [e0, e1, e2, e3, e4, e5, e6, e7]] w fun e w' => e = .returned (.tuple #[]) ∧ Nw w w' := by
  have g1 : ∀ h, (⟨#[e0, e1, e2, e3, e4, e5, e6, e7]⟩ : ByteArray)[1]'h = e1 := fun _ => rfl
  have g2 : ∀ h, (⟨#[e0, e1, e2, e3, e4, e5, e6, e7]⟩ : ByteArray)[2]'h = e2 := fun _ => rfl
  have t1 : e1.toNat < 256 := e1.toNat_lt
  have w1 : IntKind.i64.wrap (e1.toNat : Int) = (e1.toNat : Int) := by rw [IntKind.wrap_i64]; omega
  have t2 : e2.toNat < 256 := e2.toNat_lt
  have w2 : IntKind.i64.wrap (e2.toNat : Int) = (e2.toNat : Int) := by rw [IntKind.wrap_i64]; omega
  obtain ⟨vt, vp, us, h⟩ := hO
  have hlt := h.lt
  have hb := h.base
  obtain ⟨ap, ac, hvp⟩ : ∃ a c, vp = .slice a s.pk.length c := by
    rcases own_form h.rp with ⟨q, q'⟩ | ⟨g, cap, q⟩
    · exact ⟨none, 0, by rw [q, q']⟩
    · exact ⟨_, _, q⟩
  subst hvp
  have k1 := h.c1
  have f1 := h.fz 1
  have H := Lib.hid h
  have HN := Lib.hid hn
  have d0 : decide ((s.pk.length : Int) < 4096) = false := by simp; omega
  clear h hn
  go_enter Try.func56, Try.ntmps56
  go_wp2
  go_region
  go_wp2
  first | exact bodyPost_end (results_none rfl _ _ _) rfl ⟨rfl, (Nw.refl w).drew1.alloc _⟩ | exact bodyPost_ret (results_none rfl _ _ _) rfl ⟨rfl, (Nw.refl w).drew1.alloc _⟩
set_option maxRecDepth 100000 in
set_option maxHeartbeats 2000000 in
theorem addPick_no1 (g0 B : Nat) (s : PS) (e0 e1 e2 e3 e4 e5 e6 e7 : UInt8) (L : List UInt8) (w : World) (HW : Hid (∀ z, Calls Try.prog 45 #[.agg #[.int .i64 e1.toNat, .int .i64 e2.toNat]] z fun e w' => e = .returned (.bool true) ∧ Nw z w'))
    (HE : Hid (∀ z, Calls Try.prog 29 #[.agg #[.int .i64 e1.toNat, .int .i64 e2.toNat]] z fun e w' => e = .returned (stV L) ∧ Nw z w')) (hn : s.pk.length < 4096) (hO : Own w g0 B s) :
    Calls Try.prog 56 #[.pointer (some ⟨B, 0, none⟩), stV [e0, e1, e2, e3, e4, e5, e6, e7]] w fun e w' => e = .returned (.tuple #[]) ∧ Nw w w' := by
  have g1 : ∀ h, (⟨#[e0, e1, e2, e3, e4, e5, e6, e7]⟩ : ByteArray)[1]'h = e1 := fun _ => rfl
  have g2 : ∀ h, (⟨#[e0, e1, e2, e3, e4, e5, e6, e7]⟩ : ByteArray)[2]'h = e2 := fun _ => rfl
  have t1 : e1.toNat < 256 := e1.toNat_lt
  have w1 : IntKind.i64.wrap (e1.toNat : Int) = (e1.toNat : Int) := by rw [IntKind.wrap_i64]; omega
  have t2 : e2.toNat < 256 := e2.toNat_lt
  have w2 : IntKind.i64.wrap (e2.toNat : Int) = (e2.toNat : Int) := by rw [IntKind.wrap_i64]; omega
  obtain ⟨vt, vp, us, h⟩ := hO
  have hlt := h.lt
  have hb := h.base
  obtain ⟨ap, ac, hvp⟩ : ∃ a c, vp = .slice a s.pk.length c := by
    rcases own_form h.rp with ⟨q, q'⟩ | ⟨g, cap, q⟩
    · exact ⟨none, 0, by rw [q, q']⟩
    · exact ⟨_, _, q⟩
  subst hvp
  have k1 := h.c1
  have f1 := h.fz 1
  have H := Lib.hid h
  have HN := Lib.hid hn
  have d0 : decide ((s.pk.length : Int) < 4096) = true := by simp; omega
  clear h hn
  go_enter Try.func56, Try.ntmps56
  go_wp2
  go_region
  go_wp2_with (first | (go_at_call 45; refine (HW.out _).mono ?_; rintro e w1 ⟨rfl, g1⟩; obtain ⟨hc1, hf1⟩ := g1.rules) | (go_at_call 29; refine (HE.out _).mono ?_; rintro e w2 ⟨rfl, g2⟩; replace g2 := Nw.trans g1 g2; clear hc1 hf1; obtain ⟨hc2, hf2⟩ := g2.rules))
  first | exact bodyPost_end (results_none rfl _ _ _) rfl ⟨rfl, ((Nw.refl w).drew1.alloc _).trans g1⟩ | exact bodyPost_ret (results_none rfl _ _ _) rfl ⟨rfl, ((Nw.refl w).drew1.alloc _).trans g1⟩
set_option maxRecDepth 100000 in
set_option maxHeartbeats 2000000 in
theorem addPick_no2 (g0 B : Nat) (s : PS) (e0 e1 e2 e3 e4 e5 e6 e7 : UInt8) (L : List UInt8) (w : World) (HW : Hid (∀ z, Calls Try.prog 45 #[.agg #[.int .i64 e1.toNat, .int .i64 e2.toNat]] z fun e w' => e = .returned (.bool false) ∧ Nw z w'))
    (HE : Hid (∀ z, Calls Try.prog 29 #[.agg #[.int .i64 e1.toNat, .int .i64 e2.toNat]] z fun e w' => e = .returned (stV L) ∧ Nw z w')) (hL : (L == [e0, e1, e2, e3, e4, e5, e6, e7]) = false) (hn : s.pk.length < 4096) (hO : Own w g0 B s) :
    Calls Try.prog 56 #[.pointer (some ⟨B, 0, none⟩), stV [e0, e1, e2, e3, e4, e5, e6, e7]] w fun e w' => e = .returned (.tuple #[]) ∧ Nw w w' := by
  have g1 : ∀ h, (⟨#[e0, e1, e2, e3, e4, e5, e6, e7]⟩ : ByteArray)[1]'h = e1 := fun _ => rfl
  have g2 : ∀ h, (⟨#[e0, e1, e2, e3, e4, e5, e6, e7]⟩ : ByteArray)[2]'h = e2 := fun _ => rfl
  have t1 : e1.toNat < 256 := e1.toNat_lt
  have w1 : IntKind.i64.wrap (e1.toNat : Int) = (e1.toNat : Int) := by rw [IntKind.wrap_i64]; omega
  have t2 : e2.toNat < 256 := e2.toNat_lt
  have w2 : IntKind.i64.wrap (e2.toNat : Int) = (e2.toNat : Int) := by rw [IntKind.wrap_i64]; omega
  obtain ⟨vt, vp, us, h⟩ := hO
  have hlt := h.lt
  have hb := h.base
  obtain ⟨ap, ac, hvp⟩ : ∃ a c, vp = .slice a s.pk.length c := by
    rcases own_form h.rp with ⟨q, q'⟩ | ⟨g, cap, q⟩
    · exact ⟨none, 0, by rw [q, q']⟩
    · exact ⟨_, _, q⟩
  subst hvp
  have k1 := h.c1
  have f1 := h.fz 1
  have H := Lib.hid h
  have HN := Lib.hid hn
  have d0 : decide ((s.pk.length : Int) < 4096) = true := by simp; omega
  clear h hn
  go_enter Try.func56, Try.ntmps56
  go_wp2
  go_region
  go_wp2_with (first | (go_at_call 45; refine (HW.out _).mono ?_; rintro e w1 ⟨rfl, g1⟩; obtain ⟨hc1, hf1⟩ := g1.rules) | (go_at_call 29; refine (HE.out _).mono ?_; rintro e w2 ⟨rfl, g2⟩; replace g2 := Nw.trans g1 g2; clear hc1 hf1; obtain ⟨hc2, hf2⟩ := g2.rules))
  first | exact bodyPost_end (results_none rfl _ _ _) rfl ⟨rfl, ((Nw.refl w).drew1.alloc _).trans g2⟩ | exact bodyPost_ret (results_none rfl _ _ _) rfl ⟨rfl, ((Nw.refl w).drew1.alloc _).trans g2⟩
set_option maxRecDepth 100000 in
set_option maxHeartbeats 2000000 in
theorem addPick_yes (g0 B : Nat) (s : PS) (e0 e1 e2 e3 e4 e5 e6 e7 : UInt8) (L : List UInt8) (w : World) (HW : Hid (∀ z, Calls Try.prog 45 #[.agg #[.int .i64 e1.toNat, .int .i64 e2.toNat]] z fun e w' => e = .returned (.bool false) ∧ Nw z w'))
    (HE : Hid (∀ z, Calls Try.prog 29 #[.agg #[.int .i64 e1.toNat, .int .i64 e2.toNat]] z fun e w' => e = .returned (stV L) ∧ Nw z w')) (hL : (L == [e0, e1, e2, e3, e4, e5, e6, e7]) = true) (hn : s.pk.length < 4096) (hO : Own w g0 B s) :
    Calls Try.prog 56 #[.pointer (some ⟨B, 0, none⟩), stV [e0, e1, e2, e3, e4, e5, e6, e7]] w fun e w' => e = .returned (.tuple #[]) ∧ Own w' g0 B ⟨s.th, s.pk ++ [((e1.toNat : Int), (e2.toNat : Int))], s.cp⟩ ∧ Below g0 w w' ∧ Kept B w w' := by
  have g1 : ∀ h, (⟨#[e0, e1, e2, e3, e4, e5, e6, e7]⟩ : ByteArray)[1]'h = e1 := fun _ => rfl
  have g2 : ∀ h, (⟨#[e0, e1, e2, e3, e4, e5, e6, e7]⟩ : ByteArray)[2]'h = e2 := fun _ => rfl
  have t1 : e1.toNat < 256 := e1.toNat_lt
  have w1 : IntKind.i64.wrap (e1.toNat : Int) = (e1.toNat : Int) := by rw [IntKind.wrap_i64]; omega
  have t2 : e2.toNat < 256 := e2.toNat_lt
  have w2 : IntKind.i64.wrap (e2.toNat : Int) = (e2.toNat : Int) := by rw [IntKind.wrap_i64]; omega
  obtain ⟨vt, vp, us, h⟩ := hO
  have hlt := h.lt
  have hb := h.base
  obtain ⟨ap, ac, hvp⟩ : ∃ a c, vp = .slice a s.pk.length c := by
    rcases own_form h.rp with ⟨q, q'⟩ | ⟨g, cap, q⟩
    · exact ⟨none, 0, by rw [q, q']⟩
    · exact ⟨_, _, q⟩
  subst hvp
  have k1 := h.c1
  have f1 := h.fz 1
  have H := Lib.hid h
  have HN := Lib.hid hn
  have d0 : decide ((s.pk.length : Int) < 4096) = true := by simp; omega
  clear h hn
  go_enter Try.func56, Try.ntmps56
  go_wp2
  go_region
  go_wp2_with (first | (go_at_call 45; refine (HW.out _).mono ?_; rintro e w1 ⟨rfl, g1⟩; obtain ⟨hc1, hf1⟩ := g1.rules) | (go_at_call 29; refine (HE.out _).mono ?_; rintro e w2 ⟨rfl, g2⟩; replace g2 := Nw.trans g1 g2; clear hc1 hf1; obtain ⟨hc2, hf2⟩ := g2.rules))
  have hN : Nw w w2 := ((Nw.refl w).drew1.alloc _).trans g2
  obtain ⟨vp', w3, hrun, hO3, hB3, hc3, hf3, ⟨g', cap', rfl⟩, hK3⟩ := (H.out.nw hN).addPick ((e1.toNat : Int), (e2.toNat : Int)) (by have := HN.out; omega) rfl
  have hltB : B < w2.heap.size := Nat.lt_of_lt_of_le hlt hN.sz
  have HR := Lib.hid hrun
  have H3 := Lib.hid (And.intro hO3 (And.intro hB3 hK3))
  clear hrun hO3 hB3 hK3
  go_region_law (refine step_append rfl (.tmp 33) (.tmp 35) 24 rfl _ _ _ _ rfl rfl HR.out ?_)
  all_goals
    go_wp2
    first | exact bodyPost_end (results_none rfl _ _ _) rfl ⟨rfl, ⟨_, _, _, H3.out.1⟩, Below.trans (Below.mono hN (by omega)) H3.out.2.1, (Kept.nw hN).trans H3.out.2.2⟩ | exact bodyPost_ret (results_none rfl _ _ _) rfl ⟨rfl, ⟨_, _, _, H3.out.1⟩, Below.trans (Below.mono hN (by omega)) H3.out.2.1, (Kept.nw hN).trans H3.out.2.2⟩
end Go.Proofs.Ytmegaipedagcjaa
