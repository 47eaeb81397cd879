
/- capsEntry, opEntry, pickEntry; what is allowed; Entry. -/
import Derived.Test.YtmegaipedagcjaaScB
import Derived.Test.YtmegaipedagcjaaScC
import Derived.StillTailTactics
namespace Go.Proofs.Ytmegaipedagcjaa
open Go.RowKit

theorem entry5 (b : Nat) (f0 f1 f2 f3 f4 : Int) (w : World) (hb : b < w.heap.size) (h0 : w.cell? ⟨b, 0, none⟩ = some (.int .i64 f0)) (h1 : w.cell? ⟨b, 1, none⟩ = some (.int .i64 f1)) (h2 : w.cell? ⟨b, 2, none⟩ = some (.int .i64 f2))
    (h3 : w.cell? ⟨b, 3, none⟩ = some (.int .i64 f3)) (h4 : w.cell? ⟨b, 4, none⟩ = some (.int .i64 f4)) :
    Calls Try.prog 50 #[.int .u8 1, .slice (some ⟨b, 0, none⟩) 5 5] w fun e w' => e = .returned (stV (capsE (f0, f1, f2, f3) f4)) ∧ Nw w w' :=
  entry_any b 0 5 [f0, f1, f2, f3, f4] 1 w (by simp) hb fun k hk => by
    simp at hk
    have : k = 0 ∨ k = 1 ∨ k = 2 ∨ k = 3 ∨ k = 4 := by omega
    rcases this with rfl | rfl | rfl | rfl | rfl
    · exact h0
    · exact h1
    · exact h2
    · exact h3
    · exact h4
theorem entry2 (b : Nat) (f0 f1 : Int) (w : World) (hb : b < w.heap.size) (h0 : w.cell? ⟨b, 0, none⟩ = some (.int .i64 f0)) (h1 : w.cell? ⟨b, 1, none⟩ = some (.int .i64 f1)) :
    Calls Try.prog 50 #[.int .u8 3, .slice (some ⟨b, 0, none⟩) 2 2] w fun e w' => e = .returned (stV (pickE (f0, f1))) ∧ Nw w w' :=
  entry_any b 0 2 [f0, f1] 3 w (by simp) hb fun k hk => by
    simp at hk
    have : k = 0 ∨ k = 1 := by omega
    rcases this with rfl | rfl
    · exact h0
    · exact h1
theorem entry7 (b : Nat) (f0 f1 f2 f3 f4 f5 f6 : Int) (w : World) (hb : b < w.heap.size) (h0 : w.cell? ⟨b, 0, none⟩ = some (.int .i64 f0)) (h1 : w.cell? ⟨b, 1, none⟩ = some (.int .i64 f1)) (h2 : w.cell? ⟨b, 2, none⟩ = some (.int .i64 f2))
    (h3 : w.cell? ⟨b, 3, none⟩ = some (.int .i64 f3)) (h4 : w.cell? ⟨b, 4, none⟩ = some (.int .i64 f4)) (h5 : w.cell? ⟨b, 5, none⟩ = some (.int .i64 f5)) (h6 : w.cell? ⟨b, 6, none⟩ = some (.int .i64 f6)) :
    Calls Try.prog 50 #[.int .u8 2, .slice (some ⟨b, 0, none⟩) 7 7] w fun e w' => e = .returned (stV [2, bt f0, bt f1, bt f2, bt f3, bt f4, bt f5, bt f6]) ∧ Nw w w' :=
  entry_any b 0 7 [f0, f1, f2, f3, f4, f5, f6] 2 w (by simp) hb fun k hk => by
    simp at hk
    have : k = 0 ∨ k = 1 ∨ k = 2 ∨ k = 3 ∨ k = 4 ∨ k = 5 ∨ k = 6 := by omega
    rcases this with rfl | rfl | rfl | rfl | rfl | rfl | rfl
    · exact h0
    · exact h1
    · exact h2
    · exact h3
    · exact h4
    · exact h5
    · exact h6
abbrev cpV (c : Cp) : Value := .agg #[.int .i64 c.1, .int .i64 c.2.1, .int .i64 c.2.2.1, .int .i64 c.2.2.2]
abbrev pkV (p : Int × Int) : Value := .agg #[.int .i64 p.1, .int .i64 p.2]
theorem capsEntry_any (c : Cp) (n : Int) (w : World) : Calls Try.prog 27 #[cpV c, .int .i64 n] w fun e w' => e = .returned (stV (capsE c n)) ∧ Nw w w' := by
  obtain ⟨c1, c2, c3, c4⟩ := c
  go_enter Try.func27, Try.ntmps27
  go_wp2_with (go_at_call 50; refine (entry5 _ c1 c2 c3 c4 n _ (by simp) (by simp [go_sem]) (by simp [go_sem]) (by simp [go_sem]) (by simp [go_sem]) (by simp [go_sem])).mono ?_; rintro e w' ⟨rfl, hg⟩)
  go_ret
  exact ⟨rfl, (((Nw.refl w).alloc _).alloc _).trans hg⟩
theorem pickEntry_any (p : Int × Int) (w : World) : Calls Try.prog 29 #[pkV p] w fun e w' => e = .returned (stV (pickE p)) ∧ Nw w w' := by
  obtain ⟨p1, p2⟩ := p
  go_enter Try.func29, Try.ntmps29
  go_wp2_with (go_at_call 50; refine (entry2 _ p1 p2 _ (by simp) (by simp [go_sem]) (by simp [go_sem])).mono ?_; rintro e w' ⟨rfl, hg⟩)
  go_ret
  exact ⟨rfl, (((Nw.refl w).alloc _).alloc _).trans hg⟩
theorem opEntry_any (t : Int) (o : Od) (w : World) (h1 : -1000 ≤ o.2.1 ∧ o.2.1 ≤ 1000) (h2 : -1000 ≤ o.2.2.1 ∧ o.2.2.1 ≤ 1000) : Calls Try.prog 28 #[.int .i64 t, odV o] w fun e w' => e = .returned (stV (opE t o)) ∧ Nw w w' := by
  obtain ⟨k, a, r, m, v, x⟩ := o
  have e1 : IntKind.i64.wrap (a + 1) = a + 1 := by rw [IntKind.wrap_i64]; simp at h1; omega
  have e2 : IntKind.i64.wrap (r + 1) = r + 1 := by rw [IntKind.wrap_i64]; simp at h2; omega
  clear h1 h2
  go_enter Try.func28, Try.ntmps28
  go_wp2_with (go_at_call 50; refine (entry7 _ t k (a + 1) (r + 1) m v x _ (by simp) (by simp [go_sem]) (by simp [go_sem]) (by simp [go_sem]) (by simp [go_sem]) (by simp [go_sem]) (by simp [go_sem]) (by simp [go_sem])).mono ?_; rintro e w' ⟨rfl, hg⟩)
  go_ret
  exact ⟨rfl, (((Nw.refl w).alloc _).alloc _).trans hg⟩
/-- Entry's result. -/
def enV : Option (Nat × Od) → Value
  | none => .tuple #[.int .i64 0, odV (0, 0, 0, 0, 0, 0), .bool false]
  | some (t, o) => .tuple #[.int .i64 t, odV o, .bool true]
set_option maxRecDepth 100000 in
set_option maxHeartbeats 2000000 in
theorem entry_e (e0 e1 e2 e3 e4 e5 e6 e7 : UInt8) (w : World) : Calls Try.prog 15 #[stV [e0, e1, e2, e3, e4, e5, e6, e7]] w fun e w' => e = .returned (enV (ent [e0, e1, e2, e3, e4, e5, e6, e7])) ∧ Nw w w' := by
  have g0 : ∀ h, (⟨#[e0, e1, e2, e3, e4, e5, e6, e7]⟩ : ByteArray)[0]'h = e0 := fun _ => rfl
  have g1 : ∀ h, (⟨#[e0, e1, e2, e3, e4, e5, e6, e7]⟩ : ByteArray)[1]'h = e1 := fun _ => rfl
  have g2 : ∀ h, (⟨#[e0, e1, e2, e3, e4, e5, e6, e7]⟩ : ByteArray)[2]'h = e2 := fun _ => rfl
  have g3 : ∀ h, (⟨#[e0, e1, e2, e3, e4, e5, e6, e7]⟩ : ByteArray)[3]'h = e3 := fun _ => rfl
  have g4 : ∀ h, (⟨#[e0, e1, e2, e3, e4, e5, e6, e7]⟩ : ByteArray)[4]'h = e4 := fun _ => rfl
  have g5 : ∀ h, (⟨#[e0, e1, e2, e3, e4, e5, e6, e7]⟩ : ByteArray)[5]'h = e5 := fun _ => rfl
  have g6 : ∀ h, (⟨#[e0, e1, e2, e3, e4, e5, e6, e7]⟩ : ByteArray)[6]'h = e6 := fun _ => rfl
  have g7 : ∀ h, (⟨#[e0, e1, e2, e3, e4, e5, e6, e7]⟩ : ByteArray)[7]'h = e7 := fun _ => rfl
  by_cases h0 : e0 = 2
  · by_cases h1 : e1.toNat < 8
    · have hE : ent [e0, e1, e2, e3, e4, e5, e6, e7] = if okO (odOf e2 e3 e4 e5 e6 e7) = true then some (e1.toNat, odOf e2 e3 e4 e5 e6 e7) else none := by
        simp only [ent]
        by_cases q : okO (odOf e2 e3 e4 e5 e6 e7) = true
        · rw [if_pos ⟨h0, h1, q⟩, if_pos q]
        · rw [if_neg (fun e => q e.2.2), if_neg q]
      rw [hE]
      have HO := Lib.hid (op_any (odOf e2 e3 e4 e5 e6 e7))
      have b0 : ((e0.toNat : Int) != 2) = false := by subst h0; rfl
      have b1 : decide (8 ≤ (e1.toNat : Int)) = false := by simp; omega
      have t1 : e1.toNat < 256 := e1.toNat_lt
      have w1 : IntKind.i64.wrap (e1.toNat : Int) = (e1.toNat : Int) := by rw [IntKind.wrap_i64]; omega
      have t2 : e2.toNat < 256 := e2.toNat_lt
      have w2 : IntKind.i64.wrap (e2.toNat : Int) = (e2.toNat : Int) := by rw [IntKind.wrap_i64]; omega
      have t3 : e3.toNat < 256 := e3.toNat_lt
      have w3 : IntKind.i64.wrap (e3.toNat : Int) = (e3.toNat : Int) := by rw [IntKind.wrap_i64]; omega
      have t4 : e4.toNat < 256 := e4.toNat_lt
      have w4 : IntKind.i64.wrap (e4.toNat : Int) = (e4.toNat : Int) := by rw [IntKind.wrap_i64]; omega
      have t5 : e5.toNat < 256 := e5.toNat_lt
      have w5 : IntKind.i64.wrap (e5.toNat : Int) = (e5.toNat : Int) := by rw [IntKind.wrap_i64]; omega
      have t6 : e6.toNat < 256 := e6.toNat_lt
      have w6 : IntKind.i64.wrap (e6.toNat : Int) = (e6.toNat : Int) := by rw [IntKind.wrap_i64]; omega
      have t7 : e7.toNat < 256 := e7.toNat_lt
      have w7 : IntKind.i64.wrap (e7.toNat : Int) = (e7.toNat : Int) := by rw [IntKind.wrap_i64]; omega
      have m3 : IntKind.i64.wrap ((e3.toNat : Int) - 1) = (e3.toNat : Int) - 1 := by rw [IntKind.wrap_i64]; omega
      have m4 : IntKind.i64.wrap ((e4.toNat : Int) - 1) = (e4.toNat : Int) - 1 := by rw [IntKind.wrap_i64]; omega
      clear hE h0 h1
      rcases q : okO (odOf e2 e3 e4 e5 e6 e7) with _ | _
      · rw [q] at HO
        simp only [odOf, vl] at HO
        clear q
        go_enter Try.func15, Try.ntmps15
        go_wp2
        refine wp_region_still_tail 22 (by kernel_rfl) (by kernel_rfl) ?_
        simp only [List.take_succ_cons, List.take_zero, List.drop_succ_cons, List.drop_zero]
        repeat still_step
        refine wpStill_nil ?_
        change wpList _ _ _ _ _ (w.alloc (.cells #[.int .i64 0, .int .i64 0, .int .i64 0, .int .i64 0, .int .i64 0, .int .i64 0] 37)).drew
        go_wp2_with (go_at_call 14; refine (HO.out _).mono ?_; rintro e w1 ⟨rfl, hg⟩; obtain ⟨hc, hf⟩ := hg.rules; have hN : Nw w w1 := Nw.trans (by repeat' (first | with_reducible exact Nw.refl _ | with_reducible assumption | with_reducible refine Nw.alloc ?_ _ | with_reducible refine Nw.drew1 ?_ | with_reducible refine Nw.drewN ?_ _ | with_reducible refine Nw.set' ?_ ?_ _ | (simp; done) | (simp; omega))) hg; clear hg)
        exact bodyPost_ret (v := .tuple #[.int .i64 0, .agg #[.int .i64 0, .int .i64 0, .int .i64 0, .int .i64 0, .int .i64 0, .int .i64 0], .bool false]) (by simp [results, Try.results15, go_sem, *]) rfl ⟨rfl, (by repeat' (first | with_reducible exact Nw.refl _ | with_reducible assumption | with_reducible refine Nw.alloc ?_ _ | with_reducible refine Nw.drew1 ?_ | with_reducible refine Nw.drewN ?_ _ | with_reducible refine Nw.set' ?_ ?_ _ | (simp; done) | (simp; omega)))⟩
      · rw [q] at HO
        simp only [odOf, vl] at HO ⊢
        clear q
        go_enter Try.func15, Try.ntmps15
        go_wp2
        refine wp_region_still_tail 22 (by kernel_rfl) (by kernel_rfl) ?_
        simp only [List.take_succ_cons, List.take_zero, List.drop_succ_cons, List.drop_zero]
        repeat still_step
        refine wpStill_nil ?_
        change wpList _ _ _ _ _ (w.alloc (.cells #[.int .i64 0, .int .i64 0, .int .i64 0, .int .i64 0, .int .i64 0, .int .i64 0] 37)).drew
        go_wp2_with (go_at_call 14; refine (HO.out _).mono ?_; rintro e w1 ⟨rfl, hg⟩; obtain ⟨hc, hf⟩ := hg.rules; have hN : Nw w w1 := Nw.trans (by repeat' (first | with_reducible exact Nw.refl _ | with_reducible assumption | with_reducible refine Nw.alloc ?_ _ | with_reducible refine Nw.drew1 ?_ | with_reducible refine Nw.drewN ?_ _ | with_reducible refine Nw.set' ?_ ?_ _ | (simp; done) | (simp; omega))) hg; clear hg)
        go_region
        all_goals
          go_wp2
          exact bodyPost_ret (v := .tuple #[.int .i64 e1.toNat, .agg #[.int .i64 e2.toNat, .int .i64 ((e3.toNat : Int) - 1), .int .i64 ((e4.toNat : Int) - 1), .int .i64 e5.toNat, .int .i64 e6.toNat, .int .i64 e7.toNat], .bool true]) (by simp [results, Try.results15, go_sem, *]) rfl ⟨rfl, (by repeat' (first | with_reducible exact Nw.refl _ | with_reducible assumption | with_reducible refine Nw.alloc ?_ _ | with_reducible refine Nw.drew1 ?_ | with_reducible refine Nw.drewN ?_ _ | with_reducible refine Nw.set' ?_ ?_ _ | (simp; done) | (simp; omega)))⟩
    · have hE : ent [e0, e1, e2, e3, e4, e5, e6, e7] = none := by simp only [ent]; rw [if_neg (fun e => h1 e.2.1)]
      rw [hE]
      have b0 : ((e0.toNat : Int) != 2) = false := by subst h0; rfl
      have b1 : decide (8 ≤ (e1.toNat : Int)) = true := by simp; omega
      clear hE h0 h1
      go_enter Try.func15, Try.ntmps15
      go_wp2
      exact bodyPost_ret (v := .tuple #[.int .i64 0, .agg #[.int .i64 0, .int .i64 0, .int .i64 0, .int .i64 0, .int .i64 0, .int .i64 0], .bool false]) (by simp [results, Try.results15, go_sem, *]) rfl ⟨rfl, (by repeat' (first | with_reducible exact Nw.refl _ | with_reducible assumption | with_reducible refine Nw.alloc ?_ _ | with_reducible refine Nw.drew1 ?_ | with_reducible refine Nw.drewN ?_ _ | with_reducible refine Nw.set' ?_ ?_ _ | (simp; done) | (simp; omega)))⟩
  · have hE : ent [e0, e1, e2, e3, e4, e5, e6, e7] = none := by simp only [ent]; rw [if_neg (fun e => h0 e.1)]
    rw [hE]
    have b0 : ((e0.toNat : Int) != 2) = true := by
      have : e0.toNat ≠ 2 := fun e => h0 (UInt8.toNat_inj.1 e)
      simp; omega
    clear hE h0
    go_enter Try.func15, Try.ntmps15
    go_wp2
    exact bodyPost_ret (v := .tuple #[.int .i64 0, .agg #[.int .i64 0, .int .i64 0, .int .i64 0, .int .i64 0, .int .i64 0, .int .i64 0], .bool false]) (by simp [results, Try.results15, go_sem, *]) rfl ⟨rfl, (by repeat' (first | with_reducible exact Nw.refl _ | with_reducible assumption | with_reducible refine Nw.alloc ?_ _ | with_reducible refine Nw.drew1 ?_ | with_reducible refine Nw.drewN ?_ _ | with_reducible refine Nw.set' ?_ ?_ _ | (simp; done) | (simp; omega)))⟩
end Go.Proofs.Ytmegaipedagcjaa
