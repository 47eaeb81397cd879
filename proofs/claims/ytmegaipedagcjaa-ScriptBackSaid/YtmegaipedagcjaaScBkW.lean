
/- ScriptBack: the walk. -/
import Derived.Test.YtmegaipedagcjaaScBkA
namespace Go.Proofs.Ytmegaipedagcjaa.scriptBack
open Go.RowKit
set_option linter.unusedVariables false

set_option maxRecDepth 100000 in
set_option maxHeartbeats 4000000 in
/-- The second half, s valid. -/
theorem half_ok (W w : World) (a0 p0 : Option Addr) (n0 m0 t0 q0 : Nat) (c1 c2 c3 c4 : Int) : True := trivial
set_option maxRecDepth 100000 in
set_option maxHeartbeats 8000000 in
theorem main (l : List UInt8) (a0 p0 : Option Addr) (n0 m0 t0 q0 : Nat) (c1 c2 c3 c4 : Int) (S R : PS) (ok : Bool) (W : World) (hl : l.length ≤ 1600)
    (hS : Hid (ScAt W (.slice a0 n0 t0) (.slice p0 m0 q0) S)) (hcp : Hid (S.cp = (c1, c2, c3, c4))) (hR : Hid (rd l = R)) (hRo : Hid (okS R = true)) (hSo : Hid (okS S = ok)) (hfS : Hid (Fits S)) (hlt : Hid (lightB S = true)) :
    Calls Try.prog 4 #[.agg #[.slice a0 n0 t0, .slice p0 m0 q0, .int .i64 c1, .int .i64 c2, .int .i64 c3, .int .i64 c4], stV l] W fun e w' => e = .returned (.bool true) ∧ Nw W w' := by
  have HL := Lib.hid (fun z (g : Nw W z) => by have := light_any _ _ S z (hS.out.nw g); rw [hcp.out, hlt.out] at this; exact this)
  have HC := Lib.hid (fun z (g : Nw W z) => by have := check_any _ _ S z hfS.out (hS.out.nw g); rw [hcp.out, hSo.out] at this; exact this)
  have HR1 := Lib.hid (read_as l R hR.out (by omega))
  have hfR := Lib.hid (fits_ok hRo.out)
  have hx := ext_rule
  have dl : decide ((1600 : Int) < (l.length : Int)) = false := by simp; omega
  have hmod : ((bytesOf R).length : Int).tmod 8 = 0 := by rw [Int.tmod_eq_emod_of_nonneg (by omega)]; have := bytes_mod R; omega
  have hmod2 : ((bytesOf R).length : Int) % 8 = 0 := by have := bytes_mod R; omega
  have k0 : ∀ y, CV W [(W.heap.size, 0, .slice a0 n0 t0), (W.heap.size, 1, .slice p0 m0 q0), (W.heap.size, 2, .int .i64 c1), (W.heap.size, 3, .int .i64 c2), (W.heap.size, 4, .int .i64 c3), (W.heap.size, 5, .int .i64 c4)] y → y.cell? ⟨W.heap.size, 0, none⟩ = some (.slice a0 n0 t0) := fun y h => h.at _ _ _ (by simp)
  have k1 : ∀ y, CV W [(W.heap.size, 0, .slice a0 n0 t0), (W.heap.size, 1, .slice p0 m0 q0), (W.heap.size, 2, .int .i64 c1), (W.heap.size, 3, .int .i64 c2), (W.heap.size, 4, .int .i64 c3), (W.heap.size, 5, .int .i64 c4)] y → y.cell? ⟨W.heap.size, 1, none⟩ = some (.slice p0 m0 q0) := fun y h => h.at _ _ _ (by simp)
  have k2 : ∀ y, CV W [(W.heap.size, 0, .slice a0 n0 t0), (W.heap.size, 1, .slice p0 m0 q0), (W.heap.size, 2, .int .i64 c1), (W.heap.size, 3, .int .i64 c2), (W.heap.size, 4, .int .i64 c3), (W.heap.size, 5, .int .i64 c4)] y → y.cell? ⟨W.heap.size, 2, none⟩ = some (.int .i64 c1) := fun y h => h.at _ _ _ (by simp)
  have k3 : ∀ y, CV W [(W.heap.size, 0, .slice a0 n0 t0), (W.heap.size, 1, .slice p0 m0 q0), (W.heap.size, 2, .int .i64 c1), (W.heap.size, 3, .int .i64 c2), (W.heap.size, 4, .int .i64 c3), (W.heap.size, 5, .int .i64 c4)] y → y.cell? ⟨W.heap.size, 3, none⟩ = some (.int .i64 c2) := fun y h => h.at _ _ _ (by simp)
  have k4 : ∀ y, CV W [(W.heap.size, 0, .slice a0 n0 t0), (W.heap.size, 1, .slice p0 m0 q0), (W.heap.size, 2, .int .i64 c1), (W.heap.size, 3, .int .i64 c2), (W.heap.size, 4, .int .i64 c3), (W.heap.size, 5, .int .i64 c4)] y → y.cell? ⟨W.heap.size, 4, none⟩ = some (.int .i64 c3) := fun y h => h.at _ _ _ (by simp)
  have k5 : ∀ y, CV W [(W.heap.size, 0, .slice a0 n0 t0), (W.heap.size, 1, .slice p0 m0 q0), (W.heap.size, 2, .int .i64 c1), (W.heap.size, 3, .int .i64 c2), (W.heap.size, 4, .int .i64 c3), (W.heap.size, 5, .int .i64 c4)] y → y.cell? ⟨W.heap.size, 5, none⟩ = some (.int .i64 c4) := fun y h => h.at _ _ _ (by simp)
  go_enter Try.func4, Try.ntmps4
  go_wp2_with fail
  refine (lives_ok _).mono ?_
  rintro e w1 ⟨rfl, g1⟩
  have hB1 : CV W [(W.heap.size, 0, .slice a0 n0 t0), (W.heap.size, 1, .slice p0 m0 q0), (W.heap.size, 2, .int .i64 c1), (W.heap.size, 3, .int .i64 c2), (W.heap.size, 4, .int .i64 c3), (W.heap.size, 5, .int .i64 c4)] w1 := by
    refine CV.step _ _ ?_ g1
    repeat' (first | exact CV.nil ((Nw.refl W).alloc _) | refine CV.cons ?_ ?_)
    all_goals simp [go_sem]
  clear g1
  go_wp2_with fail
  refine (HL.out _ hB1.2).mono ?_
  rintro e w2 ⟨rfl, g2⟩
  have hB2 := hB1.step' g2
  clear hB1 g2 HL
  go_wp2_with fail
  refine (HR1.out _).mono ?_
  rintro e w3 ⟨vt, vp, rfl, hsR, g3⟩
  have hB3 := CV.step' g3 hB2
  clear hB2 g3
  obtain ⟨⟨d1, d2, d3, d4⟩, hd⟩ : ∃ d, R.cp = d := ⟨_, rfl⟩
  have HD := Lib.hid hd
  have HSR := Lib.hid hsR
  obtain ⟨⟨a1, t1, rfl, _⟩, p1, q1, rfl, _⟩ := hsR
  rw [hd]
  obtain ⟨n1, hn1⟩ : ∃ n, R.th.length = n := ⟨_, rfl⟩
  obtain ⟨m1, hm1⟩ : ∃ n, R.pk.length = n := ⟨_, rfl⟩
  rw [hn1, hm1] at HSR ⊢
  clear hd hn1 hm1
  have HCR := Lib.hid (fun z (g : Nw w3 z) => by have := check_any _ _ R z hfR.out (HSR.out.nw g); rw [HD.out, hRo.out] at this; exact this)
  have HBR := Lib.hid (fun z (g : Nw w3 z) => by have := bytes_ok _ _ R z hRo.out (HSR.out.nw g); rw [HD.out] at this; exact this)
  have HR2 : Hid (∀ z, Calls Try.prog 16 #[stV (bytesOf R)] z fun e W' => ∃ ut up, e = .returned (.agg #[ut, up, .int .i64 d1, .int .i64 d2, .int .i64 d3, .int .i64 d4]) ∧ ScAt W' ut up R ∧ Nw z W') := Lib.hid (fun z => by
    have := read_as (bytesOf R) R (rd_bytes R hRo.out) (bytes_small hRo.out) z
    unfold RdS at this
    rw [HD.out] at this
    exact this)
  have HSS : Hid (∀ ut up z, Nw w3 z → ScAt z ut up R → Calls Try.prog 21 #[.agg #[ut, up, .int .i64 d1, .int .i64 d2, .int .i64 d3, .int .i64 d4], .agg #[.slice a1 n1 t1, .slice p1 m1 q1, .int .i64 d1, .int .i64 d2, .int .i64 d3, .int .i64 d4]] z fun e w' => e = .returned (.bool true) ∧ Nw z w') := Lib.hid (fun ut up z g h => by
    have := sameScript_any ut up _ _ R z hfR.out h (HSR.out.nw g)
    rw [HD.out] at this
    exact this)
  go_wp2_with fail
  have hB4 : CV W [(w3.heap.size, 0, .slice a1 n1 t1), (w3.heap.size, 1, .slice p1 m1 q1), (w3.heap.size, 2, .int .i64 d1), (w3.heap.size, 3, .int .i64 d2), (w3.heap.size, 4, .int .i64 d3), (w3.heap.size, 5, .int .i64 d4), (W.heap.size, 0, .slice a0 n0 t0), (W.heap.size, 1, .slice p0 m0 q0), (W.heap.size, 2, .int .i64 c1), (W.heap.size, 3, .int .i64 c2), (W.heap.size, 4, .int .i64 c3), (W.heap.size, 5, .int .i64 c4)] (w3.alloc (.cells #[.slice a1 n1 t1, .slice p1 m1 q1, .int .i64 d1, .int .i64 d2, .int .i64 d3, .int .i64 d4] 28)) := by
    repeat' (first | exact CV.step' ((Nw.refl w3).alloc _) hB3 | refine CV.cons ?_ ?_)
    all_goals simp [go_sem]
  have h34 : Nw w3 (w3.alloc (.cells #[.slice a1 n1 t1, .slice p1 m1 q1, .int .i64 d1, .int .i64 d2, .int .i64 d3, .int .i64 d4] 28)) := (Nw.refl w3).alloc _
  obtain ⟨w4, hw4⟩ : ∃ x, w3.alloc (.cells #[.slice a1 n1 t1, .slice p1 m1 q1, .int .i64 d1, .int .i64 d2, .int .i64 d3, .int .i64 d4] 28) = x := ⟨_, rfl⟩
  obtain ⟨B1, hB1'⟩ : ∃ x, w3.heap.size = x := ⟨_, rfl⟩
  rw [hw4, hB1'] at hB4
  rw [hw4] at h34
  rw [hw4, hB1']
  clear hw4 hB1' hB3 k0 k1 k2 k3 k4 k5
  have k0 : ∀ y, CV W [(B1, 0, .slice a1 n1 t1), (B1, 1, .slice p1 m1 q1), (B1, 2, .int .i64 d1), (B1, 3, .int .i64 d2), (B1, 4, .int .i64 d3), (B1, 5, .int .i64 d4), (W.heap.size, 0, .slice a0 n0 t0), (W.heap.size, 1, .slice p0 m0 q0), (W.heap.size, 2, .int .i64 c1), (W.heap.size, 3, .int .i64 c2), (W.heap.size, 4, .int .i64 c3), (W.heap.size, 5, .int .i64 c4)] y → y.cell? ⟨B1, 0, none⟩ = some (.slice a1 n1 t1) := fun y h => h.at _ _ _ (by simp)
  have k1 : ∀ y, CV W [(B1, 0, .slice a1 n1 t1), (B1, 1, .slice p1 m1 q1), (B1, 2, .int .i64 d1), (B1, 3, .int .i64 d2), (B1, 4, .int .i64 d3), (B1, 5, .int .i64 d4), (W.heap.size, 0, .slice a0 n0 t0), (W.heap.size, 1, .slice p0 m0 q0), (W.heap.size, 2, .int .i64 c1), (W.heap.size, 3, .int .i64 c2), (W.heap.size, 4, .int .i64 c3), (W.heap.size, 5, .int .i64 c4)] y → y.cell? ⟨B1, 1, none⟩ = some (.slice p1 m1 q1) := fun y h => h.at _ _ _ (by simp)
  have k2 : ∀ y, CV W [(B1, 0, .slice a1 n1 t1), (B1, 1, .slice p1 m1 q1), (B1, 2, .int .i64 d1), (B1, 3, .int .i64 d2), (B1, 4, .int .i64 d3), (B1, 5, .int .i64 d4), (W.heap.size, 0, .slice a0 n0 t0), (W.heap.size, 1, .slice p0 m0 q0), (W.heap.size, 2, .int .i64 c1), (W.heap.size, 3, .int .i64 c2), (W.heap.size, 4, .int .i64 c3), (W.heap.size, 5, .int .i64 c4)] y → y.cell? ⟨B1, 2, none⟩ = some (.int .i64 d1) := fun y h => h.at _ _ _ (by simp)
  have k3 : ∀ y, CV W [(B1, 0, .slice a1 n1 t1), (B1, 1, .slice p1 m1 q1), (B1, 2, .int .i64 d1), (B1, 3, .int .i64 d2), (B1, 4, .int .i64 d3), (B1, 5, .int .i64 d4), (W.heap.size, 0, .slice a0 n0 t0), (W.heap.size, 1, .slice p0 m0 q0), (W.heap.size, 2, .int .i64 c1), (W.heap.size, 3, .int .i64 c2), (W.heap.size, 4, .int .i64 c3), (W.heap.size, 5, .int .i64 c4)] y → y.cell? ⟨B1, 3, none⟩ = some (.int .i64 d2) := fun y h => h.at _ _ _ (by simp)
  have k4 : ∀ y, CV W [(B1, 0, .slice a1 n1 t1), (B1, 1, .slice p1 m1 q1), (B1, 2, .int .i64 d1), (B1, 3, .int .i64 d2), (B1, 4, .int .i64 d3), (B1, 5, .int .i64 d4), (W.heap.size, 0, .slice a0 n0 t0), (W.heap.size, 1, .slice p0 m0 q0), (W.heap.size, 2, .int .i64 c1), (W.heap.size, 3, .int .i64 c2), (W.heap.size, 4, .int .i64 c3), (W.heap.size, 5, .int .i64 c4)] y → y.cell? ⟨B1, 4, none⟩ = some (.int .i64 d3) := fun y h => h.at _ _ _ (by simp)
  have k5 : ∀ y, CV W [(B1, 0, .slice a1 n1 t1), (B1, 1, .slice p1 m1 q1), (B1, 2, .int .i64 d1), (B1, 3, .int .i64 d2), (B1, 4, .int .i64 d3), (B1, 5, .int .i64 d4), (W.heap.size, 0, .slice a0 n0 t0), (W.heap.size, 1, .slice p0 m0 q0), (W.heap.size, 2, .int .i64 c1), (W.heap.size, 3, .int .i64 c2), (W.heap.size, 4, .int .i64 c3), (W.heap.size, 5, .int .i64 c4)] y → y.cell? ⟨B1, 5, none⟩ = some (.int .i64 d4) := fun y h => h.at _ _ _ (by simp)
  have k6 : ∀ y, CV W [(B1, 0, .slice a1 n1 t1), (B1, 1, .slice p1 m1 q1), (B1, 2, .int .i64 d1), (B1, 3, .int .i64 d2), (B1, 4, .int .i64 d3), (B1, 5, .int .i64 d4), (W.heap.size, 0, .slice a0 n0 t0), (W.heap.size, 1, .slice p0 m0 q0), (W.heap.size, 2, .int .i64 c1), (W.heap.size, 3, .int .i64 c2), (W.heap.size, 4, .int .i64 c3), (W.heap.size, 5, .int .i64 c4)] y → y.cell? ⟨W.heap.size, 0, none⟩ = some (.slice a0 n0 t0) := fun y h => h.at _ _ _ (by simp)
  have k7 : ∀ y, CV W [(B1, 0, .slice a1 n1 t1), (B1, 1, .slice p1 m1 q1), (B1, 2, .int .i64 d1), (B1, 3, .int .i64 d2), (B1, 4, .int .i64 d3), (B1, 5, .int .i64 d4), (W.heap.size, 0, .slice a0 n0 t0), (W.heap.size, 1, .slice p0 m0 q0), (W.heap.size, 2, .int .i64 c1), (W.heap.size, 3, .int .i64 c2), (W.heap.size, 4, .int .i64 c3), (W.heap.size, 5, .int .i64 c4)] y → y.cell? ⟨W.heap.size, 1, none⟩ = some (.slice p0 m0 q0) := fun y h => h.at _ _ _ (by simp)
  have k8 : ∀ y, CV W [(B1, 0, .slice a1 n1 t1), (B1, 1, .slice p1 m1 q1), (B1, 2, .int .i64 d1), (B1, 3, .int .i64 d2), (B1, 4, .int .i64 d3), (B1, 5, .int .i64 d4), (W.heap.size, 0, .slice a0 n0 t0), (W.heap.size, 1, .slice p0 m0 q0), (W.heap.size, 2, .int .i64 c1), (W.heap.size, 3, .int .i64 c2), (W.heap.size, 4, .int .i64 c3), (W.heap.size, 5, .int .i64 c4)] y → y.cell? ⟨W.heap.size, 2, none⟩ = some (.int .i64 c1) := fun y h => h.at _ _ _ (by simp)
  have k9 : ∀ y, CV W [(B1, 0, .slice a1 n1 t1), (B1, 1, .slice p1 m1 q1), (B1, 2, .int .i64 d1), (B1, 3, .int .i64 d2), (B1, 4, .int .i64 d3), (B1, 5, .int .i64 d4), (W.heap.size, 0, .slice a0 n0 t0), (W.heap.size, 1, .slice p0 m0 q0), (W.heap.size, 2, .int .i64 c1), (W.heap.size, 3, .int .i64 c2), (W.heap.size, 4, .int .i64 c3), (W.heap.size, 5, .int .i64 c4)] y → y.cell? ⟨W.heap.size, 3, none⟩ = some (.int .i64 c2) := fun y h => h.at _ _ _ (by simp)
  have k10 : ∀ y, CV W [(B1, 0, .slice a1 n1 t1), (B1, 1, .slice p1 m1 q1), (B1, 2, .int .i64 d1), (B1, 3, .int .i64 d2), (B1, 4, .int .i64 d3), (B1, 5, .int .i64 d4), (W.heap.size, 0, .slice a0 n0 t0), (W.heap.size, 1, .slice p0 m0 q0), (W.heap.size, 2, .int .i64 c1), (W.heap.size, 3, .int .i64 c2), (W.heap.size, 4, .int .i64 c3), (W.heap.size, 5, .int .i64 c4)] y → y.cell? ⟨W.heap.size, 4, none⟩ = some (.int .i64 c3) := fun y h => h.at _ _ _ (by simp)
  have k11 : ∀ y, CV W [(B1, 0, .slice a1 n1 t1), (B1, 1, .slice p1 m1 q1), (B1, 2, .int .i64 d1), (B1, 3, .int .i64 d2), (B1, 4, .int .i64 d3), (B1, 5, .int .i64 d4), (W.heap.size, 0, .slice a0 n0 t0), (W.heap.size, 1, .slice p0 m0 q0), (W.heap.size, 2, .int .i64 c1), (W.heap.size, 3, .int .i64 c2), (W.heap.size, 4, .int .i64 c3), (W.heap.size, 5, .int .i64 c4)] y → y.cell? ⟨W.heap.size, 5, none⟩ = some (.int .i64 c4) := fun y h => h.at _ _ _ (by simp)
  refine (HCR.out _ h34).mono ?_
  rintro e w5 ⟨rfl, g5⟩
  have hB5 := CV.step' g5 hB4
  have h35 := h34.trans g5
  clear hB4 g5 h34 HCR
  go_wp2_with fail
  refine (HBR.out _ h35).mono ?_
  rintro e w6 ⟨rfl, g6⟩
  have hB6 := CV.step' g6 hB5
  have h36 := h35.trans g6
  clear hB5 g6 h35 HBR
  go_wp2
  have hB7 := CV.step' (Nw.refl _).drew1 hB6
  have h37 := h36.trans (Nw.refl _).drew1
  refine region_told [some true, some true, some true, some true, some false, some true, none, some false, none, some true, some true, some true, some true, some true, some true, some true, some true] (CV W [(B1, 0, .slice a1 n1 t1), (B1, 1, .slice p1 m1 q1), (B1, 2, .int .i64 d1), (B1, 3, .int .i64 d2), (B1, 4, .int .i64 d3), (B1, 5, .int .i64 d4), (W.heap.size, 0, .slice a0 n0 t0), (W.heap.size, 1, .slice p0 m0 q0), (W.heap.size, 2, .int .i64 c1), (W.heap.size, 3, .int .i64 c2), (W.heap.size, 4, .int .i64 c3), (W.heap.size, 5, .int .i64 c4)]) (by kernel_rfl) (by kernel_rfl) (by kernel_rfl) hB7 ?_
  repeat (first
    | (refine HW.off ?_)
    | (refine HW.take' ?_; apply Exists.intro; refine ⟨Or.inl ⟨by rfl, ?_⟩, ?_⟩; (intro x hx'; go_simp; first | done | with_reducible rfl); (try simp only [Act.put, List.setIfInBounds_toArray, List.set_cons_zero, List.set_cons_succ]))
    | (refine HW.go (fun KK hKK => ?_); go_simp; (first | (go_at_call 16; (with_reducible refine (HR2.out _).mono ?_); rintro e w8 ⟨ut, up, rfl, hs8, g8⟩; refine hKK.out _ _ (CV.step' g8 hB7) ?_; intro _; clear hKK KK) | (go_at_call 21; (with_reducible refine (HSS.out _ _ _ (h37.trans g8) hs8).mono ?_); rintro e w9 ⟨rfl, g9⟩; refine hKK.out _ _ (CV.step' (g8.trans g9) hB7) ?_; intro hB9; clear hKK KK)); (try simp only [Act.put, List.setIfInBounds_toArray, List.set_cons_zero, List.set_cons_succ])))
  refine HW.end_ ?_
  refine NoPanic.normal ?_
  clear HR2 HSS HSR HD hB7 h37 h36 hmod hmod2
  rcases ok with _ | _
  · have HBS := Lib.hid (fun z (g : Nw W z) => by have := bytes_bad _ _ S z hfS.out hSo.out (hS.out.nw g); rw [hcp.out] at this; exact this)
    go_wp2_with fail
    refine (HBS.out _ hB9.2).mono ?_
    rintro e w10 ⟨rfl, g10⟩
    have hB10 := CV.step' g10 hB9
    clear hB9 g10
    go_wp2_with fail
    refine (HC.out _ hB10.2).mono ?_
    rintro e w11 ⟨rfl, g11⟩
    have h11 := hB10.2.trans g11
    clear hB10 g11
    go_wp2
    go_ret
    exact ⟨rfl, h11⟩
  · have HBS := Lib.hid (fun z (g : Nw W z) => by have := bytes_ok _ _ S z hSo.out (hS.out.nw g); rw [hcp.out] at this; exact this)
    have HR3 : Hid (∀ z, Calls Try.prog 16 #[stV (bytesOf S)] z fun e W' => ∃ ut up, e = .returned (.agg #[ut, up, .int .i64 c1, .int .i64 c2, .int .i64 c3, .int .i64 c4]) ∧ ScAt W' ut up S ∧ Nw z W') := Lib.hid (fun z => by
      have := read_as (bytesOf S) S (rd_bytes S hSo.out) (bytes_small hSo.out) z
      unfold RdS at this
      rw [hcp.out] at this
      exact this)
    have HSS : Hid (∀ ut up z, Nw W z → ScAt z ut up S → Calls Try.prog 21 #[.agg #[ut, up, .int .i64 c1, .int .i64 c2, .int .i64 c3, .int .i64 c4], .agg #[.slice a0 n0 t0, .slice p0 m0 q0, .int .i64 c1, .int .i64 c2, .int .i64 c3, .int .i64 c4]] z fun e w' => e = .returned (.bool true) ∧ Nw z w') := Lib.hid (fun ut up z g h => by
      have := sameScript_any ut up _ _ S z hfS.out h (hS.out.nw g)
      rw [hcp.out] at this
      exact this)
    go_wp2_with fail
    refine (HBS.out _ hB9.2).mono ?_
    rintro e w10 ⟨rfl, g10⟩
    have hB10 := CV.step' g10 hB9
    clear hB9 g10
    go_wp2_with fail
    refine (HC.out _ hB10.2).mono ?_
    rintro e w11 ⟨rfl, g11⟩
    have hB11 := CV.step' g11 hB10
    clear hB10 g11
    go_wp2
    have hB12 := CV.step' (Nw.refl _).drew1 hB11
    have h12 := hB12.2
    refine region_told [some true, some true, some true, some true, some false, some true, none, some false, none, some true, some true] (CV W [(B1, 0, .slice a1 n1 t1), (B1, 1, .slice p1 m1 q1), (B1, 2, .int .i64 d1), (B1, 3, .int .i64 d2), (B1, 4, .int .i64 d3), (B1, 5, .int .i64 d4), (W.heap.size, 0, .slice a0 n0 t0), (W.heap.size, 1, .slice p0 m0 q0), (W.heap.size, 2, .int .i64 c1), (W.heap.size, 3, .int .i64 c2), (W.heap.size, 4, .int .i64 c3), (W.heap.size, 5, .int .i64 c4)]) (by kernel_rfl) (by kernel_rfl) (by kernel_rfl) hB12 ?_
    repeat (first
      | (refine HW.off ?_)
      | (refine HW.take' ?_; apply Exists.intro; refine ⟨Or.inl ⟨by rfl, ?_⟩, ?_⟩; (intro x hx'; go_simp; first | done | with_reducible rfl); (try simp only [Act.put, List.setIfInBounds_toArray, List.set_cons_zero, List.set_cons_succ]))
      | (refine HW.go (fun KK hKK => ?_); go_simp; (first | (go_at_call 16; (with_reducible refine (HR3.out _).mono ?_); rintro e w13 ⟨ut', up', rfl, hs13, g13⟩; refine hKK.out _ _ (CV.step' g13 hB12) ?_; intro _; clear hKK KK) | (go_at_call 21; (with_reducible refine (HSS.out _ _ _ (h12.trans g13) hs13).mono ?_); rintro e w14 ⟨rfl, g14⟩; refine hKK.out _ _ (CV.step' (g13.trans g14) hB12) ?_; intro hB14; clear hKK KK)); (try simp only [Act.put, List.setIfInBounds_toArray, List.set_cons_zero, List.set_cons_succ])))
    refine HW.end_ ?_
    refine NoPanic.normal ?_
    go_wp2
    go_ret
    exact ⟨rfl, hB14.2⟩
end Go.Proofs.Ytmegaipedagcjaa.scriptBack
