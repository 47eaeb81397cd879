/- Texts merged: QhD, QvU, QhE, QwJ, QwK, QhW -/
import Derived.Test.YtmciiobncfchlaaQueueTurnsB12
import Derived.WalkKit
import Derived.ProofKit
import Derived.OpenShut
import Derived.ShutString
import Derived.ChangeOld
import Derived.Below
import Derived.Deep.Slices
import Derived.Deep.Fields
import Derived.ChangeSame
import Derived.Lib.SmallJoins

/- Law 9: do: a call, and a scan. -/
section
namespace Go.Proofs.Ytmciiobncfchlaa
open Go.RowKit
set_option linter.unusedVariables false

theorem Fresh.mono {w w' : World} {v : Value} {q : List Rq} (h : Fresh w' v q) (g : w.heap.size ≤ w'.heap.size) : Fresh w v q := fun b o n c e => by
  rcases h b o n c e with h | h
  · exact .inl (Nat.le_trans g h)
  · exact .inr h
theorem four_boxes (w : World) (o1 o2 o3 o4 : Obj) : (((((w.alloc o1).alloc o2).alloc o3).alloc o4).heap[w.heap.size]? = some o1 ∧ ((((w.alloc o1).alloc o2).alloc o3).alloc o4).heap[w.heap.size + 1]? = some o2 ∧ ((((w.alloc o1).alloc o2).alloc o3).alloc o4).heap[w.heap.size + 2]? = some o3 ∧ ((((w.alloc o1).alloc o2).alloc o3).alloc o4).heap[w.heap.size + 3]? = some o4) ∧ Nw w ((((w.alloc o1).alloc o2).alloc o3).alloc o4) ∧ ((((w.alloc o1).alloc o2).alloc o3).alloc o4).heap.size = w.heap.size + 4 := by
  have s1 : (w.alloc o1).heap.size = w.heap.size + 1 := by simp
  have s2 : ((w.alloc o1).alloc o2).heap.size = w.heap.size + 2 := by simp
  have s3 : (((w.alloc o1).alloc o2).alloc o3).heap.size = w.heap.size + 3 := by simp
  refine ⟨⟨?_, ?_, ?_, ?_⟩, (((((Nw.refl w).alloc _).alloc _).alloc _).alloc _), by simp⟩
  · exact ((((Nw.refl _).alloc o2).alloc o3).alloc o4).at' (allocAt w o1)
  · rw [← s1]; exact (((Nw.refl _).alloc o3).alloc o4).at' (allocAt (w.alloc o1) o2)
  · rw [← s2]; exact ((Nw.refl _).alloc o4).at' (allocAt ((w.alloc o1).alloc o2) o3)
  · rw [← s3]; exact allocAt (((w.alloc o1).alloc o2).alloc o3) o4
/-- What becomes of a head by a call. -/
theorem do_split {n : Nat} {h : Hq} (a : HAct n h) (hn : n < 40) (k id txn m : Int) (X : Hq × Int) (hX : actR h k id txn m = X) :
    (X.2 = 0 → doQ h k id txn m = scH X.1 ∧ Ok X.1.W X.1.q ∧ X.1.q.length ≤ 40 ∧ StOk (tC X.1.q) (wpl X.1.q X.1.q.length)) ∧ (¬ X.2 = 0 → doQ h k id txn m = h) := by
  subst hX
  unfold doQ
  constructor
  · intro e
    have hB : h.W + 1 ≤ 4611686018427387904 := by have := a.W; omega
    obtain ⟨ok, _, _, _, _, hl⟩ := act_ok h a.inv.ok hB k id txn m e
    have hm := meas_act h a.inv.ok k id txn m e
    have := a.ms
    have := a.len
    rw [if_pos e]
    exact ⟨rfl, ok, by omega, stOk_ms ok (by omega)⟩
  · intro e
    rw [if_neg e]
/-- A head in a box that is older: what is known of its rows stays. -/
def Off (B : Nat) (v : Value) (q : List Rq) : Prop := ∀ b o n c, v = .slice (some ⟨b, o, none⟩) n c → b ≠ B ∨ q = []
theorem rd_off {w : World} {v : Value} {q : List Rq} {B : Nat} (h : RqAt w v q) (ho : Off B v q) (u0 u1 u2 u3 : Value) : RqAt (filld w B u0 u1 u2 u3) v q := by
  obtain ⟨a, c, rfl, hh⟩ := h
  rcases hh with ⟨rfl, hc⟩ | ⟨b, o, rfl, hc⟩
  · exact ⟨a, c, rfl, .inl ⟨rfl, hc⟩⟩
  · rcases ho b o _ _ rfl with hb | hq
    · refine ⟨_, c, rfl, .inr ⟨b, o, rfl, ⟨by simpa [World.setCell] using hc.lt, fun i hi cc u hu => ?_⟩⟩⟩
      have e : ∀ (z : World) (j : Nat) (x : Value), (z.setCell ⟨B, j, none⟩ x).cell? ⟨b, o + i * 5 + cc, none⟩ = z.cell? ⟨b, o + i * 5 + cc, none⟩ := fun z j x =>
        World.cell?_of_block (heap_st rfl (p := ⟨B, j, none⟩) (fun e => hb e.symm) x)
      show (filld w B u0 u1 u2 u3).cell? _ = _
      unfold filld
      rw [e, e, e, e]
      exact hc.cell i hi cc u hu
    · subst hq
      exact ⟨_, c, rfl, .inl ⟨rfl, fun e => by cases e⟩⟩
set_option maxRecDepth 100000 in
set_option maxHeartbeats 8000000 in
theorem lDo0 (h : Hq) (k0 : Nat) (ha : HAct k0 h) (hk0 : k0 < 40) (kd id txn m : Int) (hkd : kd % 4 = 0) (v : Value) (w : World) (hat : RqAt w v h.q) :
    Calls Try.prog 30 #[hdV h.t h.r v h.W, .agg #[.int .i64 kd, .int .i64 id, .int .i64 txn, .int .i64 m]] w fun e w' => ∃ v', e = .returned (hdV (doQ h 0 id txn m).t (doQ h 0 id txn m).r v' (doQ h 0 id txn m).W) ∧ Nw w w' ∧ RqAt w' v' (doQ h 0 id txn m).q ∧ (Fresh w v' (doQ h 0 id txn m).q ∨ v' = v) := by
  have HA := Lib.hid (And.intro ha.inv.ok ha.len)
  have hlk : h.q.length ≤ 40 := by have := ha.len; omega
  replace HA := Lib.hid (And.intro HA.out.1 hlk)
  have HSp := Lib.hid (do_split ha hk0 0 id txn m)
  have HP := Lib.hid (fun w => pick_any kd 4 w (by omega) (by omega))
  rw [hkd] at HP
  obtain ⟨D, hD⟩ : ∃ D, doQ h 0 id txn m = D := ⟨_, rfl⟩
  rw [hD] at HSp ⊢
  unfold hdV
  obtain ⟨a, c, rfl⟩ := hat.form
  obtain ⟨n, hn⟩ : ∃ n, h.q.length = n := ⟨_, rfl⟩
  rw [hn] at hat ⊢
  obtain ⟨t, ht⟩ : ∃ x, h.t = x := ⟨_, rfl⟩
  obtain ⟨r, hr⟩ : ∃ x, h.r = x := ⟨_, rfl⟩
  obtain ⟨W, hW⟩ : ∃ x, h.W = x := ⟨_, rfl⟩
  rw [ht, hr, hW]
  have HTR := Lib.hid (And.intro ht (And.intro hr (And.intro hW hn)))
  have HAt := Lib.hid hat
  have hX := four_boxes w (.cells #[.int .i64 t, .int .i64 r, .slice a n c, .int .i64 W] 27) (.cells #[.int .i64 kd, .int .i64 id, .int .i64 txn, .int .i64 m] 58) (.cells #[.int .i64 0, .int .i64 0, .slice none 0 0, .int .i64 0] 27) (.cells #[.int .i64 0, .int .i64 0, .slice none 0 0, .int .i64 0] 27)
  obtain ⟨u, hu⟩ : ∃ u, (((w.alloc (.cells #[.int .i64 t, .int .i64 r, .slice a n c, .int .i64 W] 27)).alloc (.cells #[.int .i64 kd, .int .i64 id, .int .i64 txn, .int .i64 m] 58)).alloc (.cells #[.int .i64 0, .int .i64 0, .slice none 0 0, .int .i64 0] 27)).alloc (.cells #[.int .i64 0, .int .i64 0, .slice none 0 0, .int .i64 0] 27) = u := ⟨_, rfl⟩
  rw [hu] at hX
  have HU := Lib.hid hu
  have HX := Lib.hid hX
  have HC := Lib.hid (dAsk t r W id txn m (.slice a n c) h.q u (by have := HA.out.2; omega) (by rw [← hW]; exact HA.out.1) (HAt.out.nw HX.out.2.1))
  unfold HD2 at HC
  obtain ⟨Y, hY⟩ : ∃ Y, askR ⟨t, r, W, h.q⟩ id txn m = Y := ⟨_, rfl⟩
  rw [hY] at HC
  have hXY : actR h 0 id txn m = (Y.1, Y.2.2) := by
    rw [← hY, ← ht, ← hr, ← hW]; rfl
  have HY := Lib.hid (HSp.out _ hXY)
  obtain ⟨x0, hx0⟩ : ∃ x, Y.1.t = x := ⟨_, rfl⟩
  obtain ⟨x1, hx1⟩ : ∃ x, Y.1.r = x := ⟨_, rfl⟩
  obtain ⟨x2, hx2⟩ : ∃ x, Y.1.W = x := ⟨_, rfl⟩
  obtain ⟨x3, hx3⟩ : ∃ x, Y.2.2 = x := ⟨_, rfl⟩
  obtain ⟨q', hq'⟩ : ∃ x, Y.1.q = x := ⟨_, rfl⟩
  obtain ⟨xb, hxb⟩ : ∃ x, Y.2.1 = x := ⟨_, rfl⟩
  have hS : (x3 = 0 → D.t = x0 ∧ D.r = x1 ∧ D.W = x2 ∧ D.q = (scanQ q').2 ∧ Ok x2 q' ∧ q'.length ≤ 40 ∧ StOk (tC q') (wpl q' q'.length)) ∧ (¬ x3 = 0 → D = h) := by
    rw [← hx0, ← hx1, ← hx2, ← hx3, ← hq']
    exact ⟨fun e => by obtain ⟨e1, e2, e3, e4⟩ := HY.out.1 e; rw [e1]; exact ⟨rfl, rfl, rfl, rfl, e2, e3, e4⟩, HY.out.2⟩
  have HS := Lib.hid hS
  rw [hx0, hx1, hx2, hx3, hq', hxb] at HC
  unfold hdV at HC
  clear hS hx0 hx1 hx2 hx3 hq' hxb HY hXY hY HSp ht hr hW hn hX hu hD ha hk0 hkd hlk hat
  obtain ⟨p, hp⟩ : ∃ p, w.heap.size = p := ⟨_, rfl⟩
  have HPp := Lib.hid hp
  rw [hp] at HX
  have hl0 := hlt HX.out.1.1
  have hl1 := hlt HX.out.1.2.1
  have hl3 := hlt HX.out.1.2.2.2
  have b0 := hcell (j := 0) HX.out.1.1
  have b1 := hcell (j := 1) HX.out.1.1
  have b2 := hcell (j := 2) HX.out.1.1
  have b3 := hcell (j := 3) HX.out.1.1
  have c0 := hcell (j := 0) HX.out.1.2.1
  have c1 := hcell (j := 1) HX.out.1.2.1
  have c2 := hcell (j := 2) HX.out.1.2.1
  have c3 := hcell (j := 3) HX.out.1.2.1
  clear hp
  go_enter Try.func30, Try.ntmps30
  go_wp2_with fail
  rw [HU.out, HPp.out]
  go_at_call 34
  refine (HP.out _).mono ?_
  rintro e u1 ⟨rfl, rfl⟩
  go_wp2_with fail
  go_at_call 8
  refine HC.out.mono ?_
  rintro e u2 ⟨v2, rfl, g2, hR, _, hf⟩
  clear hl0 hl1 hl3 b0 b1 b2 b3 c0 c1 c2 c3 HC
  obtain ⟨a2, k2, hv⟩ := hR.form
  obtain ⟨n2, hn2⟩ : ∃ n, q'.length = n := ⟨_, rfl⟩
  rw [hn2] at hv
  subst hv
  have HR := Lib.hid (And.intro hR (And.intro hf hn2))
  have hb0 := g2.at' HX.out.1.1
  have hb2 := g2.at' HX.out.1.2.2.1
  have hb3 := g2.at' HX.out.1.2.2.2
  have HBx := Lib.hid (And.intro hb0 (And.intro hb2 (And.intro hb3 g2)))
  have l0 := hlt hb0
  have l2 := hlt hb2
  have l3 := hlt hb3
  have b0 := hcell (j := 0) hb0
  have b1 := hcell (j := 1) hb0
  have b2 := hcell (j := 2) hb0
  have b3 := hcell (j := 3) hb0
  have r0 := hcell (j := 0) hb2
  have r1 := hcell (j := 1) hb2
  have r2 := hcell (j := 2) hb2
  have r3 := hcell (j := 3) hb2
  have o0 := hcell (j := 0) hb3
  have o1 := hcell (j := 1) hb3
  have o2 := hcell (j := 2) hb3
  have o3 := hcell (j := 3) hb3
  have zr := fun k => hfz (j := k) hb2
  have zo := fun k => hfz (j := k) hb3
  clear hb0 hb2 hb3 g2 hR hf hn2
  by_cases he : x3 = 0
  rotate_left
  · have de : (x3 == 0) = false := by simpa using he
    have HD := Lib.hid (HS.out.2 he)
    clear he HS
    go_wp2
    refine bodyPost_ret (v := .agg #[.int .i64 t, .int .i64 r, .slice a n c, .int .i64 W]) (by simp [results, Try.results30, go_sem, *]) rfl ?_
    have hN : Nw w u2 := HX.out.2.1.trans HBx.out.2.2.2
    have hN3 : Nw w (filld u2 (p + 3) (.int .i64 x0) (.int .i64 x1) (.slice a2 n2 k2) (.int .i64 x2)) := fill_nw hN (by rw [HPp.out]; omega) _ _ _ _
    have hN2 : Nw w (filld (filld u2 (p + 3) (.int .i64 x0) (.int .i64 x1) (.slice a2 n2 k2) (.int .i64 x2)) (p + 2) (.int .i64 t) (.int .i64 r) (.slice a n c) (.int .i64 W)) := fill_nw hN3 (by rw [HPp.out]; omega) _ _ _ _
    refine ⟨.slice a n c, ?_, hN2, ?_, .inr rfl⟩
    · rw [HD.out, HTR.out.1, HTR.out.2.1, HTR.out.2.2.1]
    · rw [HD.out]
      exact HAt.out.nw hN2
  · obtain ⟨dt, dr, dW, dq, ok, hl40, hst⟩ := HS.out.1 he
    have HD := Lib.hid (And.intro dt (And.intro dr (And.intro dW (And.intro dq (And.intro ok (And.intro hl40 hst))))))
    clear dt dr dW dq ok hl40 hst HS
    subst he
    obtain ⟨u3, hu3⟩ : ∃ x, filld u2 (p + 3) (.int .i64 x0) (.int .i64 x1) (.slice a2 n2 k2) (.int .i64 x2) = x := ⟨_, rfl⟩
    have hR3 : RqAt u3 (.slice a2 n2 k2) q' := by rw [← hu3]; exact rd_fill' HR.out.1 HR.out.2.1 (hlt HX.out.1.2.2.2) _ _ _ _
    have hN3 : Nw w u3 := by rw [← hu3]; exact fill_nw (HX.out.2.1.trans HBx.out.2.2.2) (by rw [HPp.out]; omega) _ _ _ _
    have hb3 : HB u3 (p + 3) x0 x1 (.slice a2 n2 k2) x2 := by rw [← hu3]; exact HB.fill (show Go.Proofs.Ytmciiobncfchlaa.HB u2 (p + 3) 0 0 (.slice none 0 0) 0 from HBx.out.2.2.1) _ _ _ _
    have hb2 : HB u3 (p + 2) 0 0 (.slice none 0 0) 0 := by
      rw [← hu3]
      exact heap_st (heap_st (heap_st (heap_st HBx.out.2.1 (p := ⟨p + 3, 0, none⟩) (by show p + 3 ≠ p + 2; omega) _) (p := ⟨p + 3, 1, none⟩) (by show p + 3 ≠ p + 2; omega) _) (p := ⟨p + 3, 2, none⟩) (by show p + 3 ≠ p + 2; omega) _) (p := ⟨p + 3, 3, none⟩) (by show p + 3 ≠ p + 2; omega) _
    have HE := Lib.hid hu3
    have H3 := Lib.hid (And.intro hR3 (And.intro hN3 (And.intro hb3 hb2)))
    have HSc := Lib.hid (dScan x0 x1 x2 (.slice a2 n2 k2) q' u3 (by have := HD.out.2.2.2.2.2.1; omega) HD.out.2.2.2.2.1 hR3 HD.out.2.2.2.2.2.2)
    unfold hdV at HSc
    clear hu3 hR3 hN3 hb3 hb2
    go_wp2_with fail
    have hE := HE.out
    unfold filld at hE
    rw [hE]
    clear hE o0 o1 o2 o3 zo l3 r0 r1 r2 r3 zr l2 b0 b1 b2 b3 l0
    have o0 := hcell (j := 0) H3.out.2.2.1
    have o1 := hcell (j := 1) H3.out.2.2.1
    have o2 := hcell (j := 2) H3.out.2.2.1
    have o3 := hcell (j := 3) H3.out.2.2.1
    have l3 := hlt H3.out.2.2.1
    try go_wp2_with fail
    go_at_call 12
    refine HSc.out.mono ?_
    rintro e u4 ⟨v4, vi, rfl, g4, hR4, _, hI4, hf4, hif4⟩
    clear o0 o1 o2 o3 l3 HSc
    obtain ⟨a4, k4, hv⟩ := hR4.form
    obtain ⟨n4, hn4⟩ : ∃ n, (scanQ q').2.length = n := ⟨_, rfl⟩
    rw [hn4] at hv
    subst hv
    have hb3 := H3.out.2.2.1.nw g4
    have hb2 := H3.out.2.2.2.nw g4
    have l2 := hlt hb2
    have l3 := hlt hb3
    have r0 := hcell (j := 0) hb2
    have r1 := hcell (j := 1) hb2
    have r2 := hcell (j := 2) hb2
    have r3 := hcell (j := 3) hb2
    have o0 := hcell (j := 0) hb3
    have o1 := hcell (j := 1) hb3
    have o2 := hcell (j := 2) hb3
    have o3 := hcell (j := 3) hb3
    have zr := fun k => hfz (j := k) hb2
    have zo := fun k => hfz (j := k) hb3
    have H4 := Lib.hid (And.intro hR4 (And.intro hf4 (And.intro g4 (And.intro (hlt H3.out.2.2.1) (hlt H3.out.2.2.2)))))
    clear hb3 hb2 hR4 hf4 hI4 hif4 g4 hn4
    go_wp2
    refine bodyPost_ret (v := .agg #[.int .i64 x0, .int .i64 x1, .slice a4 n4 k4, .int .i64 x2]) (by simp [results, Try.results30, go_sem, *]) rfl ?_
    have hN4 : Nw w u4 := H3.out.2.1.trans H4.out.2.2.1
    have hN5 := fill_nw hN4 (rb := p + 3) (by rw [HPp.out]; omega) (.int .i64 x0) (.int .i64 x1) (.slice a4 n4 k4) (.int .i64 x2)
    have hN6 := fill_nw hN5 (rb := p + 2) (by rw [HPp.out]; omega) (.int .i64 x0) (.int .i64 x1) (.slice a4 n4 k4) (.int .i64 x2)
    have hR5 := rd_fill' H4.out.1 H4.out.2.1 H4.out.2.2.2.1 (.int .i64 x0) (.int .i64 x1) (.slice a4 n4 k4) (.int .i64 x2)
    have hR6 := rd_fill' hR5 H4.out.2.1 H4.out.2.2.2.2 (.int .i64 x0) (.int .i64 x1) (.slice a4 n4 k4) (.int .i64 x2)
    refine ⟨.slice a4 n4 k4, ?_, hN6, ?_, .inl ?_⟩
    · rw [HD.out.1, HD.out.2.1, HD.out.2.2.1]
    · rw [HD.out.2.2.2.1]; exact hR6
    · rw [HD.out.2.2.2.1]; exact H4.out.2.1.mono H3.out.2.1.sz
set_option maxRecDepth 100000 in
set_option maxHeartbeats 8000000 in
theorem lDo1 (h : Hq) (k0 : Nat) (ha : HAct k0 h) (hk0 : k0 < 40) (kd id txn m : Int) (hkd : kd % 4 = 1) (v : Value) (w : World) (hat : RqAt w v h.q) :
    Calls Try.prog 30 #[hdV h.t h.r v h.W, .agg #[.int .i64 kd, .int .i64 id, .int .i64 txn, .int .i64 m]] w fun e w' => ∃ v', e = .returned (hdV (doQ h 1 id txn m).t (doQ h 1 id txn m).r v' (doQ h 1 id txn m).W) ∧ Nw w w' ∧ RqAt w' v' (doQ h 1 id txn m).q ∧ (Fresh w v' (doQ h 1 id txn m).q ∨ v' = v) := by
  have HA := Lib.hid (And.intro ha.inv.ok ha.len)
  have hlk : h.q.length ≤ 40 := by have := ha.len; omega
  replace HA := Lib.hid (And.intro HA.out.1 hlk)
  have HSp := Lib.hid (do_split ha hk0 1 id txn m)
  have HP := Lib.hid (fun w => pick_any kd 4 w (by omega) (by omega))
  rw [hkd] at HP
  obtain ⟨D, hD⟩ : ∃ D, doQ h 1 id txn m = D := ⟨_, rfl⟩
  rw [hD] at HSp ⊢
  unfold hdV
  obtain ⟨a, c, rfl⟩ := hat.form
  obtain ⟨n, hn⟩ : ∃ n, h.q.length = n := ⟨_, rfl⟩
  rw [hn] at hat ⊢
  obtain ⟨t, ht⟩ : ∃ x, h.t = x := ⟨_, rfl⟩
  obtain ⟨r, hr⟩ : ∃ x, h.r = x := ⟨_, rfl⟩
  obtain ⟨W, hW⟩ : ∃ x, h.W = x := ⟨_, rfl⟩
  rw [ht, hr, hW]
  have HTR := Lib.hid (And.intro ht (And.intro hr (And.intro hW hn)))
  have HAt := Lib.hid hat
  have hX := four_boxes w (.cells #[.int .i64 t, .int .i64 r, .slice a n c, .int .i64 W] 27) (.cells #[.int .i64 kd, .int .i64 id, .int .i64 txn, .int .i64 m] 58) (.cells #[.int .i64 0, .int .i64 0, .slice none 0 0, .int .i64 0] 27) (.cells #[.int .i64 0, .int .i64 0, .slice none 0 0, .int .i64 0] 27)
  obtain ⟨u, hu⟩ : ∃ u, (((w.alloc (.cells #[.int .i64 t, .int .i64 r, .slice a n c, .int .i64 W] 27)).alloc (.cells #[.int .i64 kd, .int .i64 id, .int .i64 txn, .int .i64 m] 58)).alloc (.cells #[.int .i64 0, .int .i64 0, .slice none 0 0, .int .i64 0] 27)).alloc (.cells #[.int .i64 0, .int .i64 0, .slice none 0 0, .int .i64 0] 27) = u := ⟨_, rfl⟩
  rw [hu] at hX
  have HU := Lib.hid hu
  have HX := Lib.hid hX
  have HC := Lib.hid (dUpgrade t r W id m (.slice a n c) h.q u (by have := HA.out.2; omega) (by rw [← hW]; exact HA.out.1) (HAt.out.nw HX.out.2.1))
  unfold HD2 at HC
  obtain ⟨Y, hY⟩ : ∃ Y, upR ⟨t, r, W, h.q⟩ id m = Y := ⟨_, rfl⟩
  rw [hY] at HC
  have hXY : actR h 1 id txn m = (Y.1, Y.2.2) := by
    rw [← hY, ← ht, ← hr, ← hW]; rfl
  have HY := Lib.hid (HSp.out _ hXY)
  obtain ⟨x0, hx0⟩ : ∃ x, Y.1.t = x := ⟨_, rfl⟩
  obtain ⟨x1, hx1⟩ : ∃ x, Y.1.r = x := ⟨_, rfl⟩
  obtain ⟨x2, hx2⟩ : ∃ x, Y.1.W = x := ⟨_, rfl⟩
  obtain ⟨x3, hx3⟩ : ∃ x, Y.2.2 = x := ⟨_, rfl⟩
  obtain ⟨q', hq'⟩ : ∃ x, Y.1.q = x := ⟨_, rfl⟩
  obtain ⟨xb, hxb⟩ : ∃ x, Y.2.1 = x := ⟨_, rfl⟩
  have hS : (x3 = 0 → D.t = x0 ∧ D.r = x1 ∧ D.W = x2 ∧ D.q = (scanQ q').2 ∧ Ok x2 q' ∧ q'.length ≤ 40 ∧ StOk (tC q') (wpl q' q'.length)) ∧ (¬ x3 = 0 → D = h) := by
    rw [← hx0, ← hx1, ← hx2, ← hx3, ← hq']
    exact ⟨fun e => by obtain ⟨e1, e2, e3, e4⟩ := HY.out.1 e; rw [e1]; exact ⟨rfl, rfl, rfl, rfl, e2, e3, e4⟩, HY.out.2⟩
  have HS := Lib.hid hS
  rw [hx0, hx1, hx2, hx3, hq', hxb] at HC
  unfold hdV at HC
  clear hS hx0 hx1 hx2 hx3 hq' hxb HY hXY hY HSp ht hr hW hn hX hu hD ha hk0 hkd hlk hat
  obtain ⟨p, hp⟩ : ∃ p, w.heap.size = p := ⟨_, rfl⟩
  have HPp := Lib.hid hp
  rw [hp] at HX
  have hl0 := hlt HX.out.1.1
  have hl1 := hlt HX.out.1.2.1
  have hl3 := hlt HX.out.1.2.2.2
  have b0 := hcell (j := 0) HX.out.1.1
  have b1 := hcell (j := 1) HX.out.1.1
  have b2 := hcell (j := 2) HX.out.1.1
  have b3 := hcell (j := 3) HX.out.1.1
  have c0 := hcell (j := 0) HX.out.1.2.1
  have c1 := hcell (j := 1) HX.out.1.2.1
  have c2 := hcell (j := 2) HX.out.1.2.1
  have c3 := hcell (j := 3) HX.out.1.2.1
  clear hp
  go_enter Try.func30, Try.ntmps30
  go_wp2_with fail
  rw [HU.out, HPp.out]
  go_at_call 34
  refine (HP.out _).mono ?_
  rintro e u1 ⟨rfl, rfl⟩
  go_wp2_with fail
  go_at_call 10
  refine HC.out.mono ?_
  rintro e u2 ⟨v2, rfl, g2, hR, _, hf⟩
  clear hl0 hl1 hl3 b0 b1 b2 b3 c0 c1 c2 c3 HC
  obtain ⟨a2, k2, hv⟩ := hR.form
  obtain ⟨n2, hn2⟩ : ∃ n, q'.length = n := ⟨_, rfl⟩
  rw [hn2] at hv
  subst hv
  have HR := Lib.hid (And.intro hR (And.intro hf hn2))
  have hb0 := g2.at' HX.out.1.1
  have hb2 := g2.at' HX.out.1.2.2.1
  have hb3 := g2.at' HX.out.1.2.2.2
  have HBx := Lib.hid (And.intro hb0 (And.intro hb2 (And.intro hb3 g2)))
  have l0 := hlt hb0
  have l2 := hlt hb2
  have l3 := hlt hb3
  have b0 := hcell (j := 0) hb0
  have b1 := hcell (j := 1) hb0
  have b2 := hcell (j := 2) hb0
  have b3 := hcell (j := 3) hb0
  have r0 := hcell (j := 0) hb2
  have r1 := hcell (j := 1) hb2
  have r2 := hcell (j := 2) hb2
  have r3 := hcell (j := 3) hb2
  have o0 := hcell (j := 0) hb3
  have o1 := hcell (j := 1) hb3
  have o2 := hcell (j := 2) hb3
  have o3 := hcell (j := 3) hb3
  have zr := fun k => hfz (j := k) hb2
  have zo := fun k => hfz (j := k) hb3
  clear hb0 hb2 hb3 g2 hR hf hn2
  by_cases he : x3 = 0
  rotate_left
  · have de : (x3 == 0) = false := by simpa using he
    have HD := Lib.hid (HS.out.2 he)
    clear he HS
    go_wp2
    refine bodyPost_ret (v := .agg #[.int .i64 t, .int .i64 r, .slice a n c, .int .i64 W]) (by simp [results, Try.results30, go_sem, *]) rfl ?_
    have hN : Nw w u2 := HX.out.2.1.trans HBx.out.2.2.2
    have hN3 : Nw w (filld u2 (p + 3) (.int .i64 x0) (.int .i64 x1) (.slice a2 n2 k2) (.int .i64 x2)) := fill_nw hN (by rw [HPp.out]; omega) _ _ _ _
    have hN2 : Nw w (filld (filld u2 (p + 3) (.int .i64 x0) (.int .i64 x1) (.slice a2 n2 k2) (.int .i64 x2)) (p + 2) (.int .i64 t) (.int .i64 r) (.slice a n c) (.int .i64 W)) := fill_nw hN3 (by rw [HPp.out]; omega) _ _ _ _
    refine ⟨.slice a n c, ?_, hN2, ?_, .inr rfl⟩
    · rw [HD.out, HTR.out.1, HTR.out.2.1, HTR.out.2.2.1]
    · rw [HD.out]
      exact HAt.out.nw hN2
  · obtain ⟨dt, dr, dW, dq, ok, hl40, hst⟩ := HS.out.1 he
    have HD := Lib.hid (And.intro dt (And.intro dr (And.intro dW (And.intro dq (And.intro ok (And.intro hl40 hst))))))
    clear dt dr dW dq ok hl40 hst HS
    subst he
    obtain ⟨u3, hu3⟩ : ∃ x, filld u2 (p + 3) (.int .i64 x0) (.int .i64 x1) (.slice a2 n2 k2) (.int .i64 x2) = x := ⟨_, rfl⟩
    have hR3 : RqAt u3 (.slice a2 n2 k2) q' := by rw [← hu3]; exact rd_fill' HR.out.1 HR.out.2.1 (hlt HX.out.1.2.2.2) _ _ _ _
    have hN3 : Nw w u3 := by rw [← hu3]; exact fill_nw (HX.out.2.1.trans HBx.out.2.2.2) (by rw [HPp.out]; omega) _ _ _ _
    have hb3 : HB u3 (p + 3) x0 x1 (.slice a2 n2 k2) x2 := by rw [← hu3]; exact HB.fill (show Go.Proofs.Ytmciiobncfchlaa.HB u2 (p + 3) 0 0 (.slice none 0 0) 0 from HBx.out.2.2.1) _ _ _ _
    have hb2 : HB u3 (p + 2) 0 0 (.slice none 0 0) 0 := by
      rw [← hu3]
      exact heap_st (heap_st (heap_st (heap_st HBx.out.2.1 (p := ⟨p + 3, 0, none⟩) (by show p + 3 ≠ p + 2; omega) _) (p := ⟨p + 3, 1, none⟩) (by show p + 3 ≠ p + 2; omega) _) (p := ⟨p + 3, 2, none⟩) (by show p + 3 ≠ p + 2; omega) _) (p := ⟨p + 3, 3, none⟩) (by show p + 3 ≠ p + 2; omega) _
    have HE := Lib.hid hu3
    have H3 := Lib.hid (And.intro hR3 (And.intro hN3 (And.intro hb3 hb2)))
    have HSc := Lib.hid (dScan x0 x1 x2 (.slice a2 n2 k2) q' u3 (by have := HD.out.2.2.2.2.2.1; omega) HD.out.2.2.2.2.1 hR3 HD.out.2.2.2.2.2.2)
    unfold hdV at HSc
    clear hu3 hR3 hN3 hb3 hb2
    go_wp2_with fail
    have hE := HE.out
    unfold filld at hE
    rw [hE]
    clear hE o0 o1 o2 o3 zo l3 r0 r1 r2 r3 zr l2 b0 b1 b2 b3 l0
    have o0 := hcell (j := 0) H3.out.2.2.1
    have o1 := hcell (j := 1) H3.out.2.2.1
    have o2 := hcell (j := 2) H3.out.2.2.1
    have o3 := hcell (j := 3) H3.out.2.2.1
    have l3 := hlt H3.out.2.2.1
    try go_wp2_with fail
    go_at_call 12
    refine HSc.out.mono ?_
    rintro e u4 ⟨v4, vi, rfl, g4, hR4, _, hI4, hf4, hif4⟩
    clear o0 o1 o2 o3 l3 HSc
    obtain ⟨a4, k4, hv⟩ := hR4.form
    obtain ⟨n4, hn4⟩ : ∃ n, (scanQ q').2.length = n := ⟨_, rfl⟩
    rw [hn4] at hv
    subst hv
    have hb3 := H3.out.2.2.1.nw g4
    have hb2 := H3.out.2.2.2.nw g4
    have l2 := hlt hb2
    have l3 := hlt hb3
    have r0 := hcell (j := 0) hb2
    have r1 := hcell (j := 1) hb2
    have r2 := hcell (j := 2) hb2
    have r3 := hcell (j := 3) hb2
    have o0 := hcell (j := 0) hb3
    have o1 := hcell (j := 1) hb3
    have o2 := hcell (j := 2) hb3
    have o3 := hcell (j := 3) hb3
    have zr := fun k => hfz (j := k) hb2
    have zo := fun k => hfz (j := k) hb3
    have H4 := Lib.hid (And.intro hR4 (And.intro hf4 (And.intro g4 (And.intro (hlt H3.out.2.2.1) (hlt H3.out.2.2.2)))))
    clear hb3 hb2 hR4 hf4 hI4 hif4 g4 hn4
    go_wp2
    refine bodyPost_ret (v := .agg #[.int .i64 x0, .int .i64 x1, .slice a4 n4 k4, .int .i64 x2]) (by simp [results, Try.results30, go_sem, *]) rfl ?_
    have hN4 : Nw w u4 := H3.out.2.1.trans H4.out.2.2.1
    have hN5 := fill_nw hN4 (rb := p + 3) (by rw [HPp.out]; omega) (.int .i64 x0) (.int .i64 x1) (.slice a4 n4 k4) (.int .i64 x2)
    have hN6 := fill_nw hN5 (rb := p + 2) (by rw [HPp.out]; omega) (.int .i64 x0) (.int .i64 x1) (.slice a4 n4 k4) (.int .i64 x2)
    have hR5 := rd_fill' H4.out.1 H4.out.2.1 H4.out.2.2.2.1 (.int .i64 x0) (.int .i64 x1) (.slice a4 n4 k4) (.int .i64 x2)
    have hR6 := rd_fill' hR5 H4.out.2.1 H4.out.2.2.2.2 (.int .i64 x0) (.int .i64 x1) (.slice a4 n4 k4) (.int .i64 x2)
    refine ⟨.slice a4 n4 k4, ?_, hN6, ?_, .inl ?_⟩
    · rw [HD.out.1, HD.out.2.1, HD.out.2.2.1]
    · rw [HD.out.2.2.2.1]; exact hR6
    · rw [HD.out.2.2.2.1]; exact H4.out.2.1.mono H3.out.2.1.sz
set_option maxRecDepth 100000 in
set_option maxHeartbeats 8000000 in
theorem lDo2 (h : Hq) (k0 : Nat) (ha : HAct k0 h) (hk0 : k0 < 40) (kd id txn m : Int) (hkd : kd % 4 = 2) (v : Value) (w : World) (hat : RqAt w v h.q) :
    Calls Try.prog 30 #[hdV h.t h.r v h.W, .agg #[.int .i64 kd, .int .i64 id, .int .i64 txn, .int .i64 m]] w fun e w' => ∃ v', e = .returned (hdV (doQ h 2 id txn m).t (doQ h 2 id txn m).r v' (doQ h 2 id txn m).W) ∧ Nw w w' ∧ RqAt w' v' (doQ h 2 id txn m).q ∧ (Fresh w v' (doQ h 2 id txn m).q ∨ v' = v) := by
  have HA := Lib.hid (And.intro ha.inv.ok ha.len)
  have hlk : h.q.length ≤ 40 := by have := ha.len; omega
  replace HA := Lib.hid (And.intro HA.out.1 hlk)
  have HSp := Lib.hid (do_split ha hk0 2 id txn m)
  have HP := Lib.hid (fun w => pick_any kd 4 w (by omega) (by omega))
  rw [hkd] at HP
  obtain ⟨D, hD⟩ : ∃ D, doQ h 2 id txn m = D := ⟨_, rfl⟩
  rw [hD] at HSp ⊢
  unfold hdV
  obtain ⟨a, c, rfl⟩ := hat.form
  obtain ⟨n, hn⟩ : ∃ n, h.q.length = n := ⟨_, rfl⟩
  rw [hn] at hat ⊢
  obtain ⟨t, ht⟩ : ∃ x, h.t = x := ⟨_, rfl⟩
  obtain ⟨r, hr⟩ : ∃ x, h.r = x := ⟨_, rfl⟩
  obtain ⟨W, hW⟩ : ∃ x, h.W = x := ⟨_, rfl⟩
  rw [ht, hr, hW]
  have HTR := Lib.hid (And.intro ht (And.intro hr (And.intro hW hn)))
  have HAt := Lib.hid hat
  have hX := four_boxes w (.cells #[.int .i64 t, .int .i64 r, .slice a n c, .int .i64 W] 27) (.cells #[.int .i64 kd, .int .i64 id, .int .i64 txn, .int .i64 m] 58) (.cells #[.int .i64 0, .int .i64 0, .slice none 0 0, .int .i64 0] 27) (.cells #[.int .i64 0, .int .i64 0, .slice none 0 0, .int .i64 0] 27)
  obtain ⟨u, hu⟩ : ∃ u, (((w.alloc (.cells #[.int .i64 t, .int .i64 r, .slice a n c, .int .i64 W] 27)).alloc (.cells #[.int .i64 kd, .int .i64 id, .int .i64 txn, .int .i64 m] 58)).alloc (.cells #[.int .i64 0, .int .i64 0, .slice none 0 0, .int .i64 0] 27)).alloc (.cells #[.int .i64 0, .int .i64 0, .slice none 0 0, .int .i64 0] 27) = u := ⟨_, rfl⟩
  rw [hu] at hX
  have HU := Lib.hid hu
  have HX := Lib.hid hX
  have HC := Lib.hid (dLeave t r W id (.slice a n c) h.q u (by have := HA.out.2; omega) (HAt.out.nw HX.out.2.1))
  unfold HD1 at HC
  obtain ⟨Y, hY⟩ : ∃ Y, lvR ⟨t, r, W, h.q⟩ id = Y := ⟨_, rfl⟩
  rw [hY] at HC
  have hXY : actR h 2 id txn m = Y := by
    rw [← hY, ← ht, ← hr, ← hW]; rfl
  have HY := Lib.hid (HSp.out _ hXY)
  obtain ⟨x0, hx0⟩ : ∃ x, Y.1.t = x := ⟨_, rfl⟩
  obtain ⟨x1, hx1⟩ : ∃ x, Y.1.r = x := ⟨_, rfl⟩
  obtain ⟨x2, hx2⟩ : ∃ x, Y.1.W = x := ⟨_, rfl⟩
  obtain ⟨x3, hx3⟩ : ∃ x, Y.2 = x := ⟨_, rfl⟩
  obtain ⟨q', hq'⟩ : ∃ x, Y.1.q = x := ⟨_, rfl⟩
  
  have hS : (x3 = 0 → D.t = x0 ∧ D.r = x1 ∧ D.W = x2 ∧ D.q = (scanQ q').2 ∧ Ok x2 q' ∧ q'.length ≤ 40 ∧ StOk (tC q') (wpl q' q'.length)) ∧ (¬ x3 = 0 → D = h) := by
    rw [← hx0, ← hx1, ← hx2, ← hx3, ← hq']
    exact ⟨fun e => by obtain ⟨e1, e2, e3, e4⟩ := HY.out.1 e; rw [e1]; exact ⟨rfl, rfl, rfl, rfl, e2, e3, e4⟩, HY.out.2⟩
  have HS := Lib.hid hS
  rw [hx0, hx1, hx2, hx3, hq'] at HC
  unfold hdV at HC
  clear hS hx0 hx1 hx2 hx3 hq' HY hXY hY HSp ht hr hW hn hX hu hD ha hk0 hkd hlk hat
  obtain ⟨p, hp⟩ : ∃ p, w.heap.size = p := ⟨_, rfl⟩
  have HPp := Lib.hid hp
  rw [hp] at HX
  have hl0 := hlt HX.out.1.1
  have hl1 := hlt HX.out.1.2.1
  have hl3 := hlt HX.out.1.2.2.2
  have b0 := hcell (j := 0) HX.out.1.1
  have b1 := hcell (j := 1) HX.out.1.1
  have b2 := hcell (j := 2) HX.out.1.1
  have b3 := hcell (j := 3) HX.out.1.1
  have c0 := hcell (j := 0) HX.out.1.2.1
  have c1 := hcell (j := 1) HX.out.1.2.1
  have c2 := hcell (j := 2) HX.out.1.2.1
  have c3 := hcell (j := 3) HX.out.1.2.1
  clear hp
  go_enter Try.func30, Try.ntmps30
  go_wp2_with fail
  rw [HU.out, HPp.out]
  go_at_call 34
  refine (HP.out _).mono ?_
  rintro e u1 ⟨rfl, rfl⟩
  go_wp2_with fail
  go_at_call 11
  refine HC.out.mono ?_
  rintro e u2 ⟨v2, rfl, g2, hR, _, hf⟩
  clear hl0 hl1 hl3 b0 b1 b2 b3 c0 c1 c2 c3 HC
  obtain ⟨a2, k2, hv⟩ := hR.form
  obtain ⟨n2, hn2⟩ : ∃ n, q'.length = n := ⟨_, rfl⟩
  rw [hn2] at hv
  subst hv
  have HR := Lib.hid (And.intro hR (And.intro hf hn2))
  have hb0 := g2.at' HX.out.1.1
  have hb2 := g2.at' HX.out.1.2.2.1
  have hb3 := g2.at' HX.out.1.2.2.2
  have HBx := Lib.hid (And.intro hb0 (And.intro hb2 (And.intro hb3 g2)))
  have l0 := hlt hb0
  have l2 := hlt hb2
  have l3 := hlt hb3
  have b0 := hcell (j := 0) hb0
  have b1 := hcell (j := 1) hb0
  have b2 := hcell (j := 2) hb0
  have b3 := hcell (j := 3) hb0
  have r0 := hcell (j := 0) hb2
  have r1 := hcell (j := 1) hb2
  have r2 := hcell (j := 2) hb2
  have r3 := hcell (j := 3) hb2
  have o0 := hcell (j := 0) hb3
  have o1 := hcell (j := 1) hb3
  have o2 := hcell (j := 2) hb3
  have o3 := hcell (j := 3) hb3
  have zr := fun k => hfz (j := k) hb2
  have zo := fun k => hfz (j := k) hb3
  clear hb0 hb2 hb3 g2 hR hf hn2
  by_cases he : x3 = 0
  rotate_left
  · have de : (x3 == 0) = false := by simpa using he
    have HD := Lib.hid (HS.out.2 he)
    clear he HS
    go_wp2
    refine bodyPost_ret (v := .agg #[.int .i64 t, .int .i64 r, .slice a n c, .int .i64 W]) (by simp [results, Try.results30, go_sem, *]) rfl ?_
    have hN : Nw w u2 := HX.out.2.1.trans HBx.out.2.2.2
    have hN3 : Nw w (filld u2 (p + 3) (.int .i64 x0) (.int .i64 x1) (.slice a2 n2 k2) (.int .i64 x2)) := fill_nw hN (by rw [HPp.out]; omega) _ _ _ _
    have hN2 : Nw w (filld (filld u2 (p + 3) (.int .i64 x0) (.int .i64 x1) (.slice a2 n2 k2) (.int .i64 x2)) (p + 2) (.int .i64 t) (.int .i64 r) (.slice a n c) (.int .i64 W)) := fill_nw hN3 (by rw [HPp.out]; omega) _ _ _ _
    refine ⟨.slice a n c, ?_, hN2, ?_, .inr rfl⟩
    · rw [HD.out, HTR.out.1, HTR.out.2.1, HTR.out.2.2.1]
    · rw [HD.out]
      exact HAt.out.nw hN2
  · obtain ⟨dt, dr, dW, dq, ok, hl40, hst⟩ := HS.out.1 he
    have HD := Lib.hid (And.intro dt (And.intro dr (And.intro dW (And.intro dq (And.intro ok (And.intro hl40 hst))))))
    clear dt dr dW dq ok hl40 hst HS
    subst he
    obtain ⟨u3, hu3⟩ : ∃ x, filld u2 (p + 3) (.int .i64 x0) (.int .i64 x1) (.slice a2 n2 k2) (.int .i64 x2) = x := ⟨_, rfl⟩
    have hR3 : RqAt u3 (.slice a2 n2 k2) q' := by rw [← hu3]; exact rd_fill' HR.out.1 HR.out.2.1 (hlt HX.out.1.2.2.2) _ _ _ _
    have hN3 : Nw w u3 := by rw [← hu3]; exact fill_nw (HX.out.2.1.trans HBx.out.2.2.2) (by rw [HPp.out]; omega) _ _ _ _
    have hb3 : HB u3 (p + 3) x0 x1 (.slice a2 n2 k2) x2 := by rw [← hu3]; exact HB.fill (show Go.Proofs.Ytmciiobncfchlaa.HB u2 (p + 3) 0 0 (.slice none 0 0) 0 from HBx.out.2.2.1) _ _ _ _
    have hb2 : HB u3 (p + 2) 0 0 (.slice none 0 0) 0 := by
      rw [← hu3]
      exact heap_st (heap_st (heap_st (heap_st HBx.out.2.1 (p := ⟨p + 3, 0, none⟩) (by show p + 3 ≠ p + 2; omega) _) (p := ⟨p + 3, 1, none⟩) (by show p + 3 ≠ p + 2; omega) _) (p := ⟨p + 3, 2, none⟩) (by show p + 3 ≠ p + 2; omega) _) (p := ⟨p + 3, 3, none⟩) (by show p + 3 ≠ p + 2; omega) _
    have HE := Lib.hid hu3
    have H3 := Lib.hid (And.intro hR3 (And.intro hN3 (And.intro hb3 hb2)))
    have HSc := Lib.hid (dScan x0 x1 x2 (.slice a2 n2 k2) q' u3 (by have := HD.out.2.2.2.2.2.1; omega) HD.out.2.2.2.2.1 hR3 HD.out.2.2.2.2.2.2)
    unfold hdV at HSc
    clear hu3 hR3 hN3 hb3 hb2
    go_wp2_with fail
    have hE := HE.out
    unfold filld at hE
    rw [hE]
    clear hE o0 o1 o2 o3 zo l3 r0 r1 r2 r3 zr l2 b0 b1 b2 b3 l0
    have o0 := hcell (j := 0) H3.out.2.2.1
    have o1 := hcell (j := 1) H3.out.2.2.1
    have o2 := hcell (j := 2) H3.out.2.2.1
    have o3 := hcell (j := 3) H3.out.2.2.1
    have l3 := hlt H3.out.2.2.1
    try go_wp2_with fail
    go_at_call 12
    refine HSc.out.mono ?_
    rintro e u4 ⟨v4, vi, rfl, g4, hR4, _, hI4, hf4, hif4⟩
    clear o0 o1 o2 o3 l3 HSc
    obtain ⟨a4, k4, hv⟩ := hR4.form
    obtain ⟨n4, hn4⟩ : ∃ n, (scanQ q').2.length = n := ⟨_, rfl⟩
    rw [hn4] at hv
    subst hv
    have hb3 := H3.out.2.2.1.nw g4
    have hb2 := H3.out.2.2.2.nw g4
    have l2 := hlt hb2
    have l3 := hlt hb3
    have r0 := hcell (j := 0) hb2
    have r1 := hcell (j := 1) hb2
    have r2 := hcell (j := 2) hb2
    have r3 := hcell (j := 3) hb2
    have o0 := hcell (j := 0) hb3
    have o1 := hcell (j := 1) hb3
    have o2 := hcell (j := 2) hb3
    have o3 := hcell (j := 3) hb3
    have zr := fun k => hfz (j := k) hb2
    have zo := fun k => hfz (j := k) hb3
    have H4 := Lib.hid (And.intro hR4 (And.intro hf4 (And.intro g4 (And.intro (hlt H3.out.2.2.1) (hlt H3.out.2.2.2)))))
    clear hb3 hb2 hR4 hf4 hI4 hif4 g4 hn4
    go_wp2
    refine bodyPost_ret (v := .agg #[.int .i64 x0, .int .i64 x1, .slice a4 n4 k4, .int .i64 x2]) (by simp [results, Try.results30, go_sem, *]) rfl ?_
    have hN4 : Nw w u4 := H3.out.2.1.trans H4.out.2.2.1
    have hN5 := fill_nw hN4 (rb := p + 3) (by rw [HPp.out]; omega) (.int .i64 x0) (.int .i64 x1) (.slice a4 n4 k4) (.int .i64 x2)
    have hN6 := fill_nw hN5 (rb := p + 2) (by rw [HPp.out]; omega) (.int .i64 x0) (.int .i64 x1) (.slice a4 n4 k4) (.int .i64 x2)
    have hR5 := rd_fill' H4.out.1 H4.out.2.1 H4.out.2.2.2.1 (.int .i64 x0) (.int .i64 x1) (.slice a4 n4 k4) (.int .i64 x2)
    have hR6 := rd_fill' hR5 H4.out.2.1 H4.out.2.2.2.2 (.int .i64 x0) (.int .i64 x1) (.slice a4 n4 k4) (.int .i64 x2)
    refine ⟨.slice a4 n4 k4, ?_, hN6, ?_, .inl ?_⟩
    · rw [HD.out.1, HD.out.2.1, HD.out.2.2.1]
    · rw [HD.out.2.2.2.1]; exact hR6
    · rw [HD.out.2.2.2.1]; exact H4.out.2.1.mono H3.out.2.1.sz
set_option maxRecDepth 100000 in
set_option maxHeartbeats 8000000 in
theorem lDo3 (h : Hq) (k0 : Nat) (ha : HAct k0 h) (hk0 : k0 < 40) (kd id txn m : Int) (hkd : kd % 4 = 3) (v : Value) (w : World) (hat : RqAt w v h.q) :
    Calls Try.prog 30 #[hdV h.t h.r v h.W, .agg #[.int .i64 kd, .int .i64 id, .int .i64 txn, .int .i64 m]] w fun e w' => ∃ v', e = .returned (hdV (doQ h 3 id txn m).t (doQ h 3 id txn m).r v' (doQ h 3 id txn m).W) ∧ Nw w w' ∧ RqAt w' v' (doQ h 3 id txn m).q ∧ (Fresh w v' (doQ h 3 id txn m).q ∨ v' = v) := by
  have HA := Lib.hid (And.intro ha.inv.ok ha.len)
  have hlk : h.q.length ≤ 40 := by have := ha.len; omega
  replace HA := Lib.hid (And.intro HA.out.1 hlk)
  have HSp := Lib.hid (do_split ha hk0 3 id txn m)
  have HP := Lib.hid (fun w => pick_any kd 4 w (by omega) (by omega))
  rw [hkd] at HP
  obtain ⟨D, hD⟩ : ∃ D, doQ h 3 id txn m = D := ⟨_, rfl⟩
  rw [hD] at HSp ⊢
  unfold hdV
  obtain ⟨a, c, rfl⟩ := hat.form
  obtain ⟨n, hn⟩ : ∃ n, h.q.length = n := ⟨_, rfl⟩
  rw [hn] at hat ⊢
  obtain ⟨t, ht⟩ : ∃ x, h.t = x := ⟨_, rfl⟩
  obtain ⟨r, hr⟩ : ∃ x, h.r = x := ⟨_, rfl⟩
  obtain ⟨W, hW⟩ : ∃ x, h.W = x := ⟨_, rfl⟩
  rw [ht, hr, hW]
  have HTR := Lib.hid (And.intro ht (And.intro hr (And.intro hW hn)))
  have HAt := Lib.hid hat
  have hX := four_boxes w (.cells #[.int .i64 t, .int .i64 r, .slice a n c, .int .i64 W] 27) (.cells #[.int .i64 kd, .int .i64 id, .int .i64 txn, .int .i64 m] 58) (.cells #[.int .i64 0, .int .i64 0, .slice none 0 0, .int .i64 0] 27) (.cells #[.int .i64 0, .int .i64 0, .slice none 0 0, .int .i64 0] 27)
  obtain ⟨u, hu⟩ : ∃ u, (((w.alloc (.cells #[.int .i64 t, .int .i64 r, .slice a n c, .int .i64 W] 27)).alloc (.cells #[.int .i64 kd, .int .i64 id, .int .i64 txn, .int .i64 m] 58)).alloc (.cells #[.int .i64 0, .int .i64 0, .slice none 0 0, .int .i64 0] 27)).alloc (.cells #[.int .i64 0, .int .i64 0, .slice none 0 0, .int .i64 0] 27) = u := ⟨_, rfl⟩
  rw [hu] at hX
  have HU := Lib.hid hu
  have HX := Lib.hid hX
  have HC := Lib.hid (dAbandon t r W id (.slice a n c) h.q u (by have := HA.out.2; omega) (by rw [← hW]; exact HA.out.1) (HAt.out.nw HX.out.2.1))
  unfold HD1 at HC
  obtain ⟨Y, hY⟩ : ∃ Y, abRes ⟨t, r, W, h.q⟩ id = Y := ⟨_, rfl⟩
  rw [hY] at HC
  have hXY : actR h 3 id txn m = Y := by
    rw [← hY, ← ht, ← hr, ← hW]; rfl
  have HY := Lib.hid (HSp.out _ hXY)
  obtain ⟨x0, hx0⟩ : ∃ x, Y.1.t = x := ⟨_, rfl⟩
  obtain ⟨x1, hx1⟩ : ∃ x, Y.1.r = x := ⟨_, rfl⟩
  obtain ⟨x2, hx2⟩ : ∃ x, Y.1.W = x := ⟨_, rfl⟩
  obtain ⟨x3, hx3⟩ : ∃ x, Y.2 = x := ⟨_, rfl⟩
  obtain ⟨q', hq'⟩ : ∃ x, Y.1.q = x := ⟨_, rfl⟩
  
  have hS : (x3 = 0 → D.t = x0 ∧ D.r = x1 ∧ D.W = x2 ∧ D.q = (scanQ q').2 ∧ Ok x2 q' ∧ q'.length ≤ 40 ∧ StOk (tC q') (wpl q' q'.length)) ∧ (¬ x3 = 0 → D = h) := by
    rw [← hx0, ← hx1, ← hx2, ← hx3, ← hq']
    exact ⟨fun e => by obtain ⟨e1, e2, e3, e4⟩ := HY.out.1 e; rw [e1]; exact ⟨rfl, rfl, rfl, rfl, e2, e3, e4⟩, HY.out.2⟩
  have HS := Lib.hid hS
  rw [hx0, hx1, hx2, hx3, hq'] at HC
  unfold hdV at HC
  clear hS hx0 hx1 hx2 hx3 hq' HY hXY hY HSp ht hr hW hn hX hu hD ha hk0 hkd hlk hat
  obtain ⟨p, hp⟩ : ∃ p, w.heap.size = p := ⟨_, rfl⟩
  have HPp := Lib.hid hp
  rw [hp] at HX
  have hl0 := hlt HX.out.1.1
  have hl1 := hlt HX.out.1.2.1
  have hl3 := hlt HX.out.1.2.2.2
  have b0 := hcell (j := 0) HX.out.1.1
  have b1 := hcell (j := 1) HX.out.1.1
  have b2 := hcell (j := 2) HX.out.1.1
  have b3 := hcell (j := 3) HX.out.1.1
  have c0 := hcell (j := 0) HX.out.1.2.1
  have c1 := hcell (j := 1) HX.out.1.2.1
  have c2 := hcell (j := 2) HX.out.1.2.1
  have c3 := hcell (j := 3) HX.out.1.2.1
  clear hp
  go_enter Try.func30, Try.ntmps30
  go_wp2_with fail
  rw [HU.out, HPp.out]
  go_at_call 34
  refine (HP.out _).mono ?_
  rintro e u1 ⟨rfl, rfl⟩
  go_wp2_with fail
  go_at_call 13
  refine HC.out.mono ?_
  rintro e u2 ⟨v2, rfl, g2, hR, _, hf⟩
  clear hl0 hl1 hl3 b0 b1 b2 b3 c0 c1 c2 c3 HC
  obtain ⟨a2, k2, hv⟩ := hR.form
  obtain ⟨n2, hn2⟩ : ∃ n, q'.length = n := ⟨_, rfl⟩
  rw [hn2] at hv
  subst hv
  have HR := Lib.hid (And.intro hR (And.intro hf hn2))
  have hb0 := g2.at' HX.out.1.1
  have hb2 := g2.at' HX.out.1.2.2.1
  have hb3 := g2.at' HX.out.1.2.2.2
  have HBx := Lib.hid (And.intro hb0 (And.intro hb2 (And.intro hb3 g2)))
  have l0 := hlt hb0
  have l2 := hlt hb2
  have l3 := hlt hb3
  have b0 := hcell (j := 0) hb0
  have b1 := hcell (j := 1) hb0
  have b2 := hcell (j := 2) hb0
  have b3 := hcell (j := 3) hb0
  have r0 := hcell (j := 0) hb2
  have r1 := hcell (j := 1) hb2
  have r2 := hcell (j := 2) hb2
  have r3 := hcell (j := 3) hb2
  have o0 := hcell (j := 0) hb3
  have o1 := hcell (j := 1) hb3
  have o2 := hcell (j := 2) hb3
  have o3 := hcell (j := 3) hb3
  have zr := fun k => hfz (j := k) hb2
  have zo := fun k => hfz (j := k) hb3
  clear hb0 hb2 hb3 g2 hR hf hn2
  by_cases he : x3 = 0
  rotate_left
  · have de : (x3 == 0) = false := by simpa using he
    have HD := Lib.hid (HS.out.2 he)
    clear he HS
    go_wp2
    refine bodyPost_ret (v := .agg #[.int .i64 t, .int .i64 r, .slice a n c, .int .i64 W]) (by simp [results, Try.results30, go_sem, *]) rfl ?_
    have hN : Nw w u2 := HX.out.2.1.trans HBx.out.2.2.2
    have hN3 : Nw w (filld u2 (p + 3) (.int .i64 x0) (.int .i64 x1) (.slice a2 n2 k2) (.int .i64 x2)) := fill_nw hN (by rw [HPp.out]; omega) _ _ _ _
    have hN2 : Nw w (filld (filld u2 (p + 3) (.int .i64 x0) (.int .i64 x1) (.slice a2 n2 k2) (.int .i64 x2)) (p + 2) (.int .i64 t) (.int .i64 r) (.slice a n c) (.int .i64 W)) := fill_nw hN3 (by rw [HPp.out]; omega) _ _ _ _
    refine ⟨.slice a n c, ?_, hN2, ?_, .inr rfl⟩
    · rw [HD.out, HTR.out.1, HTR.out.2.1, HTR.out.2.2.1]
    · rw [HD.out]
      exact HAt.out.nw hN2
  · obtain ⟨dt, dr, dW, dq, ok, hl40, hst⟩ := HS.out.1 he
    have HD := Lib.hid (And.intro dt (And.intro dr (And.intro dW (And.intro dq (And.intro ok (And.intro hl40 hst))))))
    clear dt dr dW dq ok hl40 hst HS
    subst he
    obtain ⟨u3, hu3⟩ : ∃ x, filld u2 (p + 3) (.int .i64 x0) (.int .i64 x1) (.slice a2 n2 k2) (.int .i64 x2) = x := ⟨_, rfl⟩
    have hR3 : RqAt u3 (.slice a2 n2 k2) q' := by rw [← hu3]; exact rd_fill' HR.out.1 HR.out.2.1 (hlt HX.out.1.2.2.2) _ _ _ _
    have hN3 : Nw w u3 := by rw [← hu3]; exact fill_nw (HX.out.2.1.trans HBx.out.2.2.2) (by rw [HPp.out]; omega) _ _ _ _
    have hb3 : HB u3 (p + 3) x0 x1 (.slice a2 n2 k2) x2 := by rw [← hu3]; exact HB.fill (show Go.Proofs.Ytmciiobncfchlaa.HB u2 (p + 3) 0 0 (.slice none 0 0) 0 from HBx.out.2.2.1) _ _ _ _
    have hb2 : HB u3 (p + 2) 0 0 (.slice none 0 0) 0 := by
      rw [← hu3]
      exact heap_st (heap_st (heap_st (heap_st HBx.out.2.1 (p := ⟨p + 3, 0, none⟩) (by show p + 3 ≠ p + 2; omega) _) (p := ⟨p + 3, 1, none⟩) (by show p + 3 ≠ p + 2; omega) _) (p := ⟨p + 3, 2, none⟩) (by show p + 3 ≠ p + 2; omega) _) (p := ⟨p + 3, 3, none⟩) (by show p + 3 ≠ p + 2; omega) _
    have HE := Lib.hid hu3
    have H3 := Lib.hid (And.intro hR3 (And.intro hN3 (And.intro hb3 hb2)))
    have HSc := Lib.hid (dScan x0 x1 x2 (.slice a2 n2 k2) q' u3 (by have := HD.out.2.2.2.2.2.1; omega) HD.out.2.2.2.2.1 hR3 HD.out.2.2.2.2.2.2)
    unfold hdV at HSc
    clear hu3 hR3 hN3 hb3 hb2
    go_wp2_with fail
    have hE := HE.out
    unfold filld at hE
    rw [hE]
    clear hE o0 o1 o2 o3 zo l3 r0 r1 r2 r3 zr l2 b0 b1 b2 b3 l0
    have o0 := hcell (j := 0) H3.out.2.2.1
    have o1 := hcell (j := 1) H3.out.2.2.1
    have o2 := hcell (j := 2) H3.out.2.2.1
    have o3 := hcell (j := 3) H3.out.2.2.1
    have l3 := hlt H3.out.2.2.1
    try go_wp2_with fail
    go_at_call 12
    refine HSc.out.mono ?_
    rintro e u4 ⟨v4, vi, rfl, g4, hR4, _, hI4, hf4, hif4⟩
    clear o0 o1 o2 o3 l3 HSc
    obtain ⟨a4, k4, hv⟩ := hR4.form
    obtain ⟨n4, hn4⟩ : ∃ n, (scanQ q').2.length = n := ⟨_, rfl⟩
    rw [hn4] at hv
    subst hv
    have hb3 := H3.out.2.2.1.nw g4
    have hb2 := H3.out.2.2.2.nw g4
    have l2 := hlt hb2
    have l3 := hlt hb3
    have r0 := hcell (j := 0) hb2
    have r1 := hcell (j := 1) hb2
    have r2 := hcell (j := 2) hb2
    have r3 := hcell (j := 3) hb2
    have o0 := hcell (j := 0) hb3
    have o1 := hcell (j := 1) hb3
    have o2 := hcell (j := 2) hb3
    have o3 := hcell (j := 3) hb3
    have zr := fun k => hfz (j := k) hb2
    have zo := fun k => hfz (j := k) hb3
    have H4 := Lib.hid (And.intro hR4 (And.intro hf4 (And.intro g4 (And.intro (hlt H3.out.2.2.1) (hlt H3.out.2.2.2)))))
    clear hb3 hb2 hR4 hf4 hI4 hif4 g4 hn4
    go_wp2
    refine bodyPost_ret (v := .agg #[.int .i64 x0, .int .i64 x1, .slice a4 n4 k4, .int .i64 x2]) (by simp [results, Try.results30, go_sem, *]) rfl ?_
    have hN4 : Nw w u4 := H3.out.2.1.trans H4.out.2.2.1
    have hN5 := fill_nw hN4 (rb := p + 3) (by rw [HPp.out]; omega) (.int .i64 x0) (.int .i64 x1) (.slice a4 n4 k4) (.int .i64 x2)
    have hN6 := fill_nw hN5 (rb := p + 2) (by rw [HPp.out]; omega) (.int .i64 x0) (.int .i64 x1) (.slice a4 n4 k4) (.int .i64 x2)
    have hR5 := rd_fill' H4.out.1 H4.out.2.1 H4.out.2.2.2.1 (.int .i64 x0) (.int .i64 x1) (.slice a4 n4 k4) (.int .i64 x2)
    have hR6 := rd_fill' hR5 H4.out.2.1 H4.out.2.2.2.2 (.int .i64 x0) (.int .i64 x1) (.slice a4 n4 k4) (.int .i64 x2)
    refine ⟨.slice a4 n4 k4, ?_, hN6, ?_, .inl ?_⟩
    · rw [HD.out.1, HD.out.2.1, HD.out.2.2.1]
    · rw [HD.out.2.2.2.1]; exact hR6
    · rw [HD.out.2.2.2.1]; exact H4.out.2.1.mono H3.out.2.1.sz
theorem lDo (h : Hq) (k0 : Nat) (ha : HAct k0 h) (hk0 : k0 < 40) (kd id txn m : Int) (v : Value) (w : World) (hat : RqAt w v h.q) :
    Calls Try.prog 30 #[hdV h.t h.r v h.W, .agg #[.int .i64 kd, .int .i64 id, .int .i64 txn, .int .i64 m]] w fun e w' => ∃ v', e = .returned (hdV (doQ h (kd % 4) id txn m).t (doQ h (kd % 4) id txn m).r v' (doQ h (kd % 4) id txn m).W) ∧ Nw w w' ∧ RqAt w' v' (doQ h (kd % 4) id txn m).q ∧ (Fresh w v' (doQ h (kd % 4) id txn m).q ∨ v' = v) := by
  rcases (show kd % 4 = 0 ∨ kd % 4 = 1 ∨ kd % 4 = 2 ∨ kd % 4 = 3 by omega) with e | e | e | e <;> rw [e]
  · exact lDo0 h k0 ha hk0 kd id txn m e v w hat
  · exact lDo1 h k0 ha hk0 kd id txn m e v w hat
  · exact lDo2 h k0 ha hk0 kd id txn m e v w hat
  · exact lDo3 h k0 ha hk0 kd id txn m e v w hat
end Go.Proofs.Ytmciiobncfchlaa
end

/- Arguments: a request, a slice of requests, a head; the kit's LightHeads. -/
section
namespace Go.Proofs.Ytmciiobncfchlaa
open Go.ChangeShapes Go.WideShapes Go.ChangeAt Go.RowKit Go.Deep
set_option linter.unusedVariables false

theorem list_of {α : Type} {n : Nat} {Q : Nat → α → Prop} (h : ∀ i, i < n → ∃ x, Q i x) : ∃ l : List α, l.length = n ∧ ∀ i (hi : i < l.length), Q i l[i] := by
  induction n with
  | zero => exact ⟨[], rfl, fun i hi => by simp at hi⟩
  | succ n ih =>
    obtain ⟨l, hl, hq⟩ := ih fun i hi => h i (by omega)
    obtain ⟨x, hx⟩ := h n (by omega)
    refine ⟨l ++ [x], by simp [hl], fun i hi => ?_⟩
    rw [List.length_append, List.length_singleton] at hi
    by_cases q : i < l.length
    · rw [List.getElem_append_left q]; exact hq i q
    · have : i = n := by omega
      subst this
      rw [List.getElem_append_right (by omega)]
      simpa using hx
theorem len4 {cs : List Value} (h : cs.length = 4) : ∃ v0 v1 v2 v3, cs = [v0, v1, v2, v3] := by
  match cs, h with
  | [v0, v1, v2, v3], _ => exact ⟨v0, v1, v2, v3, rfl⟩
theorem len5 {cs : List Value} (h : cs.length = 5) : ∃ v0 v1 v2 v3 v4, cs = [v0, v1, v2, v3, v4] := by
  match cs, h with
  | [v0, v1, v2, v3, v4], _ => exact ⟨v0, v1, v2, v3, v4, rfl⟩
theorem cellsI : Try.prog.cellsOf 3 = 1 := by kernel_rfl
theorem cellsMode : Try.prog.cellsOf 32 = 1 := by kernel_rfl
theorem cellsNm : Try.prog.cellsOf 24 = 2 := by kernel_rfl
theorem cellsRq : Try.prog.cellsOf 41 = 5 := by kernel_rfl
theorem cellsSl : Try.prog.cellsOf 25 = 1 := by kernel_rfl
theorem cellsHd : Try.prog.cellsOf 27 = 4 := by kernel_rfl
section
variable {H : Type} {enc : TypeId × Value → H} {w : World} {base : Nat} {spare : Nat → Bool} {held : Bool}
theorem some_of {α : Type} {xs : List α} {i : Nat} (h : i < xs.length) : ∃ y, xs[i]? = some y := ⟨_, List.getElem?_eq_getElem h⟩
/-- All the numbers of a request are such as an int holds. -/
def FitU (R : Rq) : Prop := (-9223372036854775808 ≤ R.id ∧ R.id ≤ 9223372036854775807) ∧ (-9223372036854775808 ≤ R.txn ∧ R.txn ≤ 9223372036854775807) ∧ (-9223372036854775808 ≤ R.sn ∧ R.sn ≤ 9223372036854775807)
theorem of_wf {n : Int} (h : (Lit.int .i64 n).wf = true) : -9223372036854775808 ≤ n ∧ n ≤ 9223372036854775807 := by
  simp [Lit.wf, IntKind.min, IntKind.max, IntKind.signed, IntKind.bits] at h
  omega
theorem open_rq {fuel : Nat} {cs : List Value} {x : DataW H × List MemPlace} (h : DataW.trod enc Try.prog w base spare held fuel 41 cs = some x) : ∃ R : Rq, cs = rqrow R ∧ FitU R := by
  obtain ⟨xs, n, _, _, hl, hxl, hf⟩ := DataW.trod_struct Try.underlying41 h
  rw [cellsRq] at hl
  obtain ⟨v0, v1, v2, v3, v4, rfl⟩ := len5 hl
  have f0 : DataW.trod enc Try.prog w base spare held n 3 (([v0, v1, v2, v3, v4].drop 0).take (Try.prog.cellsOf 3)) = xs[0]? := hf 0 _ rfl
  have f1 : DataW.trod enc Try.prog w base spare held n 3 (([v0, v1, v2, v3, v4].drop 1).take (Try.prog.cellsOf 3)) = xs[1]? := hf 1 _ rfl
  have f2 : DataW.trod enc Try.prog w base spare held n 32 (([v0, v1, v2, v3, v4].drop 2).take (Try.prog.cellsOf 32)) = xs[2]? := hf 2 _ rfl
  have f3 : DataW.trod enc Try.prog w base spare held n 32 (([v0, v1, v2, v3, v4].drop 3).take (Try.prog.cellsOf 32)) = xs[3]? := hf 3 _ rfl
  have f4 : DataW.trod enc Try.prog w base spare held n 3 (([v0, v1, v2, v3, v4].drop 4).take (Try.prog.cellsOf 3)) = xs[4]? := hf 4 _ rfl
  simp at hxl
  obtain ⟨y0, e0⟩ := some_of (xs := xs) (i := 0) (by omega)
  obtain ⟨y1, e1⟩ := some_of (xs := xs) (i := 1) (by omega)
  obtain ⟨y2, e2⟩ := some_of (xs := xs) (i := 2) (by omega)
  obtain ⟨y3, e3⟩ := some_of (xs := xs) (i := 3) (by omega)
  obtain ⟨y4, e4⟩ := some_of (xs := xs) (i := 4) (by omega)
  rw [e0] at f0
  rw [e1] at f1
  rw [e2] at f2
  rw [e3] at f3
  rw [e4] at f4
  simp only [cellsI, cellsMode, List.drop_succ_cons, List.drop_zero, List.take_succ_cons, List.take_zero] at f0 f1 f2 f3 f4
  obtain ⟨a0, q0, _, u0⟩ := DataW.trod_int Try.underlying3 f0
  obtain ⟨a1, q1, _, u1⟩ := DataW.trod_int Try.underlying3 f1
  obtain ⟨a2, q2, _, u2⟩ := DataW.trod_int Try.underlying32 f2
  obtain ⟨a3, q3, _, u3⟩ := DataW.trod_int Try.underlying32 f3
  obtain ⟨a4, q4, _, u4⟩ := DataW.trod_int Try.underlying3 f4
  obtain rfl := (List.cons.inj q0).1
  obtain rfl := (List.cons.inj q1).1
  obtain rfl := (List.cons.inj q2).1
  obtain rfl := (List.cons.inj q3).1
  obtain rfl := (List.cons.inj q4).1
  exact ⟨⟨a0, a1, a2, a3, a4⟩, rfl, of_wf u0, of_wf u1, of_wf u4⟩
theorem open_rqs {fuel : Nat} {v : Value} {x : DataW H × List MemPlace} (h : DataW.trod enc Try.prog w base spare held fuel 25 [v] = some x) : ∃ l, RqAt w v l ∧ capOk v ∧ ∀ R ∈ l, FitU R := by
  rcases open_slice Try.underlying25 h with ⟨hcs, _⟩ | ⟨a, len, cap, m, n, D, Pl, hcs, _, hl, hm, hmm, _, hi⟩
  · simp only [List.cons.injEq, and_true] at hcs
    subst hcs
    exact ⟨[], Rd.nil w, Nat.le_refl _, fun R hR => by simp at hR⟩
  · simp only [List.cons.injEq, and_true] at hcs
    subst hcs
    have hlm : len ≤ m := by rw [hmm]; split <;> omega
    have each : ∀ i, i < len → ∃ R : Rq, FitU R ∧ ∀ j u, (rqrow R)[j]? = some u → w.cell? (a.add (i * 5 + j)) = some u := by
      intro i hil
      obtain ⟨cs', hc, ht⟩ := hi i (by omega)
      rw [cellsRq] at hc
      obtain ⟨R, rfl, hF⟩ := open_rq ht
      obtain ⟨_, hcl, hat⟩ := World.cells?_some hc
      have key : ∀ j, j < 5 → w.cell? (a.add (i * 5 + j)) = (rqrow R)[j]? := fun j hj => by rw [← Go.Deep.add_add]; exact hat j hj
      refine ⟨R, hF, fun j u hj => ?_⟩
      have hj6 : j < 5 := by have := (List.getElem?_eq_some_iff.1 hj).1; simpa [rqrow] using this
      rw [key j hj6]; exact hj
    obtain ⟨l, hll, hq⟩ := list_of each
    refine ⟨l, ?_, hl, fun R hR => by obtain ⟨i, hi, rfl⟩ := List.getElem_of_mem hR; exact (hq i (by omega)).1⟩
    subst hll
    rcases Nat.eq_zero_or_pos l.length with h0 | h0
    · obtain rfl := List.length_eq_zero_iff.1 h0
      exact ⟨some a, cap, rfl, .inl ⟨rfl, fun e => by cases e⟩⟩
    · have hu := (hq 0 h0).2 0 _ rfl
      obtain ⟨b, o, spot⟩ := a
      have hs : spot = none := by simpa [Addr.add] using World.cell?_spot hu
      subst hs
      refine ⟨some ⟨b, o, none⟩, cap, rfl, .inr ⟨b, o, rfl, ⟨?_, fun i hi c u hu => ?_⟩⟩⟩
      · rw [Addr.add_lit] at hu
        exact World.block_lt_of_cell? _ _ hu
      · have := (hq i hi).2 c u hu
        rw [Addr.add_lit, ← Nat.add_assoc] at this
        exact this
set_option maxRecDepth 100000 in
/-- A head that is handed in. -/
theorem open_headF {v : Value} {d : DataW H} {p : List MemPlace} {r : Reach} {b0 : Nat} (hv : Value.okWide Try.prog w r b0 27 v) (h : DataW.Trod enc Try.prog w base spare held 27 v d p) :
    ∃ (t r W : Int) (vq : Value) (q : List Rq), v = hdV t r vq W ∧ RqAt w vq q ∧ capOk vq ∧ ∀ R ∈ q, FitU R := by
  obtain ⟨cs, rfl, hsz⟩ := okWide_struct Try.underlying27 hv
  rw [cellsHd] at hsz
  obtain ⟨fuel, hf⟩ := h
  obtain ⟨xs, n, _, _, hl, hxl, hf⟩ := DataW.trod_struct Try.underlying27 hf
  obtain ⟨l⟩ := cs
  simp only [Value.cells] at hl hf
  obtain ⟨v0, v1, v2, v3, rfl⟩ := len4 hsz
  have f0 : DataW.trod enc Try.prog w base spare held n 24 (([v0, v1, v2, v3].drop 0).take (Try.prog.cellsOf 24)) = xs[0]? := hf 0 _ rfl
  have f1 : DataW.trod enc Try.prog w base spare held n 25 (([v0, v1, v2, v3].drop 2).take (Try.prog.cellsOf 25)) = xs[1]? := hf 1 _ rfl
  have f2 : DataW.trod enc Try.prog w base spare held n 3 (([v0, v1, v2, v3].drop 3).take (Try.prog.cellsOf 3)) = xs[2]? := hf 2 _ rfl
  simp at hxl
  obtain ⟨y0, e0⟩ := some_of (xs := xs) (i := 0) (by omega)
  obtain ⟨y1, e1⟩ := some_of (xs := xs) (i := 1) (by omega)
  obtain ⟨y2, e2⟩ := some_of (xs := xs) (i := 2) (by omega)
  rw [e0] at f0
  rw [e1] at f1
  rw [e2] at f2
  simp only [cellsI, cellsNm, cellsSl, List.drop_succ_cons, List.drop_zero, List.take_succ_cons, List.take_zero] at f0 f1 f2
  obtain ⟨q, hq, hc, hF⟩ := open_rqs f1
  obtain ⟨a3, q3, _, _⟩ := DataW.trod_int Try.underlying3 f2
  obtain ⟨xs', n', _, _, hl', hxl', hf'⟩ := DataW.trod_struct Try.underlying24 f0
  have g0 : DataW.trod enc Try.prog w base spare held n' 3 (([v0, v1].drop 0).take (Try.prog.cellsOf 3)) = xs'[0]? := hf' 0 _ rfl
  have g1 : DataW.trod enc Try.prog w base spare held n' 3 (([v0, v1].drop 1).take (Try.prog.cellsOf 3)) = xs'[1]? := hf' 1 _ rfl
  simp at hxl'
  obtain ⟨z0, r0⟩ := some_of (xs := xs') (i := 0) (by omega)
  obtain ⟨z1, r1⟩ := some_of (xs := xs') (i := 1) (by omega)
  rw [r0] at g0
  rw [r1] at g1
  simp only [cellsI, List.drop_succ_cons, List.drop_zero, List.take_succ_cons, List.take_zero] at g0 g1
  obtain ⟨a0, q0, _, _⟩ := DataW.trod_int Try.underlying3 g0
  obtain ⟨a1, q1, _, _⟩ := DataW.trod_int Try.underlying3 g1
  obtain rfl := (List.cons.inj q0).1
  obtain rfl := (List.cons.inj q1).1
  obtain rfl := (List.cons.inj q3).1
  exact ⟨a0, a1, a3, v2, q, rfl, hq, hc, hF⟩
set_option maxRecDepth 100000 in
theorem open_head {v : Value} {d : DataW H} {p : List MemPlace} {r : Reach} {b0 : Nat} (hv : Value.okWide Try.prog w r b0 27 v) (h : DataW.Trod enc Try.prog w base spare held 27 v d p) :
    ∃ (t r W : Int) (vq : Value) (q : List Rq), v = hdV t r vq W ∧ RqAt w vq q ∧ capOk vq := by
  obtain ⟨t, r, W, vq, q, h1, h2, h3, _⟩ := open_headF hv h
  exact ⟨t, r, W, vq, q, h1, h2, h3⟩
end
set_option maxRecDepth 100000 in
set_option maxHeartbeats 1000000 in
/-- LightHeads of one head. -/
theorem kLight1 (b : Nat) (t r W : Int) (a : Option Addr) (n c : Nat) (w : World) (h : w.heap[b]? = some (.cells #[.int .i64 t, .int .i64 r, .slice a n c, .int .i64 W] 27)) :
    Calls Try.prog 24 #[.slice (some ⟨b, 0, none⟩) 1 1, .int .i64 1] w fun e w' => e = .returned (.bool (decide (n ≤ 12))) ∧ Nw w w' := by
  have c2 := hcell (j := 2) h
  have hl := hlt h
  clear h
  by_cases hn : n ≤ 12
  · have d1 : decide (12 < (n : Int)) = false := by rw [decide_eq_false_iff_not]; omega
    rw [show decide (n ≤ 12) = true by simpa using hn]
    clear hn
    go_enter Try.func24, Try.ntmps24
    go_wp2
    refine wp_loop_rounds 2 ?_
    repeat (rw [rounds_succ]; go_wp2)
    go_ret
    exact ⟨rfl, Nw.refl _⟩
  · have d1 : decide (12 < (n : Int)) = true := by rw [decide_eq_true_iff]; omega
    rw [show decide (n ≤ 12) = false by simpa using hn]
    clear hn
    go_enter Try.func24, Try.ntmps24
    go_wp2
    refine wp_loop_rounds 2 ?_
    repeat (rw [rounds_succ]; go_wp2)
    go_ret
    exact ⟨rfl, Nw.refl _⟩
end Go.Proofs.Ytmciiobncfchlaa
end

/- What the walks are told of a slice of acts that came in; acts opened. -/
section
namespace Go.Proofs.Ytmciiobncfchlaa
open Go.ChangeShapes Go.WideShapes Go.ChangeAt Go.RowKit

def IsActs (w : World) (a : Option Addr) (len cap : Nat) (f : Nat → Nat → Int) : Prop :=
  (a = none ∧ len = 0 ∧ cap = 0) ∨ ∃ x, a = some x ∧ len ≤ cap ∧ cap ≤ maxLen ∧ ∀ i j, i < cap → j < 4 → w.cell? (x.add (i * 4 + j)) = some (.int .i64 (f i j)) ∧ (Lit.int .i64 (f i j)).wf = true
theorem IsActs.at {w : World} {a : Option Addr} {len cap : Nat} {f : Nat → Nat → Int} (h : IsActs w a len cap f) (hl : 0 < len) : ∃ b o, a = some ⟨b, o, none⟩ ∧ len ≤ maxLen ∧ b < w.heap.size ∧
    (∀ i, i < len → w.cell? ⟨b, o + i * 4, none⟩ = some (.int .i64 (f i 0)) ∧ w.cell? ⟨b, o + i * 4 + 1, none⟩ = some (.int .i64 (f i 1)) ∧ w.cell? ⟨b, o + i * 4 + 2, none⟩ = some (.int .i64 (f i 2)) ∧ w.cell? ⟨b, o + i * 4 + 3, none⟩ = some (.int .i64 (f i 3)) ∧ Fit (f i 1) ∧ Fit (f i 2)) := by
  rcases h with ⟨_, h0, _⟩ | ⟨x, rfl, h1, h2, h4⟩
  · omega
  · obtain ⟨b, o, spot⟩ := x
    have hs : spot = none := by simpa [Addr.add] using World.cell?_spot (h4 0 0 (by omega) (by omega)).1
    subst hs
    have hc : ∀ i j, i < len → j < 4 → w.cell? ⟨b, o + (i * 4 + j), none⟩ = some (.int .i64 (f i j)) := fun i j hi hj => by
      have := (h4 i j (by omega) hj).1
      rwa [Addr.add_lit] at this
    exact ⟨b, o, rfl, by omega, World.block_lt_of_cell? _ _ (hc 0 0 hl (by omega)), fun i hi => ⟨by simpa using hc i 0 hi (by omega), by simpa [Nat.add_assoc] using hc i 1 hi (by omega), by simpa [Nat.add_assoc] using hc i 2 hi (by omega), by simpa [Nat.add_assoc] using hc i 3 hi (by omega), of_wf (h4 i 1 (by omega) (by omega)).2, of_wf (h4 i 2 (by omega) (by omega)).2⟩⟩
set_option maxRecDepth 100000 in
/-- A slice of acts, opened: four numbers at each place. -/
theorem open_acts {H : Type} {enc : TypeId × Value → H} {W : World} {base fuel : Nat} {held : Bool} {cs : List Value} {x : DataW H × List MemPlace} (h : DataW.trod enc Try.prog W base (fun _ => true) held fuel 55 cs = some x) :
    cs = [.slice none 0 0] ∨ ∃ a len cap, ∃ f : Nat → Nat → Int, cs = [.slice (some a) len cap] ∧ len ≤ cap ∧ cap ≤ maxLen ∧ ∀ i j, i < cap → j < 4 → W.cell? (a.add (i * 4 + j)) = some (.int .i64 (f i j)) ∧ (Lit.int .i64 (f i j)).wf = true := by
  rcases Deep.open_slice Try.underlying55 h with h0 | ⟨a, len, cap, m, n, D, Pl, rfl, hb, hl, hm, hmm, _, hx⟩
  · exact .inl h0.1
  right
  simp only [if_true] at hmm
  subst hmm
  have ce : Try.prog.cellsOf 58 = 4 := by kernel_rfl
  have ci : Try.prog.cellsOf 3 = 1 := by kernel_rfl
  have cm : Try.prog.cellsOf 32 = 1 := by kernel_rfl
  have each : ∀ i, i < m → ∃ q : Nat → Int, ∀ j, j < 4 → W.cell? (a.add (i * 4 + j)) = some (.int .i64 (q j)) ∧ (Lit.int .i64 (q j)).wf = true := by
    intro i hi
    obtain ⟨cs', h1, h2⟩ := hx i hi
    rw [ce] at h1
    obtain ⟨_, hlen, hcell⟩ := World.cells?_some h1
    obtain ⟨xs, k, hk, hxy, _, hxl, hf⟩ := DataW.trod_struct Try.underlying58 h2
    match xs, hxl, cs', hlen with
    | [y0, y1, y2, y3], _, [v0, v1, v2, v3], _ =>
      have g0 := hf 0 _ rfl
      have g1 := hf 1 _ rfl
      have g2 := hf 2 _ rfl
      have g3 := hf 3 _ rfl
      simp [ci, cm] at g0 g1 g2 g3
      obtain ⟨n0, e0, _, u0⟩ := DataW.trod_int Try.underlying3 g0
      obtain ⟨n1, e1, _, u1⟩ := DataW.trod_int Try.underlying3 g1
      obtain ⟨n2, e2, _, u2⟩ := DataW.trod_int Try.underlying3 g2
      obtain ⟨n3, e3, _, u3⟩ := DataW.trod_int Try.underlying32 g3
      simp only [List.cons.injEq, and_true] at e0 e1 e2 e3
      subst e0 e1 e2 e3
      refine ⟨fun j => match j with | 0 => n0 | 1 => n1 | 2 => n2 | _ => n3, fun j hj => ?_⟩
      have c := hcell j (by omega)
      rw [Deep.add_add] at c
      match j, hj with
      | 0, _ => exact ⟨by simpa using c, u0⟩
      | 1, _ => exact ⟨by simpa using c, u1⟩
      | 2, _ => exact ⟨by simpa using c, u2⟩
      | 3, _ => exact ⟨by simpa using c, u3⟩
  obtain ⟨q, hq⟩ := Deep.choose_lt each
  exact ⟨a, len, m, q, rfl, hl, hm, fun i j hi hj => hq i hi j hj⟩
end Go.Proofs.Ytmciiobncfchlaa
end

/- Plain: what the developers' Check asks of a queue whose requests are as they may be. -/
section
namespace Go.Proofs.Ytmciiobncfchlaa
open Go.RowKit
set_option linter.unusedVariables false

theorem bp_no {a b : Rq} (h : ¬ bpI b a < 0) : a.md = 0 → b.md = 0 ∧ a.sn ≤ b.sn := by
  intro z
  unfold bpI at h
  have e : ¬ ((b.md != 0) && (a.md != 0)) = true := by simp [z]
  rw [if_neg e, ahead_iff] at h
  have h1 : b.md = 0 := by
    by_cases y : b.md = 0
    · exact y
    · exact absurd (.inl ⟨y, z⟩) h
  refine ⟨h1, ?_⟩
  by_cases s : b.sn < a.sn
  · exact absurd (.inr ⟨by simp [h1, z], s⟩) h
  · omega
theorem bp_ok {a b : Rq} (h : a.md = 0 → b.md = 0 ∧ a.sn < b.sn) : ¬ bpI b a < 0 := by
  unfold bpI
  by_cases e : ((b.md != 0) && (a.md != 0)) = true
  · rw [if_pos e]; decide
  · rw [if_neg e, ahead_iff]
    rintro (⟨h1, h2⟩ | ⟨h1, h2⟩)
    · exact h1 (h h2).1
    · by_cases z : a.md = 0
      · have := (h z).2; omega
      · have : b.md ≠ 0 := fun y => z (h1.1 y)
        exact e (by simp [this, z])
theorem asc_all {q : List Rq} (h : Asc bpI q 0) : ∀ (i j : Nat) (hj : j < q.length) (hij : i < j), q[i].md = 0 → q[j].md = 0 ∧ q[i].sn ≤ q[j].sn := by
  intro i j
  induction j with
  | zero => intro hj hij; omega
  | succ j ih =>
    intro hj hij z
    have hs := bp_no (h j (by omega) hj)
    by_cases e : i = j
    · subst e; exact hs z
    · have h1 := ih (by omega) (by omega) z
      have h2 := hs h1.1
      exact ⟨h2.1, by omega⟩
theorem cp_any {W : Int} {a b : Rq} (ha : Rt W a) (hb : Rt W b) (h : a.md ≠ 0 → b.md ≠ 0 → cpI a.md b.md = true) : cpI a.md b.md = true := by
  by_cases z : a.md = 0
  · rw [z]; exact cp_zero _ hb.md
  · by_cases y : b.md = 0
    · rw [y, cp_symm]; exact cp_zero _ ha.md
    · exact h z y
theorem chk_iff {W : Int} {q : List Rq} (hrt : ∀ r ∈ q, Rt W r) :
    (((q.map fun R => R.id).Nodup ∧ (q.map fun R => R.txn).Nodup ∧ ((outQ (fun R => !decide (0 < R.sn)) q).map fun R => R.sn).Nodup) ∧ Asc bpI q 0 ∧ (q.any fun R => !fitB (cntQ q) R.md R.md) = false) ↔ q.Pairwise Pr := by
  have hfit : ∀ k (hk : k < q.length), fitB (cntQ q) q[k].md q[k].md = (q.take k ++ q.drop (k + 1)).all fun a => cpI a.md q[k].md := fun k hk => fit_all q k hk _ (fun R hR => (hrt R hR).md)
  constructor
  · rintro ⟨⟨h1, h2, h3⟩, h4, h5⟩
    unfold List.Nodup at h1 h2 h3
    rw [List.pairwise_map] at h1 h2 h3
    rw [show outQ (fun R => !decide (0 < R.sn)) q = q.filter fun s => !(!decide (0 < s.sn)) from rfl, List.pairwise_filter] at h3
    rw [List.pairwise_iff_getElem] at h1 h2 h3 ⊢
    intro i j hi hj hij
    have ri := hrt _ (List.getElem_mem hi)
    have rj := hrt _ (List.getElem_mem hj)
    refine ⟨h1 i j hi hj hij, h2 i j hi hj hij, fun s e => ?_, fun z => ?_, fun _ _ => ?_⟩
    · exact h3 i j hi hj hij (by simpa using s) (by rw [← e]; simpa using s) e
    · obtain ⟨a, b⟩ := asc_all h4 i j hj hij z
      have s := ri.w' z
      have : q[i].sn ≠ q[j].sn := fun e => h3 i j hi hj hij (by simpa using s) (by rw [← e]; simpa using s) e
      exact ⟨a, by omega⟩
    · rw [List.any_eq_false] at h5
      have := h5 _ (List.getElem_mem hi)
      rw [Bool.not_eq_true, Bool.not_eq_false', hfit i hi, List.all_eq_true] at this
      have hm : q[j] ∈ q.take i ++ q.drop (i + 1) := List.mem_append_right _ (by
        rw [List.mem_iff_getElem]
        exact ⟨j - (i + 1), by rw [List.length_drop]; omega, by rw [List.getElem_drop]; congr 1; omega⟩)
      rw [cp_symm]; exact this _ hm
  · intro h
    refine ⟨⟨?_, ?_, ?_⟩, fun j _ hj => bp_ok ((List.pairwise_iff_getElem.1 h j (j + 1) (by omega) hj (by omega)).ord), ?_⟩
    · unfold List.Nodup; rw [List.pairwise_map]; exact h.imp fun p => p.id
    · unfold List.Nodup; rw [List.pairwise_map]; exact h.imp fun p => p.txn
    · unfold List.Nodup
      rw [List.pairwise_map, show outQ (fun R => !decide (0 < R.sn)) q = q.filter fun s => !(!decide (0 < s.sn)) from rfl, List.pairwise_filter]
      exact h.imp fun p sa _ => p.sn (by simpa using sa)
    · rw [List.any_eq_false]
      intro R hR
      obtain ⟨k, hk, rfl⟩ := List.getElem_of_mem hR
      rw [Bool.not_eq_true, Bool.not_eq_false', hfit k hk, List.all_eq_true]
      intro a ha
      have hp := List.pairwise_iff_getElem.1 h
      rcases List.mem_append.1 ha with m | m
      · obtain ⟨i, hi, rfl⟩ := List.getElem_of_mem m
        rw [List.length_take] at hi
        rw [List.getElem_take]
        exact cp_any (hrt _ (List.getElem_mem _)) (hrt _ (List.getElem_mem hk)) (hp i k (by omega) hk (by omega)).cp
      · obtain ⟨i, hi, rfl⟩ := List.getElem_of_mem m
        rw [List.length_drop] at hi
        rw [List.getElem_drop, cp_symm]
        exact cp_any (hrt _ (List.getElem_mem hk)) (hrt _ (List.getElem_mem _)) (hp k (k + 1 + i) hk (by omega) (by omega)).cp
end Go.Proofs.Ytmciiobncfchlaa
end

/- The developers' package queue: valid, Check. -/
section
namespace Go.Proofs.Ytmciiobncfchlaa
open Go.RowKit
set_option linter.unusedVariables false      -- a contract need not use every name

set_option maxRecDepth 100000 in
set_option maxHeartbeats 4000000 in
theorem dValid (t r W : Int) (v : Value) (q : List Rq) (w : World) (hl : q.length ≤ 1000) (hfi : ∀ R ∈ q, FitR R) (h : RqAt w v q) :
    Calls Try.prog 55 #[hdV t r v W] w fun e w' => e = .returned (.bool (okQ W q)) ∧ Nw w w' := by
  have hat := h
  obtain ⟨a, c, rfl, _⟩ := h
  have hx1 := allocAt w (.cells #[.int .i64 t, .int .i64 r, .slice a q.length c, .int .i64 W] 27)
  have hN1 : Nw w (w.alloc (.cells #[.int .i64 t, .int .i64 r, .slice a q.length c, .int .i64 W] 27)) := (Nw.refl w).alloc _
  obtain ⟨w1, hw1⟩ : ∃ w1, w.alloc (.cells #[.int .i64 t, .int .i64 r, .slice a q.length c, .int .i64 W] 27) = w1 := ⟨_, rfl⟩
  rw [hw1] at hx1 hN1
  have hb3 : w1.cell? ⟨w.heap.size, 3, none⟩ = some (.int .i64 W) := hcell (j := 3) hx1
  have HCo := Lib.hid (dContains _ _ (fun R => !rtB W R) q w1 hl (hat.nw hN1) (Tells.valid hb3))
  have HDi := Lib.hid (fun (z : World) (g : Nw w1 z) => dDiffer _ q z hl hfi (hat.nw (hN1.trans g)))
  have HSo := Lib.hid (fun (z : World) (g : Nw w1 z) => dIsSorted _ _ bpI q z hl (hat.nw (hN1.trans g)) (Comps.place z))
  have HAg := Lib.hid (fun (hkn : ∀ R ∈ q, knI R.md = true) (z : World) (g : Nw w1 z) => dAgree t r W _ q z hl hkn (hat.nw (hN1.trans g)))
  obtain ⟨O, hO⟩ : ∃ O, okQ W q = O := ⟨_, rfl⟩
  rw [hO]
  have HO := Lib.hid hO
  have HW1 := Lib.hid hw1
  have HN1 := Lib.hid hN1
  have HX := Lib.hid hx1
  unfold hdV at HAg ⊢
  have c0 := hcell (j := 0) hx1
  have c1 := hcell (j := 1) hx1
  have c2 := hcell (j := 2) hx1
  have c3 := hcell (j := 3) hx1
  have hpl := hlt hx1
  clear hx1 hN1 hw1 hb3 hO hat hfi
  by_cases h1 : W < 0
  · have hR : O = false := by
      have := HO.out; rw [← this]; unfold okQ; simp; omega
    subst hR
    have d1 : decide (W < 0) = true := by simpa using h1
    go_enter Try.func55, Try.ntmps55
    go_wp2_with fail
    rw [HW1.out]
    go_wp2
    go_ret
    exact ⟨rfl, HN1.out⟩
  by_cases h2 : 4611686018427387904 < W
  · have hR : O = false := by
      have := HO.out; rw [← this]; unfold okQ; simp; omega
    subst hR
    have d1 : decide (W < 0) = false := by simpa using h1
    go_enter Try.func55, Try.ntmps55
    go_wp2_with fail
    rw [HW1.out]
    go_wp2
    go_ret
    exact ⟨rfl, HN1.out⟩
  have HWb := Lib.hid (show 0 ≤ W ∧ W ≤ 4611686018427387904 by omega)
  obtain ⟨A, hA⟩ : ∃ A, (q.any fun R => !rtB W R) = A := ⟨_, rfl⟩
  rw [hA] at HCo
  have HA := Lib.hid hA
  clear hA
  go_enter Try.func55, Try.ntmps55
  go_wp2_with fail
  rw [HW1.out]
  go_wp2_with fail
  go_at_call 74
  refine HCo.out.mono ?_
  rintro e w2 ⟨rfl, g2⟩
  have G2 := Lib.hid g2
  have hx2 := g2.at' HX.out
  clear c0 c1 c2 c3 hpl g2 HCo
  cases A
  rotate_left
  · have hR : O = false := by
      have h3 := HA.out
      rw [List.any_eq_true] at h3
      obtain ⟨R, hR, e⟩ := h3
      rw [← HO.out]
      cases e2 : okQ W q with
      | false => rfl
      | true =>
        have := (rtB_iff W R).2 (((okQ_iff W q).1 e2).rt R hR)
        rw [this] at e; cases e
    subst hR
    clear hx2
    go_wp2
    go_ret
    exact ⟨rfl, HN1.out.trans G2.out⟩
  have hrt : ∀ R ∈ q, Rt W R := fun R hR => by
    have h3 := HA.out
    rw [List.any_eq_false] at h3
    have := h3 R hR
    rw [← rtB_iff]
    simpa using this
  have HRt := Lib.hid hrt
  have HCk := Lib.hid (chk_iff hrt)
  have HOi : Hid (O = true ↔ q.Pairwise Pr) := Lib.hid (by
    rw [← HO.out, okQ_iff]
    exact ⟨fun h => h.pr, fun h => ⟨HWb.out.1, HWb.out.2, HRt.out, h⟩⟩)
  have HD2 := Lib.hid (HDi.out w2 G2.out)
  have c0 := hcell (j := 0) hx2
  have c1 := hcell (j := 1) hx2
  have c2 := hcell (j := 2) hx2
  have c3 := hcell (j := 3) hx2
  have hpl := hlt hx2
  clear hrt hx2 HDi
  go_wp2_with fail
  go_at_call 85
  refine HD2.out.mono ?_
  rintro e w3 ⟨b1, rfl, g3, i1⟩
  have G3 := Lib.hid (G2.out.trans g3)
  have I1 := Lib.hid i1
  have hx3 := G3.out.at' HX.out
  have HS3 := Lib.hid (HSo.out w3 G3.out)
  clear c0 c1 c2 c3 hpl g3 i1 HD2 HSo
  cases b1
  · have hR : O = false := by
      cases e : O with
      | false => rfl
      | true => have := I1.out.2 (HCk.out.2 (HOi.out.1 e)).1; cases this
    subst hR
    clear hx3
    go_wp2
    go_ret
    exact ⟨rfl, HN1.out.trans G3.out⟩
  have c0 := hcell (j := 0) hx3
  have c1 := hcell (j := 1) hx3
  have c2 := hcell (j := 2) hx3
  have c3 := hcell (j := 3) hx3
  have hpl := hlt hx3
  clear hx3
  go_wp2_with fail
  go_at_call 86
  refine HS3.out.mono ?_
  rintro e w4 ⟨b2, rfl, g4, i2⟩
  have G4 := Lib.hid (G3.out.trans g4)
  have I2 := Lib.hid i2
  have hx4 := G4.out.at' HX.out
  have HA4 := Lib.hid (HAg.out (fun R hR => (HRt.out R hR).md) w4 G4.out)
  clear c0 c1 c2 c3 hpl g4 i2 HS3 HAg
  cases b2
  · have hR : O = false := by
      cases e : O with
      | false => rfl
      | true => have := I2.out.2 (HCk.out.2 (HOi.out.1 e)).2.1; cases this
    subst hR
    clear hx4
    go_wp2
    go_ret
    exact ⟨rfl, HN1.out.trans G4.out⟩
  have c0 := hcell (j := 0) hx4
  have c1 := hcell (j := 1) hx4
  have c2 := hcell (j := 2) hx4
  have c3 := hcell (j := 3) hx4
  have hpl := hlt hx4
  obtain ⟨B, hB⟩ : ∃ B, (q.any fun R => !fitB (cntQ q) R.md R.md) = B := ⟨_, rfl⟩
  rw [hB] at HA4
  have hR : O = !B := by
    have h5 := HCk.out
    rw [hB] at h5
    cases B
    · exact HOi.out.2 (h5.1 ⟨I1.out.1 (by trivial), I2.out.1 (by trivial), rfl⟩)
    · cases e : O with
      | false => rfl
      | true => have := (h5.2 (HOi.out.1 e)).2.2; cases this
  subst hR
  clear hx4 hB
  go_wp2_with fail
  go_at_call 88
  refine HA4.out.mono ?_
  rintro e w5 ⟨rfl, g5⟩
  go_wp2
  go_ret
  exact ⟨by simp, HN1.out.trans (G4.out.trans g5)⟩
theorem dCheck (t r W : Int) (v : Value) (q : List Rq) (w : World) (hl : q.length ≤ 1000) (hfi : ∀ R ∈ q, FitR R) (h : RqAt w v q) :
    Calls Try.prog 22 #[hdV t r v W] w fun e w' => e = .returned (.int .i64 (if okQ W q = true then 0 else 2)) ∧ Nw w w' := by
  have HV := Lib.hid (fun (z : World) (g : Nw w z) => dValid t r W v q z hl hfi (h.nw g))
  obtain ⟨a, c, rfl, _⟩ := h
  unfold hdV at *
  generalize okQ W q = O at *
  have hN : Nw w (w.alloc (.cells #[.int .i64 t, .int .i64 r, .slice a q.length c, .int .i64 W] 27)) := (Nw.refl w).alloc _
  cases O
  · go_enter Try.func22, Try.ntmps22
    go_wp2_with (go_at_call 55; refine (HV.out _ hN).mono ?_; rintro e w2 ⟨rfl, g2⟩)
    go_ret
    exact ⟨rfl, hN.trans g2⟩
  · go_enter Try.func22, Try.ntmps22
    go_wp2_with (go_at_call 55; refine (HV.out _ hN).mono ?_; rintro e w2 ⟨rfl, g2⟩)
    go_ret
    exact ⟨rfl, hN.trans g2⟩
end Go.Proofs.Ytmciiobncfchlaa
end

/- QueueHolds: the walk. -/
section
namespace Go.Proofs.Ytmciiobncfchlaa
open Go.RowKit
set_option linter.unusedVariables false

def OffB (B : Nat) (v : Value) : Prop := ∀ b o n c, v = .slice (some ⟨b, o, none⟩) n c → b ≠ B ∨ n = 0
theorem fresh_off {w w' : World} {v : Value} {q : List Rq} {B : Nat} (h : Fresh w v q) (hr : RqAt w' v q) (hB : B < w.heap.size) : OffB B v := fun b o n c e => by
  rcases h b o n c e with h | h
  · exact .inl (by omega)
  · obtain ⟨a, c', e', _⟩ := hr
    rw [e] at e'
    simp only [Value.slice.injEq] at e'
    exact .inr (by rw [e'.2.1, h]; rfl)
theorem rd_offB {w : World} {v : Value} {q : List Rq} {B : Nat} (h : RqAt w v q) (ho : OffB B v) (u0 u1 u2 u3 : Value) : RqAt (filld w B u0 u1 u2 u3) v q := by
  refine rd_off h (fun b o n c e => ?_) u0 u1 u2 u3
  rcases ho b o n c e with h1 | h1
  · exact .inl h1
  · obtain ⟨a, c', e', _⟩ := h
    rw [e] at e'
    simp only [Value.slice.injEq] at e'
    exact .inr (List.eq_nil_of_length_eq_zero (by omega))
/-- What a call leaves: the rows in the world where the box is filled. -/
theorem do_at {w w1 : World} {B : Nat} {v v' : Value} {q' : List Rq} (hB : B < w.heap.size) (hr : RqAt w1 v' q') (hf : Fresh w v' q' ∨ v' = v) (ho : OffB B v) (u0 u1 u2 u3 : Value) : RqAt (filld w1 B u0 u1 u2 u3) v' q' ∧ OffB B v' := by
  rcases hf with hf | rfl
  · exact ⟨rd_fill' hr hf hB _ _ _ _, fresh_off hf hr hB⟩
  · exact ⟨rd_offB hr ho _ _ _ _, ho⟩
/-- The head between two calls. -/
structure HSt (w wr : World) (B : Nat) (k : Nat) (h : Hq) (v : Value) : Prop where
  box : HB wr B h.t h.r v h.W
  at' : RqAt wr v h.q
  off : OffB B v
  act : HAct k h
  nw : Nw w wr
theorem HSt.later {w wr w2 : World} {B k : Nat} {h : Hq} {v : Value} (a : HSt w wr B k h v) (g : Nw wr w2) : HSt w w2 B k h v := ⟨a.box.nw g, a.at'.nw g, a.off, a.act, a.nw.trans g⟩
set_option maxRecDepth 100000 in
set_option maxHeartbeats 16000000 in
theorem law_any (a : Option Addr) (len cap : Nat) (f : Nat → Nat → Int) (w : World) (hA : IsActs w a len cap f) :
    Calls Try.prog 5 #[.slice a len cap] w fun e w' => e = .returned (.bool true) ∧ Nw w w' := by
  have HLv := Lib.hid lives_ok
  have HEm := Lib.hid lEmpty
  unfold hdV at HEm
  have HAc := Lib.hid hA
  clear hA
  by_cases hl : 40 < len
  · have d1 : decide ((40 : Int) < (len : Int)) = true := by rw [decide_eq_true_iff]; omega
    have d1' : decide (40 < len) = true := by rw [decide_eq_true_iff]; omega
    clear hl
    go_enter Try.func5, Try.ntmps5
    go_wp2_with fail
    go_at_call 7
    refine (HLv.out _).mono ?_
    rintro e w0 ⟨rfl, g0⟩
    go_wp2
    go_ret
    exact ⟨rfl, g0⟩
  have d1 : decide ((40 : Int) < (len : Int)) = false := by rw [decide_eq_false_iff_not]; omega
  have d1' : decide (40 < len) = false := by rw [decide_eq_false_iff_not]; omega
  have hl40 : len ≤ 40 := by omega
  clear hl
  go_enter Try.func5, Try.ntmps5
  go_wp2_with fail
  go_at_call 7
  refine (HLv.out _).mono ?_
  rintro e w0 ⟨rfl, g0⟩
  go_wp2_with fail
  go_at_call 9
  refine (HEm.out _).mono ?_
  rintro e w1 ⟨rfl, g1⟩
  have hb := HB.made w1 0 (-1) (.slice none 0 0) 0
  have hN : Nw w (w1.alloc (.cells #[.int .i64 0, .int .i64 (-1), .slice none 0 0, .int .i64 0] 27)) := (g0.trans g1).alloc _
  obtain ⟨B, hB⟩ : ∃ B, w1.heap.size = B := ⟨_, rfl⟩
  have hBw : w.heap.size ≤ B := by rw [← hB]; exact (g0.trans g1).sz
  rw [hB] at hb
  obtain ⟨u1, hu1⟩ : ∃ u, w1.alloc (.cells #[.int .i64 0, .int .i64 (-1), .slice none 0 0, .int .i64 0] 27) = u := ⟨_, rfl⟩
  rw [hu1] at hb hN
  have HU := Lib.hid (And.intro hu1 hB)
  have HS0 := Lib.hid (show HSt w u1 B 0 ⟨0, -1, 0, []⟩ (.slice none 0 0) from ⟨hb, Rd.nil _, fun b o n c e => by simp at e, HAct.nil, hN⟩)
  have HBw := Lib.hid hBw
  clear hB hu1 hb hN hBw g0 g1 HLv HEm
  go_wp2_with fail
  rw [HU.out.1, HU.out.2]
  clear HU
  go_loopw [4] (fun i wr => ∃ (k : Nat) (h : Hq) (v : Value), i = .int .i64 k ∧ k ≤ len ∧ HSt w wr B k h v) (fun i _ => len - (intOf i).toNat)
  case atStart => exact ⟨0, _, _, rfl, Nat.zero_le _, HS0.out⟩
  case round =>
    obtain ⟨k, h, v, rfl, hk, hS⟩ := hrel
    clear HS0
    by_cases hklt : k < len
    rotate_left
    · have hN := Lib.hid hS.nw
      clear hS
      have dlt : decide ((k : Int) < (len : Int)) = false := by rw [decide_eq_false_iff_not]; omega
      go_wp2
      go_ret
      exact ⟨rfl, hN.out⟩
    have dlt : decide ((k : Int) < (len : Int)) = true := by rw [decide_eq_true_iff]; omega
    obtain ⟨ab, ao, rfl, hmx, hab, hce⟩ := HAc.out.at (Nat.lt_of_le_of_lt (Nat.zero_le k) hklt)
    obtain ⟨e0, e1, e2, e3, fi1, fi2⟩ := hce k hklt
    replace e0 := hS.nw.kp e0
    replace e1 := hS.nw.kp e1
    replace e2 := hS.nw.kp e2
    replace e3 := hS.nw.kp e3
    have hDo := lDo h k hS.act (by omega) (f k 0) (f k 1) (f k 2) (f k 3) v wr.drew (hS.at'.nw (Nw.refl _).dr)
    have hAct := hS.act.step (by omega) (f k 0 % 4) (f k 1) (f k 2) (f k 3) fi1 fi2
    obtain ⟨h', hh'⟩ : ∃ h', doQ h (f k 0 % 4) (f k 1) (f k 2) (f k 3) = h' := ⟨_, rfl⟩
    rw [hh'] at hDo hAct
    have ht' := hAct.t
    have hr' := hAct.r
    rw [hS.act.t, hS.act.r, ht', hr'] at hDo
    unfold hdV at hDo
    have hbx : Go.Proofs.Ytmciiobncfchlaa.HB wr B 0 (-1) v h.W := by have := hS.box; rwa [hS.act.t, hS.act.r] at this
    have HDo := Lib.hid hDo
    have HAct' := Lib.hid hAct
    have c0 := hcell (j := 0) hbx
    have c1 := hcell (j := 1) hbx
    have c2 := hcell (j := 2) hbx
    have c3 := hcell (j := 3) hbx
    have cl := hlt hbx
    have HSk := Lib.hid (And.intro hS hbx)
    have hki : (k : Int) < (len : Int) := by omega
    generalize f k 0 = f0 at *
    generalize f k 1 = f1 at *
    generalize f k 2 = f2 at *
    generalize f k 3 = f3 at *
    obtain ⟨W0, hW0⟩ : ∃ x, h.W = x := ⟨_, rfl⟩
    obtain ⟨W1, hW1⟩ : ∃ x, h'.W = x := ⟨_, rfl⟩
    rw [hW0] at c3 HDo
    rw [hW1] at HDo
    have HW1 := Lib.hid hW1
    clear hDo hAct ht' hr' hbx hS hce hh' fi1 fi2 hW0 hW1
    go_wp2
    refine wp_region_still_tail 5 (by kernel_rfl) (by kernel_rfl) ?_
    simp only [List.take_succ_cons, List.take_zero, List.drop_succ_cons, List.drop_zero]
    repeat still_step
    try refine wpStill_nil ?_
    change wpList _ _ _ _ _ wr.drew
    go_wp2_with fail
    go_at_call 30
    refine HDo.out.mono ?_
    rintro e w2 ⟨v', rfl, g2, hR, hf⟩
    obtain ⟨a', k', hv⟩ := hR.form
    obtain ⟨n', hn'⟩ : ∃ n, h'.q.length = n := ⟨_, rfl⟩
    rw [hn'] at hv
    subst hv
    clear c0 c1 c2 c3 cl e0 e1 e2 e3 HDo
    have hb2 := HSk.out.2.nw ((Nw.refl wr).dr.trans g2)
    have d0 := hcell (j := 0) hb2
    have d1 := hcell (j := 1) hb2
    have d2 := hcell (j := 2) hb2
    have d3 := hcell (j := 3) hb2
    have dl := hlt hb2
    have dz := fun k => hfz (j := k) hb2
    have hat := do_at (hlt (HSk.out.2.nw (Nw.refl wr).dr)) hR hf HSk.out.1.off (.int .i64 0) (.int .i64 (-1)) (.slice a' n' k') (.int .i64 W1)
    have hN3 : Nw w (filld w2 B (.int .i64 0) (.int .i64 (-1)) (.slice a' n' k') (.int .i64 W1)) := fill_nw (HSk.out.1.nw.trans ((Nw.refl wr).dr.trans g2)) HBw.out _ _ _ _
    have hb3 := hb2.fill 0 (-1) W1 (.slice a' n' k')
    obtain ⟨u3, hu3⟩ : ∃ x, filld w2 B (.int .i64 0) (.int .i64 (-1)) (.slice a' n' k') (.int .i64 W1) = x := ⟨_, rfl⟩
    change Go.Proofs.Ytmciiobncfchlaa.HB (filld w2 B (.int .i64 0) (.int .i64 (-1)) (.slice a' n' k') (.int .i64 W1)) B 0 (-1) (.slice a' n' k') W1 at hb3
    rw [hu3] at hat hN3 hb3
    have HS3 := Lib.hid (show HSt w u3 B (k + 1) h' (.slice a' n' k') from ⟨by rw [HAct'.out.t, HAct'.out.r, HW1.out]; exact hb3, hat.1, hat.2, HAct'.out, hN3⟩)
    have HE := Lib.hid hu3
    have Hb3 := Lib.hid hb3
    have HL := Lib.hid hn'
    clear hb2 hat hN3 hb3 hu3 hR hf g2 HSk hn'
    go_wp2_with fail
    have hE := HE.out
    unfold filld at hE
    rw [hE]
    clear hE d0 d1 d2 d3 dz dl HE
    have hok : okQ W1 h'.q = true := by rw [← HW1.out]; exact (okQ_iff _ _).2 HAct'.out.inv.ok
    have hfi := fitR_of HAct'.out.inv.ok HAct'.out.num
    have hlen : h'.q.length ≤ 40 := by have := HAct'.out.len; omega
    have HCk := Lib.hid (fun (y : World) (hy : Nw u3 y) => dCheck 0 (-1) W1 (.slice a' n' k') h'.q y (by omega) hfi (HS3.out.at'.nw hy))
    rw [if_pos hok] at HCk
    unfold hdV at HCk
    have HT := Lib.hid (kT 0)
    have HLn := Lib.hid hlen
    clear hok hfi hlen
    have s0 : ∀ y, Nw u3 y → y.cell? ⟨B, 0, none⟩ = some (.int .i64 0) := fun y hy => hy.kp (hcell (j := 0) Hb3.out)
    have s1 : ∀ y, Nw u3 y → y.cell? ⟨B, 1, none⟩ = some (.int .i64 (-1)) := fun y hy => hy.kp (hcell (j := 1) Hb3.out)
    have s2 : ∀ y, Nw u3 y → y.cell? ⟨B, 2, none⟩ = some (.slice a' n' k') := fun y hy => hy.kp (hcell (j := 2) Hb3.out)
    have s3 : ∀ y, Nw u3 y → y.cell? ⟨B, 3, none⟩ = some (.int .i64 W1) := fun y hy => hy.kp (hcell (j := 3) Hb3.out)
    have q1 := (Nw.refl u3).drew1
    obtain ⟨wc, hwc⟩ : ∃ wc, u3.drew = wc := ⟨_, rfl⟩
    refine region_told [some true, some false, none, some true, some true, some true, some true, some false, none, some true, some true] (Nw u3) (by kernel_rfl) (by kernel_rfl) (by kernel_rfl) q1 ?_
    rw [hwc] at q1 ⊢
    clear hwc
    repeat (first
      | (refine HW.off ?_)
      | (refine HW.take' ?_; (first | (refine ⟨undef, Or.inr ⟨by rfl, rfl⟩, ?_⟩) | (apply Exists.intro; refine ⟨Or.inl ⟨by rfl, ?_⟩, ?_⟩; (intro x hx; go_simp; first | done | with_reducible rfl))); (try simp only [Act.put, List.setIfInBounds_toArray, List.set_cons_zero, List.set_cons_succ]))
      | (refine HW.go (fun K hK => ?_); go_simp; (first
        | (go_at_call 22; (with_reducible refine (HCk.out _ q1).mono ?_); rintro e wy ⟨rfl, g2⟩; refine hK.out _ _ (q1.trans g2) ?_; intro _; replace q1 := q1.trans g2; clear hK K g2)
        | (go_at_call 31; (with_reducible refine (HT.out _).mono ?_); rintro e wy ⟨rfl, g2⟩; refine hK.out _ _ (q1.trans g2) ?_; intro _; replace q1 := q1.trans g2; clear hK K g2)
        | (refine hK.out _ _ q1 ?_; intro _; clear hK K))))
    refine HW.end_ ?_
    refine NoPanic.normal ?_
    have Q1 := Lib.hid q1
    clear q1 s0 s1 s2 s3 HCk HT
    have hst : StOk (tC h'.q) (wpl h'.q h'.q.length) := stOk_ms HAct'.out.inv.ok (by have := HAct'.out.ms; omega)
    have HSc := Lib.hid (dScan 0 (-1) W1 (.slice a' n' k') h'.q wy (by have := HLn.out; omega) (by rw [← HW1.out]; exact HAct'.out.inv.ok) (HS3.out.at'.nw Q1.out) hst)
    rw [scan_done HAct'.out.inv.done] at HSc
    unfold hdV at HSc
    have hb4 := Hb3.out.nw Q1.out
    have c0 := hcell (j := 0) hb4
    have c1 := hcell (j := 1) hb4
    have c2 := hcell (j := 2) hb4
    have c3 := hcell (j := 3) hb4
    have cl := hlt hb4
    clear hst hb4
    go_wp2_with fail
    go_at_call 12
    refine HSc.out.mono ?_
    rintro e w5 ⟨v5, vi, rfl, g5, hR5, _, hI5, _, _⟩
    clear c0 c1 c2 c3 cl HSc
    obtain ⟨a5, k5, hv⟩ := hR5.form
    try simp only at hv
    rw [HL.out] at hv
    subst hv
    obtain ⟨ai, ci, hvi, _⟩ := hI5.box
    subst hvi
    simp only [List.length_nil]
    have hb6 := HB.made w5 0 (-1) (.slice a5 n' k5) W1
    obtain ⟨B2, hB2⟩ : ∃ B, w5.heap.size = B := ⟨_, rfl⟩
    rw [hB2] at hb6
    obtain ⟨u6, hu6⟩ : ∃ x, w5.alloc (.cells #[.int .i64 0, .int .i64 (-1), .slice a5 n' k5, .int .i64 W1] 27) = x := ⟨_, rfl⟩
    have g6 : Nw w5 u6 := by rw [← hu6]; exact (Nw.refl _).alloc _
    rw [hu6] at hb6
    have HS6 := Lib.hid (HS3.out.later ((Q1.out.trans g5).trans g6))
    have Hb6 := Lib.hid (And.intro (Hb3.out.nw ((Q1.out.trans g5).trans g6)) hb6)
    have hR6 := hR5.nw g6
    have HSm := Lib.hid (fun (y : World) (hy : Nw u6 y) => dSame 0 (-1) W1 0 (-1) W1 (.slice a5 n' k5) (.slice a' n' k') h'.q h'.q y (by have := HLn.out; omega) (hR6.nw hy) (HS6.out.at'.nw hy))
    unfold hdV at HSm
    have HE := Lib.hid (And.intro hu6 hB2)
    have h5 := (Hb3.out.nw Q1.out).nw g5
    have c0 := hcell (j := 0) h5
    have c1 := hcell (j := 1) h5
    have c2 := hcell (j := 2) h5
    have c3 := hcell (j := 3) h5
    have cl := hlt h5
    have e0 := hcell (j := 0) Hb6.out.1
    have e1 := hcell (j := 1) Hb6.out.1
    have e2 := hcell (j := 2) Hb6.out.1
    have e3 := hcell (j := 3) Hb6.out.1
    have el := hlt Hb6.out.1
    have f0' := hcell (j := 0) hb6
    have f1' := hcell (j := 1) hb6
    have f2' := hcell (j := 2) hb6
    have f3' := hcell (j := 3) hb6
    have fl' := hlt hb6
    clear hB2 hu6 hb6 g6 hR6 h5 hR5 hI5 g5
    go_wp2_with fail
    rw [HE.out.1]
    try rw [HE.out.2]
    clear c0 c1 c2 c3 cl
    try go_wp2_with fail
    go_at_call 23
    refine (HSm.out _ (Nw.refl _)).mono ?_
    rintro e w7 ⟨fl, rfl, g7, hfl⟩
    obtain rfl : fl = true := by simpa using hfl
    have HS7 := Lib.hid (HS6.out.later g7)
    have Hb7 := Lib.hid (Hb6.out.1.nw g7)
    clear e0 e1 e2 e3 el f0' f1' f2' f3' fl' HSm HS6 Hb6 HE g7 hfl
    go_wp2
    have hn40 : n' ≤ 40 := by rw [← HL.out]; exact HLn.out
    go_loopw [7] (fun i wr => ∃ j : Nat, i = .int .i64 j ∧ j ≤ n' ∧ Nw w7 wr) (fun i _ => n' - (intOf i).toNat)
    case atStart => exact ⟨0, rfl, Nat.zero_le _, Nw.refl _⟩
    case round =>
      obtain ⟨j, rfl, hj, hG⟩ := hrel
      have hb8 := Hb7.out.nw hG
      have c0 := hcell (j := 0) hb8
      have c1 := hcell (j := 1) hb8
      have c2 := hcell (j := 2) hb8
      have c3 := hcell (j := 3) hb8
      have cl := hlt hb8
      by_cases hjn : j < n'
      rotate_left
      · have dj : decide ((j : Int) < (n' : Int)) = false := by rw [decide_eq_false_iff_not]; omega
        have HG := Lib.hid hG
        clear hG hb8
        go_wp2
        go_roundw
        case rel => exact ⟨k + 1, h', _, by go_num, by omega, HS7.out.later HG.out⟩
        case measure => simp [intOf]; omega
      have dj : decide ((j : Int) < (n' : Int)) = true := by rw [decide_eq_true_iff]; omega
      have hjq : j < h'.q.length := by rw [HL.out]; exact hjn
      have hat := HS7.out.at'.nw hG
      obtain ⟨ax, cx, ex, hx⟩ := hat
      simp only [Value.slice.injEq] at ex
      obtain ⟨rfl, -, rfl⟩ := ex
      obtain ⟨hq0, _⟩ | ⟨rb, ro, rfl, hrc⟩ := hx
      · rw [hq0] at hjq; simp at hjq
      have hce := hrc.cell j hjq
      have hmem : h'.q[j] ∈ h'.q := List.getElem_mem hjq
      have okh := HAct'.out.inv.ok
      have hbl := inv_blk HAct'.out.inv hmem
      have hgc := grp_cov okh hmem
      have hmd := mdQ_some okh hmem
      have hcp : ∀ m (hm : m < j), cpI (h'.q[m]'(by omega)).md h'.q[j].md = true := fun m hm => inv_cp okh m j hm hjq
      obtain ⟨R, hR⟩ : ∃ R, h'.q[j] = R := ⟨_, rfl⟩
      rw [hR] at hce hbl hgc hmd
      have HCp := Lib.hid (show ∀ m (hq : m < h'.q.length), m < j → cpI h'.q[m].md R.md = true from fun m _ hm => by rw [← hR]; exact hcp m hm)
      have m0 := hce 0 _ rfl
      have m1 := hce 1 _ rfl
      have m2 := hce 2 _ rfl
      have m3 := hce 3 _ rfl
      have m4 := hce 4 _ rfl
      simp only [Nat.add_zero] at m0
      obtain ⟨r0, r1, r2, r3, r4⟩ := R
      have hrl := hrc.lt
      have hji : (j : Int) < (n' : Int) := by omega
      obtain ⟨u9, hu9⟩ : ∃ x, wr.alloc (.cells #[.int .i64 r0, .int .i64 r1, .int .i64 r2, .int .i64 r3, .int .i64 r4] 41) = x := ⟨_, rfl⟩
      have hb9 := allocAt wr (.cells #[.int .i64 r0, .int .i64 r1, .int .i64 r2, .int .i64 r3, .int .i64 r4] 41)
      have g9 : Nw wr u9 := by rw [← hu9]; exact (Nw.refl _).alloc _
      rw [hu9] at hb9
      obtain ⟨B8, hB8⟩ : ∃ B, wr.heap.size = B := ⟨_, rfl⟩
      rw [hB8] at hb9
      have HE := Lib.hid (And.intro hu9 hB8)
      have HN9 := Lib.hid (hG.trans g9)
      have okW : Ok W1 h'.q := by rw [← HW1.out]; exact okh
      have HBl := Lib.hid (fun (y : World) (hy : Nw u9 y) => dBlockers 0 (-1) W1 r0 (.slice (some ⟨rb, ro, none⟩) n' k') h'.q y (by have := HLn.out; omega) okW (HS7.out.at'.nw (HN9.out.trans hy)))
      have HGr := Lib.hid (fun (y : World) (hy : Nw u9 y) => dGroup 0 (-1) W1 (.slice (some ⟨rb, ro, none⟩) n' k') h'.q y (by have := HLn.out; omega) (fun R hR => (okW.rt R hR).md) (HS7.out.at'.nw (HN9.out.trans hy)))
      have HCv := Lib.hid (r1cov (grpQ h'.q) r2)
      rw [show cvI (grpQ h'.q) r2 = true from hgc] at HCv
      have HMo := Lib.hid (fun (y : World) (hy : Nw u9 y) => dMode 0 (-1) W1 r1 (.slice (some ⟨rb, ro, none⟩) n' k') h'.q y (by have := HLn.out; omega) (HS7.out.at'.nw (HN9.out.trans hy)))
      rw [show mdQ h'.q r1 = r2 from hmd] at HMo
      unfold hdV at HBl HGr HMo
      obtain ⟨nb, hnb⟩ : ∃ nb, (blkR h'.q r0).length = nb := ⟨_, rfl⟩
      have hbl2 : decide (0 < nb) = decide (0 < r4) := by rw [← hnb]; exact hbl
      generalize grpQ h'.q = gq at *
      have HBl2 := Lib.hid (show ∀ y, Nw u9 y → Calls Try.prog 20 #[.agg #[.int .i64 0, .int .i64 (-1), .slice (some ⟨rb, ro, none⟩) n' k', .int .i64 W1], .int .i64 r0] y fun e w' => ∃ ab cb, e = .returned (.slice ab nb cb) ∧ Nw y w' from fun y hy => (HBl.out y hy).mono fun e w' hh => by
        obtain ⟨v', rfl, g, hI⟩ := hh
        obtain ⟨ab, cb, rfl, _⟩ := hI.box
        exact ⟨ab, cb, by rw [hnb], g⟩)
      have s0 : ∀ y, Nw u9 y → y.cell? ⟨B, 0, none⟩ = some (.int .i64 0) := fun y hy => hy.kp (hcell (j := 0) (hb8.nw g9))
      have s1 : ∀ y, Nw u9 y → y.cell? ⟨B, 1, none⟩ = some (.int .i64 (-1)) := fun y hy => hy.kp (hcell (j := 1) (hb8.nw g9))
      have s2 : ∀ y, Nw u9 y → y.cell? ⟨B, 2, none⟩ = some (.slice (some ⟨rb, ro, none⟩) n' k') := fun y hy => hy.kp (hcell (j := 2) (hb8.nw g9))
      have s3 : ∀ y, Nw u9 y → y.cell? ⟨B, 3, none⟩ = some (.int .i64 W1) := fun y hy => hy.kp (hcell (j := 3) (hb8.nw g9))
      have p0 : ∀ y, Nw u9 y → y.cell? ⟨B8, 0, none⟩ = some (.int .i64 r0) := fun y hy => hy.kp (hcell (j := 0) hb9)
      have p1 : ∀ y, Nw u9 y → y.cell? ⟨B8, 1, none⟩ = some (.int .i64 r1) := fun y hy => hy.kp (hcell (j := 1) hb9)
      have p2 : ∀ y, Nw u9 y → y.cell? ⟨B8, 2, none⟩ = some (.int .i64 r2) := fun y hy => hy.kp (hcell (j := 2) hb9)
      have p4 : ∀ y, Nw u9 y → y.cell? ⟨B8, 4, none⟩ = some (.int .i64 r4) := fun y hy => hy.kp (hcell (j := 4) hb9)
      have Hx := Lib.hid (And.intro (hb8.nw g9) hb9)
      have Hrc := Lib.hid (hrc.nw g9)
      clear hrc hce hmem okh hbl hgc hmd hcp hR hb9 hu9 hB8 g9 okW hnb hG hb8 hjq HBl
      go_wp2_with fail
      rw [HE.out.1, HE.out.2]
      clear c0 c1 c2 c3 cl m0 m1 m2 m3 m4 hrl
      obtain ⟨bb, hbb⟩ : ∃ bb, decide (0 < r4) = bb := ⟨_, rfl⟩
      rw [hbb] at hbl2
      have g1 : decide ((0 : Int) < (nb : Int)) = bb := by rw [← hbl2]; simp
      have HS := Lib.hid (show ∀ y, Nw u9 y → Nw w7 y from fun y hy => HN9.out.trans hy)
      have qq : Nw u9 u9 := Nw.refl u9
      go_region_held3 (fun y => Nw u9 y) (first | assumption | exact Nw.drew1 (by assumption) | exact Nw.trans (by assumption) (by assumption)) (first | (go_at_call 20; (with_reducible refine (HBl2.out _ (by assumption)).mono ?_); rintro e wy ⟨abx, cbx, rfl, hg⟩) | (go_at_call 21; (with_reducible refine (HGr.out _ (by assumption)).mono ?_); rintro e wy ⟨rfl, hg⟩) | (go_at_call 32; (with_reducible refine (HCv.out _).mono ?_); rintro e wy ⟨rfl, hg⟩) | (go_at_call 18; (with_reducible refine (HMo.out _ (by assumption)).mono ?_); rintro e wy ⟨rfl, hg⟩))
      rename_i q9
      have HG9 := Lib.hid q9
      clear s0 s1 s3 p0 p1 p4 qq HBl2 HGr HCv HMo
      go_wp2
      go_loopw [9] (fun i wr => ∃ m : Nat, i = .int .i64 m ∧ m ≤ j ∧ Nw u9 wr) (fun i _ => j - (intOf i).toNat)
      case atStart => exact ⟨0, rfl, Nat.zero_le _, HG9.out⟩
      case round =>
        obtain ⟨m, rfl, hm, hG⟩ := hrel
        clear HG9
        by_cases hmj : m < j
        rotate_left
        · have dm : decide ((m : Int) < (j : Int)) = false := by rw [decide_eq_false_iff_not]; omega
          have HG := Lib.hid hG
          clear hG s2 p2
          go_wp2
          go_roundw
          case rel => exact ⟨j + 1, by go_num, by omega, HN9.out.trans HG.out⟩
          case measure => simp [intOf]; omega
        have dm : decide ((m : Int) < (j : Int)) = true := by rw [decide_eq_true_iff]; omega
        have hmq : m < h'.q.length := by rw [HL.out]; omega
        have hce := Hrc.out.cell m hmq
        have hcp := HCp.out m hmq hmj
        obtain ⟨R, hR⟩ : ∃ R, h'.q[m] = R := ⟨_, rfl⟩
        rw [hR] at hce hcp
        obtain ⟨x0, x1, x2, x3, x4⟩ := R
        have t2 : ∀ y, Nw u9 y → y.cell? ⟨rb, ro + m * 5 + 2, none⟩ = some (.int .i64 x2) := fun y hy => hy.kp (hce 2 _ rfl)
        have HCm := Lib.hid (r1comp x2 r2)
        rw [show cpI x2 r2 = true from hcp] at HCm
        have hmi : (m : Int) < (n' : Int) := by omega
        have S2 : ∀ y, Nw wr y → y.cell? ⟨B, 2, none⟩ = some (.slice (some ⟨rb, ro, none⟩) n' k') := fun y hy => s2 y (hG.trans hy)
        have P2 : ∀ y, Nw wr y → y.cell? ⟨B8, 2, none⟩ = some (.int .i64 r2) := fun y hy => p2 y (hG.trans hy)
        have T2 : ∀ y, Nw wr y → y.cell? ⟨rb, ro + m * 5 + 2, none⟩ = some (.int .i64 x2) := fun y hy => t2 y (hG.trans hy)
        have q1 := (Nw.refl wr).drew1
        obtain ⟨wc, hwc⟩ : ∃ wc, wr.drew = wc := ⟨_, rfl⟩
        have HG := Lib.hid hG
        clear hce hcp hR hmq t2 s2 p2 hG
        go_wp2
        refine region_told [some true, some true, some true, some true, some true, some true, some true, some true, some false, none, some true] (Nw wr) (by kernel_rfl) (by kernel_rfl) (by kernel_rfl) q1 ?_
        rw [hwc] at q1 ⊢
        clear hwc
        repeat (first
          | (refine HW.off ?_)
          | (refine HW.take' ?_; (first | (refine ⟨undef, Or.inr ⟨by rfl, rfl⟩, ?_⟩) | (apply Exists.intro; refine ⟨Or.inl ⟨by rfl, ?_⟩, ?_⟩; (intro x hx; go_simp; first | done | with_reducible rfl))); (try simp only [Act.put, List.setIfInBounds_toArray, List.set_cons_zero, List.set_cons_succ]))
          | (refine HW.go (fun K hK => ?_); go_simp; (first
            | (go_at_call 33; (with_reducible refine (HCm.out _).mono ?_); rintro e wy ⟨rfl, g2⟩; refine hK.out _ _ (q1.trans g2) ?_; intro _; replace q1 := q1.trans g2; clear hK K g2)
            | (refine hK.out _ _ q1 ?_; intro _; clear hK K))))
        refine HW.end_ ?_
        refine NoPanic.normal ?_
        have HQ := Lib.hid q1
        clear q1 S2 P2 T2 HCm
        go_wp2
        go_roundw
        case rel => exact ⟨m + 1, by go_num, by omega, HG.out.trans HQ.out⟩
        case measure => simp [intOf]; omega
end Go.Proofs.Ytmciiobncfchlaa
end
