/- Texts merged: QvA, QvB, QuB -/
import Derived.Test.YtodnlelnpidliaaGreatBucketHoldsB9
import Derived.LoopTactic
import Derived.BigQuiet
import Derived.Shelf.Abstract

/- The developers' package queue: holds, waits, lockable, closures, the order of turns. -/
section
namespace Go.Proofs.YtodnlelnpidliaaGreat
open Go.RowKit
set_option linter.unusedVariables false      -- a contract need not use every name

theorem dHolds (R : Rq) (w : World) : Calls Tryz.prog 108 #[rqV R] w fun e w' => e = .returned (.bool (R.md != 0)) ∧ Nw w w' := by
  obtain ⟨a, b, m, n, s⟩ := R
  unfold rqV
  go_enter Tryz.func108, Tryz.ntmps108
  go_wp2
  go_ret
  exact ⟨rfl, (Nw.refl _).alloc _⟩
theorem dWaits (R : Rq) (w : World) : Calls Tryz.prog 101 #[rqV R] w fun e w' => e = .returned (.bool (decide (0 < R.sn))) ∧ Nw w w' := by
  obtain ⟨a, b, m, n, s⟩ := R
  unfold rqV
  go_enter Tryz.func101, Tryz.ntmps101
  go_wp2
  go_ret
  exact ⟨rfl, (Nw.refl _).alloc _⟩
theorem dKnown (m : Int) (w : World) : Calls Tryz.prog 117 #[.int .i64 m] w fun e w' => e = .returned (.bool (knI m)) ∧ Nw w w' := by
  by_cases h : 0 ≤ m ∧ m < 7
  · refine (known_yes m w h.1 h.2).mono ?_
    rintro e w' ⟨rfl, rfl⟩
    exact ⟨by rw [(knI_iff m).2 h], Nw.refl _⟩
  · refine (known_no m w (by omega)).mono ?_
    rintro e w' ⟨rfl, rfl⟩
    have : knI m = false := by
      cases e : knI m with
      | false => rfl
      | true => exact absurd ((knI_iff m).1 e) h
    exact ⟨by rw [this], Nw.refl _⟩
theorem dLockable (m : Int) (w : World) : Calls Tryz.prog 93 #[.int .i64 m] w fun e w' => e = .returned (.bool ((m != 0) && knI m)) ∧ Nw w w' := by
  cases h : (m != 0) with
  | false =>
    go_enter Tryz.func93, Tryz.ntmps93
    go_wp2
    go_ret
    exact ⟨rfl, Nw.refl _⟩
  | true =>
    have HK := Lib.hid (dKnown m)
    go_enter Tryz.func93, Tryz.ntmps93
    go_wp2_with (go_at_call 117; refine (HK.out _).mono ?_; rintro e w' ⟨rfl, hN⟩)
    go_ret
    exact ⟨rfl, hN⟩

/-- A function value that tells of each request whether it is one looked for. -/
def Tells (w : World) (f : Value) (p : Rq → Bool) : Prop := ∃ (g : Nat) (lb : Array Value), f = .func (.func g) #[] lb ∧ (∀ args w, (callFunc g args).run Tryz.prog w = .ok (.enter g args) w) ∧ ∀ (R : Rq) (w1 : World), Nw w w1 → Calls Tryz.prog g (#[rqV R] ++ lb) w1 fun e w' => e = .returned (.bool (p R)) ∧ Nw w1 w'
theorem Tells.nw {w w' : World} {f : Value} {p : Rq → Bool} (h : Tells w f p) (g : Nw w w') : Tells w' f p := by
  obtain ⟨k, lb, e, eg, hc⟩ := h
  exact ⟨k, lb, e, eg, fun R w1 h1 => hc R w1 (g.trans h1)⟩

theorem dWithID1 (i : Int) (R : Rq) (p : Nat) (w : World) (h : w.cell? ⟨p, 0, none⟩ = some (.int .i64 i)) : Calls Tryz.prog 115 #[rqV R, .pointer (some ⟨p, 0, none⟩)] w fun e w' => e = .returned (.bool (R.id == i)) ∧ Nw w w' := by
  obtain ⟨a, b, m, n, s⟩ := R
  unfold rqV
  have hp := World.block_lt_of_cell? _ _ h
  go_enter Tryz.func115, Tryz.ntmps115
  go_wp2
  go_ret
  exact ⟨rfl, (Nw.refl _).alloc _⟩
theorem dOfTxn1 (i : Int) (R : Rq) (p : Nat) (w : World) (h : w.cell? ⟨p, 0, none⟩ = some (.int .i64 i)) : Calls Tryz.prog 118 #[rqV R, .pointer (some ⟨p, 0, none⟩)] w fun e w' => e = .returned (.bool (R.txn == i)) ∧ Nw w w' := by
  obtain ⟨a, b, m, n, s⟩ := R
  unfold rqV
  have hp := World.block_lt_of_cell? _ _ h
  go_enter Tryz.func118, Tryz.ntmps118
  go_wp2
  go_ret
  exact ⟨rfl, (Nw.refl _).alloc _⟩
theorem dWithID (i : Int) (w : World) : Calls Tryz.prog 88 #[.int .i64 i] w fun e w' => ∃ p, e = .returned (.func (.func 115) #[] #[.pointer (some ⟨p, 0, none⟩)]) ∧ Nw w w' ∧ w'.cell? ⟨p, 0, none⟩ = some (.int .i64 i) := by
  go_enter Tryz.func88, Tryz.ntmps88
  go_wp2
  go_ret
  exact ⟨_, rfl, (Nw.refl _).alloc _, hcell (allocAt w _)⟩
theorem dOfTxn (i : Int) (w : World) : Calls Tryz.prog 94 #[.int .i64 i] w fun e w' => ∃ p, e = .returned (.func (.func 118) #[] #[.pointer (some ⟨p, 0, none⟩)]) ∧ Nw w w' ∧ w'.cell? ⟨p, 0, none⟩ = some (.int .i64 i) := by
  go_enter Tryz.func94, Tryz.ntmps94
  go_wp2
  go_ret
  exact ⟨_, rfl, (Nw.refl _).alloc _, hcell (allocAt w _)⟩
theorem Tells.withID {w : World} {i : Int} {p : Nat} (h : w.cell? ⟨p, 0, none⟩ = some (.int .i64 i)) : Tells w (.func (.func 115) #[] #[.pointer (some ⟨p, 0, none⟩)]) (fun R => R.id == i) :=
  ⟨_, _, rfl, enters_of Tryz.func115 (by kernel_rfl) rfl, fun R w1 g => dWithID1 i R p w1 (g.kp h)⟩
theorem Tells.ofTxn {w : World} {i : Int} {p : Nat} (h : w.cell? ⟨p, 0, none⟩ = some (.int .i64 i)) : Tells w (.func (.func 118) #[] #[.pointer (some ⟨p, 0, none⟩)]) (fun R => R.txn == i) :=
  ⟨_, _, rfl, enters_of Tryz.func118 (by kernel_rfl) rfl, fun R w1 g => dOfTxn1 i R p w1 (g.kp h)⟩
end Go.Proofs.YtodnlelnpidliaaGreat
end

/- The developers' package queue: IndexFunc, ContainsFunc, find. -/
section
namespace Go.Proofs.YtodnlelnpidliaaGreat
open Go.RowKit
set_option linter.unusedVariables false      -- a contract need not use every name

/-- The place of the first request that is looked for; -1. -/
def plc (p : Rq → Bool) : List Rq → Int
  | [] => -1
  | a :: r => if p a = true then 0 else if plc p r = -1 then -1 else plc p r + 1
theorem plc_form (p : Rq → Bool) : ∀ q : List Rq, (plc p q = -1 ∧ ∀ a ∈ q, p a = false) ∨ ∃ k : Nat, plc p q = k ∧ ∃ h : k < q.length, p q[k] = true ∧ ∀ i (hi : i < q.length), i < k → p q[i] = false
  | [] => .inl ⟨rfl, by simp⟩
  | a :: r => by
    unfold plc
    cases e : p a with
    | true => exact .inr ⟨0, rfl, by simp, e, fun i _ h => by omega⟩
    | false =>
      rcases plc_form p r with ⟨h1, h2⟩ | ⟨k, h1, h2, h3, h4⟩
      · rw [h1]
        refine .inl ⟨rfl, fun x hx => ?_⟩
        rcases List.mem_cons.1 hx with rfl | hx
        · exact e
        · exact h2 x hx
      · rw [h1]
        refine .inr ⟨k + 1, ?_, by simpa using h2, h3, fun i hi hik => ?_⟩
        · simp only [Bool.false_eq_true, if_false]
          rw [if_neg (by omega)]; rfl
        · cases i with
          | zero => exact e
          | succ i => exact h4 i (by simpa using hi) (by omega)
theorem plc_hit {p : Rq → Bool} {q : List Rq} {k : Nat} (hk : k < q.length) (h : p q[k] = true) (hb : ∀ i (hi : i < q.length), i < k → p q[i] = false) : plc p q = k := by
  rcases plc_form p q with ⟨_, h2⟩ | ⟨j, h1, h2, h3, h4⟩
  · rw [h2 _ (List.getElem_mem hk)] at h; cases h
  · rw [h1]
    rcases Nat.lt_trichotomy j k with g | g | g
    · rw [hb j h2 g] at h3; cases h3
    · rw [g]
    · rw [h4 k hk g] at h; cases h
theorem plc_none {p : Rq → Bool} {q : List Rq} (h : ∀ i (hi : i < q.length), p q[i] = false) : plc p q = -1 := by
  rcases plc_form p q with ⟨h1, _⟩ | ⟨j, h1, h2, h3, _⟩
  · exact h1
  · rw [h j h2] at h3; cases h3
theorem plc_any (p : Rq → Bool) (q : List Rq) : decide (0 ≤ plc p q) = q.any p := by
  rcases plc_form p q with ⟨h1, h2⟩ | ⟨k, h1, h2, h3, _⟩
  · rw [h1]
    symm
    rw [show decide ((0 : Int) ≤ -1) = false from rfl, List.any_eq_false]
    intro x hx; rw [h2 x hx]; simp
  · rw [h1]
    symm
    rw [show decide ((0 : Int) ≤ (k : Int)) = true by simp, List.any_eq_true]
    exact ⟨q[k], List.getElem_mem h2, h3⟩
set_option maxRecDepth 100000 in
set_option maxHeartbeats 2000000 in
theorem dIndex (v f : Value) (p : Rq → Bool) (q : List Rq) (w : World) (hl : q.length ≤ 1000) (h : RqAt w v q) (hf : Tells w f p) :
    Calls Tryz.prog 114 #[v, f] w fun e w' => e = .returned (.int .i64 (plc p q)) ∧ Nw w w' := by
  obtain ⟨g, lb, rfl, eg, hT⟩ := hf
  have HT := Lib.hid hT
  clear hT
  obtain ⟨a, c, rfl, ⟨rfl, _⟩ | ⟨b, o, rfl, hc⟩⟩ := h
  · go_enter Tryz.func114, Tryz.ntmps114
    go_wp2
    refine wp_loop_rounds 1 ?_
    repeat (rw [rounds_succ]; go_wp2)
    go_ret
    exact ⟨rfl, Nw.refl _⟩
  · have H := Lib.hid hc
    clear hc
    obtain ⟨V, hV⟩ : ∃ V, plc p q = V := ⟨_, rfl⟩
    rw [hV]
    have HV := Lib.hid hV
    clear hV
    go_enter Tryz.func114, Tryz.ntmps114
    go_wp2
    go_loopw [8] (fun i wr => ∃ k : Nat, k ≤ q.length ∧ i = .int .i64 k ∧ (∀ i (hi : i < q.length), i < k → p q[i] = false) ∧ Nw w wr) (fun i _ => q.length - (intOf i).toNat)
    case atStart => exact ⟨0, Nat.zero_le _, rfl, fun _ _ h => by omega, Nw.refl _⟩
    case round =>
      obtain ⟨k, hk, rfl, hF, hN⟩ := hrel
      by_cases hlt : k < q.length
      · have hce := (H.out.nw hN).cell k hlt
        obtain ⟨R, hR⟩ : ∃ R, q[k] = R := ⟨_, rfl⟩
        rw [hR] at hce
        have HC := Lib.hid (HT.out R)
        have HS := Lib.hid hR
        have HF := Lib.hid hF
        have HN := Lib.hid hN
        clear hR hF hN
        obtain ⟨B, hB⟩ : ∃ B, p R = B := ⟨_, rfl⟩
        rw [hB] at HC
        have HB := Lib.hid hB
        clear hB
        obtain ⟨b0, b1, b2, b3, b4⟩ := R
        have e0 := hce 0 _ rfl
        have e1 := hce 1 _ rfl
        have e2 := hce 2 _ rfl
        have e3 := hce 3 _ rfl
        have e4 := hce 4 _ rfl
        simp only [Nat.add_zero] at e0
        clear hce
        cases B
        case true =>
          go_wp2_with (go_at_fn g; refine (HC.out _ HN.out).mono ?_; rintro e w1 ⟨rfl, g1⟩)
          go_ret
          exact ⟨by rw [← HV.out, plc_hit hlt (by rw [HS.out]; exact HB.out) HF.out]; rfl, HN.out.trans g1⟩
        case false =>
          go_wp2_with (go_at_fn g; refine (HC.out _ HN.out).mono ?_; rintro e w1 ⟨rfl, g1⟩)
          go_roundw
          case rel =>
            refine ⟨k + 1, by omega, by go_num, fun i hi hik => ?_, HN.out.trans g1⟩
            by_cases q : i < k
            · exact HF.out i hi q
            · have : i = k := by omega
              subst this
              rw [HS.out]; exact HB.out
          case measure => simp [intOf]; omega
      · have HF := Lib.hid hF
        have HN := Lib.hid hN
        clear hF hN
        go_wp2
        go_ret
        exact ⟨by rw [← HV.out, plc_none fun i hi => HF.out i hi (by omega)]; rfl, HN.out⟩
theorem dContains (v f : Value) (p : Rq → Bool) (q : List Rq) (w : World) (hl : q.length ≤ 1000) (h : RqAt w v q) (hf : Tells w f p) :
    Calls Tryz.prog 120 #[v, f] w fun e w' => e = .returned (.bool (q.any p)) ∧ Nw w w' := by
  have HI := Lib.hid (dIndex v f p q w hl h hf)
  obtain ⟨a, c, rfl⟩ := h.form
  obtain ⟨g, lb, rfl, _⟩ := hf
  rw [← plc_any]
  clear h
  go_enter Tryz.func120, Tryz.ntmps120
  go_wp2_with (go_at_call 114; refine HI.out.mono ?_; rintro e w1 ⟨rfl, g1⟩)
  go_ret
  exact ⟨rfl, g1⟩
theorem dFind (t r W : Int) (v f : Value) (p : Rq → Bool) (q : List Rq) (w : World) (hl : q.length ≤ 1000) (h : RqAt w v q) (hf : Tells w f p) :
    Calls Tryz.prog 87 #[hdV t r v W, f] w fun e w' => e = .returned (.int .i64 (plc p q)) ∧ Nw w w' := by
  have HI := Lib.hid (fun (w1 : World) (g : Nw w w1) => dIndex v f p q w1 hl (h.nw g) (hf.nw g))
  obtain ⟨a, c, rfl⟩ := h.form
  obtain ⟨g, lb, rfl, _⟩ := hf
  unfold hdV
  clear h
  have hN : Nw w (w.alloc (.cells #[.int .i64 t, .int .i64 r, .slice a q.length c, .int .i64 W] 56)) := (Nw.refl w).alloc _
  go_enter Tryz.func87, Tryz.ntmps87
  go_wp2_with (go_at_call 114; refine (HI.out _ hN).mono ?_; rintro e w1 ⟨rfl, g1⟩)
  go_ret
  exact ⟨rfl, hN.trans g1⟩
end Go.Proofs.YtodnlelnpidliaaGreat
end

/- The document's own queue: right, Check. -/
section
namespace Go.Proofs.YtodnlelnpidliaaGreat
open Go.RowKit
set_option linter.unusedVariables false      -- a contract need not use every name

set_option maxHeartbeats 2000000 in
theorem r9right (a b m n s W : Int) (w : World) : Calls Tryz.prog 61 #[.agg #[.int .i64 a, .int .i64 b, .int .i64 m, .int .i64 n, .int .i64 s], .int .i64 W] w fun e w' => e = .returned (.bool (rtB W ⟨a, b, m, n, s⟩)) ∧ Nw w w' := by
  have hK1 := fun w => r1known m w
  have hK2 := fun w => r1known n w
  have hCV := fun w => r1cov m n w
  unfold rtB
  simp only
  generalize knI m = k1 at *
  generalize knI n = k2 at *
  generalize cvI m n = cv at *
  have K1 := Lib.hid hK1
  have K2 := Lib.hid hK2
  have CV := Lib.hid hCV
  clear hK1 hK2 hCV
  by_cases h1 : a < 0
  · rw [show (!(((((decide (a < 0) || !k1) || !k2) || decide (s < 0)) || decide (W < s))) && (if 0 < s then !cv else ((m != 0) && (n == m)))) = false by simp [h1]]
    go_enter Tryz.func61, Tryz.ntmps61
    go_wp2
    go_ret
    exact ⟨rfl, (Nw.refl _).alloc _⟩
  cases k1
  · rw [show (!(((((decide (a < 0) || !false) || !k2) || decide (s < 0)) || decide (W < s))) && (if 0 < s then !cv else ((m != 0) && (n == m)))) = false by simp]
    go_enter Tryz.func61, Tryz.ntmps61
    go_wp2_with fail
    refine (K1.out _).mono ?_
    rintro e w' ⟨rfl, rfl⟩
    go_wp2
    go_ret
    exact ⟨rfl, (Nw.refl _).alloc _⟩
  cases k2
  · rw [show (!(((((decide (a < 0) || !true) || !false) || decide (s < 0)) || decide (W < s))) && (if 0 < s then !cv else ((m != 0) && (n == m)))) = false by simp]
    go_enter Tryz.func61, Tryz.ntmps61
    go_wp2_with fail
    refine (K1.out _).mono ?_
    rintro e w' ⟨rfl, rfl⟩
    go_wp2_with fail
    refine (K2.out _).mono ?_
    rintro e w' ⟨rfl, rfl⟩
    go_wp2
    go_ret
    exact ⟨rfl, (Nw.refl _).alloc _⟩
  by_cases h4 : s < 0
  · rw [show (!(((((decide (a < 0) || !true) || !true) || decide (s < 0)) || decide (W < s))) && (if 0 < s then !cv else ((m != 0) && (n == m)))) = false by simp [h4]]
    go_enter Tryz.func61, Tryz.ntmps61
    go_wp2_with fail
    refine (K1.out _).mono ?_
    rintro e w' ⟨rfl, rfl⟩
    go_wp2_with fail
    refine (K2.out _).mono ?_
    rintro e w' ⟨rfl, rfl⟩
    go_wp2
    go_ret
    exact ⟨rfl, (Nw.refl _).alloc _⟩
  by_cases h5 : W < s
  · rw [show (!(((((decide (a < 0) || !true) || !true) || decide (s < 0)) || decide (W < s))) && (if 0 < s then !cv else ((m != 0) && (n == m)))) = false by simp [h5]]
    go_enter Tryz.func61, Tryz.ntmps61
    go_wp2_with fail
    refine (K1.out _).mono ?_
    rintro e w' ⟨rfl, rfl⟩
    go_wp2_with fail
    refine (K2.out _).mono ?_
    rintro e w' ⟨rfl, rfl⟩
    go_wp2
    go_ret
    exact ⟨rfl, (Nw.refl _).alloc _⟩
  by_cases h6 : 0 < s
  · rw [show (!(((((decide (a < 0) || !true) || !true) || decide (s < 0)) || decide (W < s))) && (if 0 < s then !cv else ((m != 0) && (n == m)))) = !cv by simp [h1, h4, h5, h6]]
    have d6 : decide (0 < s) = true := by simpa using h6
    go_enter Tryz.func61, Tryz.ntmps61
    go_wp2_with fail
    refine (K1.out _).mono ?_
    rintro e w' ⟨rfl, rfl⟩
    go_wp2_with fail
    refine (K2.out _).mono ?_
    rintro e w' ⟨rfl, rfl⟩
    go_wp2_with fail
    refine (r9waits _ _ _ _ _ _).mono ?_
    rintro e w2 ⟨rfl, g2⟩
    have hN := ((Nw.refl w).alloc (.cells #[.int .i64 a, .int .i64 b, .int .i64 m, .int .i64 n, .int .i64 s] 47)).trans g2
    have c2 : w2.cell? ⟨w.heap.size, 2, none⟩ = some (.int .i64 m) := g2.kp (hcell (allocAt w _))
    have c3 : w2.cell? ⟨w.heap.size, 3, none⟩ = some (.int .i64 n) := g2.kp (hcell (allocAt w _))
    clear g2
    go_wp2_with fail
    refine (CV.out _).mono ?_
    rintro e w4 ⟨rfl, g4⟩
    go_wp2
    go_ret
    exact ⟨rfl, hN.trans g4⟩
  · rw [show (!(((((decide (a < 0) || !true) || !true) || decide (s < 0)) || decide (W < s))) && (if 0 < s then !cv else ((m != 0) && (n == m)))) = ((m != 0) && (n == m)) by simp [h1, h4, h5, h6]]
    have d6 : decide (0 < s) = false := by simpa using h6
    cases h7 : (m != 0)
    · go_enter Tryz.func61, Tryz.ntmps61
      go_wp2_with fail
      refine (K1.out _).mono ?_
      rintro e w' ⟨rfl, rfl⟩
      go_wp2_with fail
      refine (K2.out _).mono ?_
      rintro e w' ⟨rfl, rfl⟩
      go_wp2_with fail
      refine (r9waits _ _ _ _ _ _).mono ?_
      rintro e w2 ⟨rfl, g2⟩
      have hN := ((Nw.refl w).alloc (.cells #[.int .i64 a, .int .i64 b, .int .i64 m, .int .i64 n, .int .i64 s] 47)).trans g2
      have c0 : w2.cell? ⟨w.heap.size, 0, none⟩ = some (.int .i64 a) := g2.kp (hcell (allocAt w _))
      have c1 : w2.cell? ⟨w.heap.size, 1, none⟩ = some (.int .i64 b) := g2.kp (hcell (allocAt w _))
      have c2 : w2.cell? ⟨w.heap.size, 2, none⟩ = some (.int .i64 m) := g2.kp (hcell (allocAt w _))
      have c3 : w2.cell? ⟨w.heap.size, 3, none⟩ = some (.int .i64 n) := g2.kp (hcell (allocAt w _))
      have c4 : w2.cell? ⟨w.heap.size, 4, none⟩ = some (.int .i64 s) := g2.kp (hcell (allocAt w _))
      clear g2
      go_wp2_with fail
      refine (r9holds _ _ _ _ _ _).mono ?_
      rintro e w4 ⟨rfl, g4⟩
      go_wp2
      go_ret
      exact ⟨rfl, hN.trans g4⟩
    · go_enter Tryz.func61, Tryz.ntmps61
      go_wp2_with fail
      refine (K1.out _).mono ?_
      rintro e w' ⟨rfl, rfl⟩
      go_wp2_with fail
      refine (K2.out _).mono ?_
      rintro e w' ⟨rfl, rfl⟩
      go_wp2_with fail
      refine (r9waits _ _ _ _ _ _).mono ?_
      rintro e w2 ⟨rfl, g2⟩
      have hN := ((Nw.refl w).alloc (.cells #[.int .i64 a, .int .i64 b, .int .i64 m, .int .i64 n, .int .i64 s] 47)).trans g2
      have c0 : w2.cell? ⟨w.heap.size, 0, none⟩ = some (.int .i64 a) := g2.kp (hcell (allocAt w _))
      have c1 : w2.cell? ⟨w.heap.size, 1, none⟩ = some (.int .i64 b) := g2.kp (hcell (allocAt w _))
      have c2 : w2.cell? ⟨w.heap.size, 2, none⟩ = some (.int .i64 m) := g2.kp (hcell (allocAt w _))
      have c3 : w2.cell? ⟨w.heap.size, 3, none⟩ = some (.int .i64 n) := g2.kp (hcell (allocAt w _))
      have c4 : w2.cell? ⟨w.heap.size, 4, none⟩ = some (.int .i64 s) := g2.kp (hcell (allocAt w _))
      clear g2
      go_wp2_with fail
      refine (r9holds _ _ _ _ _ _).mono ?_
      rintro e w4 ⟨rfl, g4⟩
      replace c2 := g4.kp c2
      replace c3 := g4.kp c3
      replace hN := hN.trans g4
      go_wp2
      go_ret
      exact ⟨rfl, hN⟩
end Go.Proofs.YtodnlelnpidliaaGreat
end
