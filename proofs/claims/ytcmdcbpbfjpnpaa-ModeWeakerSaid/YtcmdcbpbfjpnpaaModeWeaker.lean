/- ModeWeaker returns true for every three integers. No condition. -/
import Derived.Test.YtcmdcbpbfjpnpaaRows
import Derived.WalkKit
import Derived.ProofKit
import Derived.OpenShut
import Derived.ShutString
import Derived.Test.YtcmdcbpbfjpnpaaModeB
namespace Go.Proofs.Ytcmdcbpbfjpnpaa.modeWeaker
open Go.ChangeShapes Go.WideShapes Go.ChangeAt Go.RowKit
open Go.ChangeMaps (open_string shut_string)
set_option linter.unusedVariables false      -- a walk need not use every w

theorem own : ownKnob Try.prog.godebug = none := by kernel_rfl

/-- All that ModeWeaker asks of three modes, by their numbers. -/
def ask (a b c : Int) : Bool :=
  let p := parT a
  let q := parT b
  cmpT b a == cmpT a b && (!covT a b || !cmpT a c || cmpT b c) && decide (0 ≤ q) && decide (q < 7) && (p == 0 || p == 1 || p == 2) && cmpT p q && (!covT a b || covT p q) && cmpT a 0
theorem ask_all : ∀ i < 7, ∀ j < 7, ∀ k < 7, ask (Int.ofNat i) (Int.ofNat j) (Int.ofNat k) = true := by decide +kernel
theorem ask_in (a b c : Int) (ha : 0 ≤ a) (ha' : a < 7) (hb : 0 ≤ b) (hb' : b < 7) (hc : 0 ≤ c) (hc' : c < 7) : ask a b c = true := by
  obtain ⟨i, rfl⟩ := Int.eq_ofNat_of_zero_le ha
  obtain ⟨j, rfl⟩ := Int.eq_ofNat_of_zero_le hb
  obtain ⟨k, rfl⟩ := Int.eq_ofNat_of_zero_le hc
  exact ask_all i (by omega) j (by omega) k (by omega)

theorem pick_val (n v : Int) (w : World) (h : n % 7 = v) :
    Calls Try.prog 19 #[.int .i64 n, .int .i64 7] w fun e w' => e = .returned (.int .i64 v) ∧ w = w' := by
  subst h; exact pick_any n 7 w (by decide) (by decide)

set_option maxHeartbeats 4000000 in
theorem way (a0 a1 a2 a b c p q : Int) (x : Bool) (w : World) (e0 : Hid (a0 % 7 = a)) (e1 : Hid (a1 % 7 = b)) (e2 : Hid (a2 % 7 = c)) (e3 : Hid (parT a = p)) (e4 : Hid (parT b = q))
    (ha : 0 ≤ a) (ha' : a < 7) (hb : 0 ≤ b) (hb' : b < 7) (hc : 0 ≤ c) (hc' : c < 7) (hq : 0 ≤ q) (hq' : q < 7)
    (q1 : cmpT a b = x) (q2 : cmpT b a = x) (q3 : cmpT p q = true) (q4 : cmpT a 0 = true)
    (R : (covT a b = false) ∨ (covT a b = true ∧ cmpT a c = false ∧ covT p q = true) ∨ (covT a b = true ∧ cmpT a c = true ∧ cmpT b c = true ∧ covT p q = true))
    (T : p = 0 ∨ p = 1 ∨ p = 2) :
    Calls Try.prog 5 #[.int .i64 a0, .int .i64 a1, .int .i64 a2] w fun e w' => e = .returned (.bool true) ∧ Nw w w' := by
  rcases R with r1 | ⟨r1, r2, r3⟩ | ⟨r1, r2, r3, r4⟩ <;> rcases T with rfl | rfl | rfl
  all_goals
    have hG : Nw w w := Nw.refl w
    go_enter Try.func5, Try.ntmps5
    go_wp2_with fail
    refine (lives_ok _).mono ?_
    rintro e w1 ⟨rfl, hg⟩
    replace hG := Nw.trans hG hg
    clear hg
    go_wp2_with fail
    refine (pick_val a0 a _ e0.out).mono ?_
    rintro e w' ⟨rfl, rfl⟩
    go_wp2_with fail
    refine (pick_val a1 b _ e1.out).mono ?_
    rintro e w' ⟨rfl, rfl⟩
    go_wp2_with fail
    refine (pick_val a2 c _ e2.out).mono ?_
    rintro e w' ⟨rfl, rfl⟩
    go_wp2_with (first | (go_at_call 13; refine (cmp_in _ _ _ (by omega) (by omega) (by omega) (by omega)).mono ?_; rintro e w' ⟨rfl, hg⟩; replace hG := Nw.trans hG hg; clear hg) | (go_at_call 15; refine (cov_val _ _ _ _ rfl (by omega) (by omega) (by omega) (by omega)).mono ?_; rintro e w' ⟨rfl, hg⟩; replace hG := Nw.trans hG hg; clear hg))
    refine (par_val a _ _ e3.out ha ha').mono ?_
    rintro e w' ⟨rfl, rfl⟩
    go_wp2_with fail
    refine (par_val b q _ e4.out hb hb').mono ?_
    rintro e w' ⟨rfl, rfl⟩
    go_wp2_with (first | (go_at_call 13; refine (cmp_in _ _ _ (by omega) (by omega) (by omega) (by omega)).mono ?_; rintro e w' ⟨rfl, hg⟩; replace hG := Nw.trans hG hg; clear hg) | (go_at_call 15; refine (cov_val _ _ _ _ rfl (by omega) (by omega) (by omega) (by omega)).mono ?_; rintro e w' ⟨rfl, hg⟩; replace hG := Nw.trans hG hg; clear hg))
    go_ret
    exact ⟨rfl, hG⟩

theorem walk (a0 : Int) (a1 : Int) (a2 : Int) (w0 : (Lit.int .i64 a0).wf = true) (w1 : (Lit.int .i64 a1).wf = true) (w2 : (Lit.int .i64 a2).wf = true) (w : World) :
    Calls Try.prog 5 #[.int .i64 a0, .int .i64 a1, .int .i64 a2] w fun e w' => e = .returned (.bool true) ∧ Nw w w' := by
  have hb : ∀ n : Int, 0 ≤ n % 7 ∧ n % 7 < 7 := fun n => ⟨by omega, by omega⟩
  obtain ⟨ha, ha'⟩ := hb a0
  obtain ⟨hb1, hb1'⟩ := hb a1
  obtain ⟨hc, hc'⟩ := hb a2
  have h := ask_in (a0 % 7) (a1 % 7) (a2 % 7) ha ha' hb1 hb1' hc hc'
  have e0 : Hid (a0 % 7 = a0 % 7) := Lib.hid rfl
  have e1 : Hid (a1 % 7 = a1 % 7) := Lib.hid rfl
  have e2 : Hid (a2 % 7 = a2 % 7) := Lib.hid rfl
  have e3 : Hid (parT (a0 % 7) = parT (a0 % 7)) := Lib.hid rfl
  have e4 : Hid (parT (a1 % 7) = parT (a1 % 7)) := Lib.hid rfl
  simp only [ask, Bool.and_eq_true, Bool.or_eq_true, decide_eq_true_eq, beq_iff_eq] at h
  obtain ⟨⟨⟨⟨⟨⟨⟨h1, h2⟩, h3⟩, h4⟩, h5⟩, h6⟩, h7⟩, h8⟩ := h
  refine way a0 a1 a2 _ _ _ _ _ (cmpT (a0 % 7) (a1 % 7)) w e0 e1 e2 e3 e4 ha ha' hb1 hb1' hc hc' h3 h4 rfl h1 h6 h8 ?_ (by omega)
  generalize covT (a0 % 7) (a1 % 7) = x at *
  generalize cmpT (a0 % 7) (a2 % 7) = y at *
  generalize cmpT (a1 % 7) (a2 % 7) = z at *
  generalize covT (parT (a0 % 7)) (parT (a1 % 7)) = u at *
  revert h2 h7; revert x y z u; decide

/-! ### THE ROW's STEP: WRITTEN OUT: LEAVE IT -/
set_option maxRecDepth 100000 in
theorem lifted (os : Os) (started : os.Started) (H : Type) (enc : TypeId × Value → H) :
    ReturnsInHanded {} Try.checked os 5 .any (Rows.modeWeakerSpec.pre6 enc Try.prog Try.f5 Rows.modeWeakerRow.domain false) (Rows.modeWeakerSpec.post enc Try.prog Try.f5 false true false false) := by
  refine returnsInHanded_of_change (C := Try.checked) own started (by kernel_rfl) Try.func5
    (ChangeSpec.witness6 (enc := enc) (C := Try.checked) false ⟨#[], #[.int .i64 0, .int .i64 0, .int .i64 0], []⟩ 8 (by kernel_rfl) (by kernel_rfl) (by kernel_rfl) (by kernel_rfl)) ?_
  intro W base args ds gs before hval0 hW hcnd _
  have hval : ∀ (j : Nat) t v, Try.f5.params[j]? = some t → args[j]? = some v → Value.okWide Try.prog W .any base t v := hval0
  have hW' := hW
  obtain ⟨p, q, hA0, hV, rfl, hfz, hnd⟩ := hW
  have hA : DataW.TrodAll enc Try.prog W 0 (fun _ => true) true Try.f5.params.toList args.toList ds p := hA0
  rw [Try.params5] at hA hval
  obtain ⟨v0, vs0, d0, ds0, p0, q0, hargs, rfl, rfl, h0, r0⟩ := trodAll_cons hA
  obtain ⟨v1, vs1, d1, ds1, p1, q1, rfl, rfl, rfl, h1, r1⟩ := trodAll_cons r0
  obtain ⟨v2, vs2, d2, ds2, p2, q2, rfl, rfl, rfl, h2, r2⟩ := trodAll_cons r1
  obtain ⟨rfl, rfl, rfl⟩ := trodAll_nil r2
  obtain rfl : args = #[v0, v1, v2] := by cases args; simp_all
  obtain ⟨rfl, rfl⟩ := trodVars_none hV
  obtain ⟨a0, rfl, rfl, rfl, w0⟩ := open_int Try.underlying3 (hval 0 3 v0 rfl rfl) h0
  obtain ⟨a1, rfl, rfl, rfl, w1⟩ := open_int Try.underlying3 (hval 1 3 v1 rfl rfl) h1
  obtain ⟨a2, rfl, rfl, rfl, w2⟩ := open_int Try.underlying3 (hval 2 3 v2 rfl rfl) h2
  clear hA0 hval0
  refine (walk a0 a1 a2 w0 w1 w2 W).mono fun e W' ⟨he, hg⟩ => ?_
  subst he
  exact ⟨_, rfl, _, _, _, [], _, [], hW', trodAll_mk1 (shut_bool Try.underlying4 _), (trodAll_cons_mk (shut_int Try.underlying3 w0) (trodAll_cons_mk (shut_int Try.underlying3 w1) (trodAll_cons_mk (shut_int Try.underlying3 w2) trodAll_mk0))), rfl, Below.frame hg _, fun h => by cases h⟩

theorem over : Rows.modeWeakerRow.holds Try.pinned (OpenSpec.ofChange Rows.modeWeakerSpec) :=
  OpenClaim.holds_of_wide 5 Try.f5 rfl rfl rfl rfl rfl rfl rfl ⟨rfl, rfl, rfl, rfl, rfl⟩ rfl rfl rfl rfl rfl (by kernel_rfl) Try.func5 (by kernel_rfl)
    (of_decide_eq_true (by kernel_rfl)) (by unfold Func.isWrapper; first | (rw [if_pos (by decide +kernel)]; kernel_rfl) | (rw [if_neg (by decide +kernel)]; exact ⟨rfl, rfl⟩))
    (fun os started H enc _ => lifted os started H enc)

/-- ████ THE STATEMENT ████ -/
theorem proved : Rows.ModeWeakerSaid :=
  over
end Go.Proofs.Ytcmdcbpbfjpnpaa.modeWeaker
