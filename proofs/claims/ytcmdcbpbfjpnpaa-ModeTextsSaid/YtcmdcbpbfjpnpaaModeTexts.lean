/- ModeTexts returns true for every string and every two integers. No condition. -/
import Derived.Test.YtcmdcbpbfjpnpaaRows
import Derived.WalkKit
import Derived.ProofKit
import Derived.OpenShut
import Derived.ShutString
import Derived.Test.YtcmdcbpbfjpnpaaModeC
namespace Go.Proofs.Ytcmdcbpbfjpnpaa.modeTexts
open Go.ChangeShapes Go.WideShapes Go.ChangeAt Go.RowKit
open Go.ChangeMaps (open_string shut_string)
set_option linter.unusedVariables false      -- a walk need not use every w

theorem own : ownKnob Try.prog.godebug = none := by kernel_rfl

/-- The texts of two modes are the same bytes only if the modes are the same. -/
def same (i j : Int) : Bool := (txtT i).data.toList == (txtT j).data.toList
theorem same_all : ∀ i < 7, ∀ j < 7, same (Int.ofNat i) (Int.ofNat j) = decide (i = j) := by decide +kernel
theorem hit_text (a b : Int) (ha : 0 ≤ a) (ha' : a < 7) (hb : 0 ≤ b) (hb' : b < 7) : hit (txtT a) b = decide (b = a) := by
  obtain ⟨i, rfl⟩ := Int.eq_ofNat_of_zero_le ha
  obtain ⟨j, rfl⟩ := Int.eq_ofNat_of_zero_le hb
  have h : same (Int.ofNat j) (Int.ofNat i) = decide (j = i) := same_all j (by omega) i (by omega)
  unfold hit
  rw [ByteArray.toList_eq, ByteArray.toList_eq]
  refine Eq.trans h ?_
  by_cases e : j = i
  · subst e; simp
  · have e' : ¬ (j : Int) = (i : Int) := by omega
    simp [e, e']

theorem read_text (a : Int) (w : World) (ha : 0 ≤ a) (ha' : a < 7) :
    Calls Try.prog 9 #[.string (txtT a)] w fun e w' => e = .returned (.tuple #[.int .i64 a, .int .i64 0]) ∧ Nw w w' := by
  obtain ⟨i, rfl⟩ := Int.eq_ofNat_of_zero_le ha
  refine (read_any (txtT i) i w (by omega) (fun j hj => ?_) (fun _ => ?_)).mono fun e w' ⟨he, hg⟩ => ⟨?_, hg⟩
  · rw [hit_text i j ha ha' (by omega) (by omega)]; simp; omega
  · rw [hit_text i i ha ha' ha ha']; simp
  · have h1 : i < 7 := by omega
    rw [he]; unfold rdV rdE; rw [if_pos h1, if_pos h1]

/-- The first mode whose text is s; 7 if there is none. -/
theorem first (s : ByteArray) : ∃ K : Nat, K ≤ 7 ∧ (∀ j : Nat, j < K → hit s j = false) ∧ (K < 7 → hit s K = true) := by
  have go : ∀ n : Nat, n ≤ 7 → (∃ K : Nat, K < n ∧ (∀ j : Nat, j < K → hit s j = false) ∧ hit s K = true) ∨ (∀ j : Nat, j < n → hit s j = false) := by
    intro n
    induction n with
    | zero => exact fun _ => .inr (fun j hj => absurd hj (by omega))
    | succ n ih =>
      intro hn
      rcases ih (by omega) with ⟨K, h1, h2, h3⟩ | h
      · exact .inl ⟨K, by omega, h2, h3⟩
      · cases hh : hit s n with
        | true => exact .inl ⟨n, by omega, h, hh⟩
        | false =>
          refine .inr fun j hj => ?_
          by_cases e : j = n
          · rw [e]; exact hh
          · exact h j (by omega)
  rcases go 7 (Nat.le_refl _) with ⟨K, h1, h2, h3⟩ | h
  · exact ⟨K, by omega, h2, fun _ => h3⟩
  · exact ⟨7, Nat.le_refl _, h, fun h => absurd h (by omega)⟩

theorem pick_val (n v : Int) (w : World) (h : n % 7 = v) :
    Calls Try.prog 19 #[.int .i64 n, .int .i64 7] w fun e w' => e = .returned (.int .i64 v) ∧ w = w' := by
  subst h; exact pick_any n 7 w (by decide) (by decide)

set_option maxHeartbeats 4000000 in
theorem way (a0 : ByteArray) (a1 a2 a b n f : Int) (w : World) (e1 : Hid (a1 % 7 = a)) (e2 : Hid (a2 % 7 = b)) (hs : a0.size ≤ 40)
    (ha : 0 ≤ a) (ha' : a < 7) (hb : 0 ≤ b) (hb' : b < 7) (hn : 0 ≤ n) (hn' : n < 7)
    (hR : Hid (∀ w : World, Calls Try.prog 9 #[.string a0] w fun e w' => e = .returned (.tuple #[.int .i64 n, .int .i64 f]) ∧ Nw w w'))
    (R : (f = 0 ∧ ((txtT n).toList == a0.toList) = true) ∨ (f = 3 ∧ n = 0))
    (T : a = b ∨ (((txtT a).toList == (txtT b).toList) = false ∧ (a == b) = false)) :
    Calls Try.prog 6 #[.string a0, .int .i64 a1, .int .i64 a2] w fun e w' => e = .returned (.bool true) ∧ Nw w w' := by
  rcases R with ⟨rfl, r1⟩ | ⟨rfl, rfl⟩ <;> rcases T with rfl | ⟨t1, t2⟩
  all_goals
    have hG : Nw w w := Nw.refl w
    go_enter Try.func6, Try.ntmps6
    go_wp2_with fail
    refine (lives_ok _).mono ?_
    rintro e w1 ⟨rfl, hg⟩
    replace hG := Nw.trans hG hg
    clear hg
    go_wp2_with fail
    refine (pick_val a1 a _ e1.out).mono ?_
    rintro e w' ⟨rfl, rfl⟩
    go_wp2_with fail
    refine (pick_val a2 _ _ e2.out).mono ?_
    rintro e w' ⟨rfl, rfl⟩
    go_wp2_with fail
    refine (text_in a _ ha ha').mono ?_
    rintro e w1 ⟨rfl, hg⟩
    replace hG := Nw.trans hG hg
    clear hg
    go_wp2_with fail
    refine (read_text a _ ha ha').mono ?_
    rintro e w1 ⟨rfl, hg⟩
    replace hG := Nw.trans hG hg
    clear hg
    go_wp2_with fail
    refine (hR.out _).mono ?_
    rintro e w1 ⟨rfl, hg⟩
    replace hG := Nw.trans hG hg
    clear hg
    go_wp2_with (first | (go_at_call 18; refine (text_in _ _ (by omega) (by omega)).mono ?_; rintro e w' ⟨rfl, hg⟩; replace hG := Nw.trans hG hg; clear hg) | (go_at_call 12; refine (known_yes _ _ (by omega) (by omega)).mono ?_; rintro e w' ⟨rfl, rfl⟩))
    go_ret
    exact ⟨rfl, hG⟩

theorem walk (a0 : ByteArray) (a1 : Int) (a2 : Int) (w0 : a0.size ≤ maxLen) (w1 : (Lit.int .i64 a1).wf = true) (w2 : (Lit.int .i64 a2).wf = true) (w : World) :
    Calls Try.prog 6 #[.string a0, .int .i64 a1, .int .i64 a2] w fun e w' => e = .returned (.bool true) ∧ Nw w w' := by
  by_cases hs : a0.size ≤ 40
  · have hb : ∀ n : Int, 0 ≤ n % 7 ∧ n % 7 < 7 := fun n => ⟨by omega, by omega⟩
    obtain ⟨ha, ha'⟩ := hb a1
    obtain ⟨hb1, hb1'⟩ := hb a2
    obtain ⟨K, hK, hm, hh⟩ := first a0
    have hv : 0 ≤ rdV K ∧ rdV K < 7 := by unfold rdV; split <;> omega
    refine way a0 a1 a2 _ _ (rdV K) (rdE K) w (Lib.hid rfl) (Lib.hid rfl) hs ha ha' hb1 hb1' hv.1 hv.2 (Lib.hid fun w => read_any a0 K w hK hm hh) ?_ ?_
    · by_cases h : K < 7
      · exact .inl ⟨if_pos h, by have e : rdV K = K := if_pos h; rw [e]; exact hh h⟩
      · exact .inr ⟨if_neg h, if_neg h⟩
    · by_cases e : a1 % 7 = a2 % 7
      · exact .inl e
      · refine .inr ⟨?_, beq_eq_false_iff_ne.2 e⟩
        have := hit_text (a2 % 7) (a1 % 7) hb1 hb1' ha ha'
        rw [decide_eq_false e] at this
        exact this
  · have hs' : (40 : Int) < a0.size := by omega
    go_enter Try.func6, Try.ntmps6
    go_wp2_with fail
    refine (lives_ok _).mono ?_
    rintro e w1 ⟨rfl, hg⟩
    go_wp2_with fail
    go_ret
    exact ⟨rfl, hg⟩

/-! ### THE ROW's STEP: WRITTEN OUT: LEAVE IT -/
set_option maxRecDepth 100000 in
theorem lifted (os : Os) (started : os.Started) (H : Type) (enc : TypeId × Value → H) :
    ReturnsInHanded {} Try.checked os 6 .any (Rows.modeTextsSpec.pre6 enc Try.prog Try.f6 Rows.modeTextsRow.domain false) (Rows.modeTextsSpec.post enc Try.prog Try.f6 false true false false) := by
  refine returnsInHanded_of_change (C := Try.checked) own started (by kernel_rfl) Try.func6
    (ChangeSpec.witness6 (enc := enc) (C := Try.checked) false ⟨#[], #[.string ByteArray.empty, .int .i64 0, .int .i64 0], []⟩ 8 (by kernel_rfl) (by kernel_rfl) (by kernel_rfl) (by kernel_rfl)) ?_
  intro W base args ds gs before hval0 hW hcnd _
  have hval : ∀ (j : Nat) t v, Try.f6.params[j]? = some t → args[j]? = some v → Value.okWide Try.prog W .any base t v := hval0
  have hW' := hW
  obtain ⟨p, q, hA0, hV, rfl, hfz, hnd⟩ := hW
  have hA : DataW.TrodAll enc Try.prog W 0 (fun _ => true) true Try.f6.params.toList args.toList ds p := hA0
  rw [Try.params6] at hA hval
  obtain ⟨v0, vs0, d0, ds0, p0, q0, hargs, rfl, rfl, h0, r0⟩ := trodAll_cons hA
  obtain ⟨v1, vs1, d1, ds1, p1, q1, rfl, rfl, rfl, h1, r1⟩ := trodAll_cons r0
  obtain ⟨v2, vs2, d2, ds2, p2, q2, rfl, rfl, rfl, h2, r2⟩ := trodAll_cons r1
  obtain ⟨rfl, rfl, rfl⟩ := trodAll_nil r2
  obtain rfl : args = #[v0, v1, v2] := by cases args; simp_all
  obtain ⟨rfl, rfl⟩ := trodVars_none hV
  obtain ⟨a0, rfl, rfl, rfl, w0⟩ := open_string Try.underlying9 (hval 0 9 v0 rfl rfl) h0
  obtain ⟨a1, rfl, rfl, rfl, w1⟩ := open_int Try.underlying3 (hval 1 3 v1 rfl rfl) h1
  obtain ⟨a2, rfl, rfl, rfl, w2⟩ := open_int Try.underlying3 (hval 2 3 v2 rfl rfl) h2
  clear hA0 hval0
  refine (walk a0 a1 a2 w0 w1 w2 W).mono fun e W' ⟨he, hg⟩ => ?_
  subst he
  exact ⟨_, rfl, _, _, _, [], _, [], hW', trodAll_mk1 (shut_bool Try.underlying4 _), (trodAll_cons_mk (shut_string Try.underlying9 w0) (trodAll_cons_mk (shut_int Try.underlying3 w1) (trodAll_cons_mk (shut_int Try.underlying3 w2) trodAll_mk0))), rfl, Below.frame hg _, fun h => by cases h⟩

theorem over : Rows.modeTextsRow.holds Try.pinned (OpenSpec.ofChange Rows.modeTextsSpec) :=
  OpenClaim.holds_of_wide 6 Try.f6 rfl rfl rfl rfl rfl rfl rfl ⟨rfl, rfl, rfl, rfl, rfl⟩ rfl rfl rfl rfl rfl (by kernel_rfl) Try.func6 (by kernel_rfl)
    (of_decide_eq_true (by kernel_rfl)) (by unfold Func.isWrapper; first | (rw [if_pos (by decide +kernel)]; kernel_rfl) | (rw [if_neg (by decide +kernel)]; exact ⟨rfl, rfl⟩))
    (fun os started H enc _ => lifted os started H enc)

/-- ████ THE STATEMENT ████ -/
theorem proved : Rows.ModeTextsSaid :=
  over
end Go.Proofs.Ytcmdcbpbfjpnpaa.modeTexts
