
/- StripeSums returns true for every string and every two bytes. No condition. -/
import Derived.Test.YtcffpbikjeimgaaRows
import Derived.WalkKit
import Derived.ProofKit
import Derived.OpenShut
import Derived.ShutString
import Derived.Test.YtcffpbikjeimgaaSum
namespace Go.Proofs.Ytcffpbikjeimgaa.stripeSums
open Go.ChangeShapes Go.WideShapes Go.ChangeAt Go.RowKit
open Go.ChangeMaps (open_string shut_string)
set_option linter.unusedVariables false      -- a walk need not use every w

theorem own : ownKnob Try.prog.godebug = none := by kernel_rfl

theorem lives_ok (w : World) : Calls Try.prog 4 #[] w fun e w' => e = .returned (.bool true) ∧ Nw w w' := by
  go_enter Try.func4, Try.ntmps4
  go_wp2_with fail
  refine (sum_any ⟨#[97]⟩ _ (by decide)).mono ?_
  rintro e w1 ⟨rfl, hG⟩
  rw [show (⟨#[97]⟩ : ByteArray).data.toList = [97] from rfl, fnv_a]
  go_wp2_with fail
  refine (sum_any ⟨#[]⟩ _ (by decide)).mono ?_
  rintro e w2 ⟨rfl, hg⟩
  rw [show fnv (⟨#[]⟩ : ByteArray).data.toList = 2166136261 from rfl]
  go_wp2
  go_ret
  exact ⟨rfl, hG.trans hg⟩

theorem conv1 (w : World) (c : UInt8) : (convert 25 9 (.slice (some ⟨w.heap.size, 0, none⟩) 1 1)).run Try.prog (w.alloc (.cells #[.int .u8 (c.toNat : Int)] 5)) = .ok (.string ⟨#[c]⟩) (w.alloc (.cells #[.int .u8 (c.toNat : Int)] 5)) :=
  run_convert_bytes_back (w.alloc (.cells #[.int .u8 (c.toNat : Int)] 5)) 25 9 5 ⟨w.heap.size, 0, none⟩ 1 [c] Try.underlying25 Try.underlying5 Try.underlying9 (fun j hj => by
    have : j = 0 := by simp at hj; omega
    subst this
    simp [Addr.add, go_sem])
theorem fnv_more (s : ByteArray) (c : UInt8) : fnv (s ++ (⟨#[c]⟩ : ByteArray)).data.toList = fnv1 (fnv s.data.toList) c := by
  rw [ByteArray.data_append, Array.toList_append, fnv_snoc]
theorem size_more (s : ByteArray) (c : UInt8) : (s ++ (⟨#[c]⟩ : ByteArray)).size = s.size + 1 := by
  rw [ByteArray.size_append]; rfl

theorem way (s : ByteArray) (c d : UInt8) (x : Bool) (hs : s.size ≤ 1000) (hx : (fnv1 (fnv s.data.toList) c == fnv1 (fnv s.data.toList) d) = x) (hy : ((c.toNat : Int) == (d.toNat : Int)) = x) (w : World) :
    Calls Try.prog 3 #[.string s, .int .u8 c.toNat, .int .u8 d.toNat] w fun e w' => e = .returned (.bool true) ∧ Below w.heap.size w w' := by
  have hs' : (s.size : Int) ≤ 1000 := by omega
  have g1 : ¬ 9223372036854775807 < s.size + 1 := by omega
  have kc := conv1
  have HX := Lib.hid hx
  clear hx
  go_enter Try.func3, Try.ntmps3
  go_wp2_with fail
  refine (lives_ok _).mono ?_
  rintro e w1 ⟨rfl, hG⟩
  go_wp2_with fail
  refine (sum_any (s ++ (⟨#[c]⟩ : ByteArray)) _ (by rw [size_more]; omega)).mono ?_
  rintro e w2 ⟨rfl, hg2⟩
  rw [fnv_more]
  go_wp2_with fail
  refine (sum_any (s ++ (⟨#[d]⟩ : ByteArray)) _ (by rw [size_more]; omega)).mono ?_
  rintro e w3 ⟨rfl, hg3⟩
  rw [fnv_more]
  go_wp2_with fail
  refine (sum_any s _ (by omega)).mono ?_
  rintro e w4 ⟨rfl, hg4⟩
  have e1 : bits .xor .u32 (fnv s.data.toList) (c.toNat : Int) * 16777619 % 4294967296 = fnv1 (fnv s.data.toList) c := rfl
  have hx := HX.out
  have eb := fnv_byte c
  clear kc HX
  generalize fnv1 (fnv s.data.toList) c = A at *
  generalize fnv1 (fnv s.data.toList) d = B at *
  generalize fnv s.data.toList = H at *
  go_wp2
  go_ret
  exact ⟨rfl, (((hG.alloc _).trans hg2).alloc _).trans (hg3.trans hg4)⟩

theorem walk (a0 : ByteArray) (a1 : Int) (a2 : Int) (w0 : a0.size ≤ maxLen) (w1 : (Lit.int .u8 a1).wf = true) (w2 : (Lit.int .u8 a2).wf = true) (w : World) :
    Calls Try.prog 3 #[.string a0, .int .u8 a1, .int .u8 a2] w fun e w' => e = .returned (.bool true) ∧ Below w.heap.size w w' := by
  by_cases hs : a0.size ≤ 1000
  · have h1 : 0 ≤ a1 ∧ a1 < 256 := by simp [Lit.wf, IntKind.min, IntKind.max, IntKind.signed, IntKind.bits] at w1; omega
    have h2 : 0 ≤ a2 ∧ a2 < 256 := by simp [Lit.wf, IntKind.min, IntKind.max, IntKind.signed, IntKind.bits] at w2; omega
    obtain ⟨i, rfl⟩ := Int.eq_ofNat_of_zero_le h1.1
    obtain ⟨j, rfl⟩ := Int.eq_ofNat_of_zero_le h2.1
    have ei : (UInt8.ofNat i).toNat = i := by simp [UInt8.toNat_ofNat']; omega
    have ej : (UInt8.ofNat j).toNat = j := by simp [UInt8.toNat_ofNat']; omega
    have H := fnv_range a0.data.toList
    have := way a0 (UInt8.ofNat i) (UInt8.ofNat j) _ hs rfl (by
      rw [Bool.eq_iff_iff, beq_iff_eq, beq_iff_eq, fnv1_inj _ H.1 H.2, Int.natCast_inj, UInt8.toNat_inj]) w
    rwa [ei, ej] at this
  · have hs' : ¬ (a0.size : Int) ≤ 1000 := by omega
    go_enter Try.func3, Try.ntmps3
    go_wp2_with fail
    refine (lives_ok _).mono ?_
    rintro e w1 ⟨rfl, hG⟩
    go_wp2
    go_ret
    exact ⟨rfl, hG⟩

/-! ### THE ROW's STEP: WRITTEN OUT: LEAVE IT -/
set_option maxRecDepth 100000 in
theorem lifted (os : Os) (started : os.Started) (H : Type) (enc : TypeId × Value → H) :
    ReturnsInHanded {} Try.checked os 3 .any (Rows.stripeSumsSpec.pre6 enc Try.prog Try.f3 Rows.stripeSumsRow.domain false) (Rows.stripeSumsSpec.post enc Try.prog Try.f3 false true false false) := by
  refine returnsInHanded_of_change (C := Try.checked) own started (by kernel_rfl) Try.func3
    (ChangeSpec.witness6 (enc := enc) (C := Try.checked) false ⟨#[], #[.string ByteArray.empty, .int .u8 0, .int .u8 0], []⟩ 8 (by kernel_rfl) (by kernel_rfl) (by kernel_rfl) (by kernel_rfl)) ?_
  intro W base args ds gs before hval0 hW hcnd _
  have hval : ∀ (j : Nat) t v, Try.f3.params[j]? = some t → args[j]? = some v → Value.okWide Try.prog W .any base t v := hval0
  have hW' := hW
  obtain ⟨p, q, hA0, hV, rfl, hfz, hnd⟩ := hW
  have hA : DataW.TrodAll enc Try.prog W 0 (fun _ => true) true Try.f3.params.toList args.toList ds p := hA0
  rw [Try.params3] at hA hval
  obtain ⟨v0, vs0, d0, ds0, p0, q0, hargs, rfl, rfl, h0, r0⟩ := trodAll_cons hA
  obtain ⟨v1, vs1, d1, ds1, p1, q1, rfl, rfl, rfl, h1, r1⟩ := trodAll_cons r0
  obtain ⟨v2, vs2, d2, ds2, p2, q2, rfl, rfl, rfl, h2, r2⟩ := trodAll_cons r1
  obtain ⟨rfl, rfl, rfl⟩ := trodAll_nil r2
  obtain rfl : args = #[v0, v1, v2] := by cases args; simp_all
  obtain ⟨rfl, rfl⟩ := trodVars_none hV
  obtain ⟨a0, rfl, rfl, rfl, w0⟩ := open_string Try.underlying9 (hval 0 9 v0 rfl rfl) h0
  obtain ⟨a1, rfl, rfl, rfl, w1⟩ := open_int Try.underlying5 (hval 1 5 v1 rfl rfl) h1
  obtain ⟨a2, rfl, rfl, rfl, w2⟩ := open_int Try.underlying5 (hval 2 5 v2 rfl rfl) h2
  clear hA0 hval0
  refine (walk a0 a1 a2 w0 w1 w2 W).mono fun e W' ⟨he, hg⟩ => ?_
  subst he
  exact ⟨_, rfl, _, _, _, [], _, [], hW', trodAll_mk1 (shut_bool Try.underlying4 _), (trodAll_cons_mk (shut_string Try.underlying9 w0) (trodAll_cons_mk (shut_int Try.underlying5 w1) (trodAll_cons_mk (shut_int Try.underlying5 w2) trodAll_mk0))), rfl, Below.frame hg _, fun h => by cases h⟩

theorem over : Rows.stripeSumsRow.holds Try.pinned (OpenSpec.ofChange Rows.stripeSumsSpec) :=
  OpenClaim.holds_of_wide 3 Try.f3 rfl rfl rfl rfl rfl rfl rfl ⟨rfl, rfl, rfl, rfl, rfl⟩ rfl rfl rfl rfl rfl (by kernel_rfl) Try.func3 (by kernel_rfl)
    (of_decide_eq_true (by kernel_rfl)) (by unfold Func.isWrapper; first | (rw [if_pos (by decide +kernel)]; kernel_rfl) | (rw [if_neg (by decide +kernel)]; exact ⟨rfl, rfl⟩))
    (fun os started H enc _ => lifted os started H enc)

/-- ████ THE STATEMENT ████ -/
theorem proved : Rows.StripeSumsSaid :=
  over
end Go.Proofs.Ytcffpbikjeimgaa.stripeSums
