
/- TicksNames returns true. No condition. -/
import Derived.Test.YtolpccchhjcddaaRows
import Derived.WalkKit
import Derived.ProofKit
import Derived.OpenShut
import Derived.ShutString
import Derived.Test.YtolpccchhjcddaaTkS
namespace Go.Proofs.Ytolpccchhjcddaa.ticksNames
open Go.ChangeShapes Go.WideShapes Go.ChangeAt Go.RowKit
open Go.ChangeMaps (open_string shut_string)
set_option linter.unusedVariables false      -- a walk need not use every w

theorem own : ownKnob Try.prog.godebug = none := by kernel_rfl

theorem next_two (w : World) (c : Nat) (t : Int) (s : List Tm) (a : Tm) (F : Nat → Prop) (W : World) (h : Acc w W c t (a :: s) F) (hs : (a :: s).length ≤ 100000) :
    Calls Try.prog 10 #[.pointer (some ⟨c, 0, none⟩)] W fun e W' => e = .returned (.tuple #[.agg #[.int .i64 a.1, .int .i64 a.2.1, .int .i64 a.2.2], .bool true]) ∧ Nw W W' :=
  next_any c t (a :: s) F W h.ck hs
theorem next_none (w : World) (c : Nat) (t : Int) (F : Nat → Prop) (W : World) (h : Acc w W c t [] F) :
    Calls Try.prog 10 #[.pointer (some ⟨c, 0, none⟩)] W fun e W' => e = .returned (.tuple #[.agg #[.int .i64 0, .int .i64 0, .int .i64 0], .bool false]) ∧ Nw W W' :=
  next_any c t [] F W h.ck (by simp)
theorem next_z (W : World) : Calls Try.prog 10 #[.pointer none] W fun e W' => e = .returned (.tuple #[.agg #[.int .i64 0, .int .i64 0, .int .i64 0], .bool false]) ∧ Nw W W' := next_nil W
theorem self_of {w W : World} {c : Nat} {t : Int} {s : List Tm} {F : Nat → Prop} (h : Acc w W c t s F) : W.cell? ⟨c, 0, none⟩ = some (.pointer (some ⟨c, 0, none⟩)) := by
  obtain ⟨v, l, k, rfl⟩ := h.ck; exact k.self

/-- A box that holds a timer, of no clock. -/
structure Bx (W : World) (b : Nat) (x : Tm) (F : Nat → Prop) : Prop where
  c0 : W.cell? ⟨b, 0, none⟩ = some (.int .i64 x.1)
  c1 : W.cell? ⟨b, 1, none⟩ = some (.int .i64 x.2.1)
  c2 : W.cell? ⟨b, 2, none⟩ = some (.int .i64 x.2.2)
  lt : b < W.heap.size
  out : ¬ F b
theorem Bx.tch {W W' : World} {b : Nat} {x : Tm} {F F' : Nat → Prop} (h : Bx W b x F) (k : Tch F W W') (hF : ∀ i, F' i → F i ∨ W.heap.size ≤ i) : Bx W' b x F' :=
  ⟨(k.cell h.lt h.out).trans h.c0, (k.cell h.lt h.out).trans h.c1, (k.cell h.lt h.out).trans h.c2, Nat.lt_of_lt_of_le h.lt k.size, fun e => (hF b e).elim h.out (fun q => by have := h.lt; omega)⟩
theorem Bx.nw {W W' : World} {b : Nat} {x : Tm} {F : Nat → Prop} (h : Bx W b x F) (k : Nw W W') : Bx W' b x F := h.tch (Tch.nw k) (fun _ e => .inl e)
theorem bx_new {w W : World} {c : Nat} {t : Int} {s : List Tm} {F : Nat → Prop} (h : Acc w W c t s F) (x : Tm) (T : TypeId) (W' : World) (hW : W.alloc (.cells #[.int .i64 x.1, .int .i64 x.2.1, .int .i64 x.2.2] T) = W') : Acc w W' c t s F ∧ Bx W' W.heap.size x F ∧ Nw W W' := by
  subst hW
  exact ⟨h.step ((Nw.refl _).alloc _), ⟨by simp [go_sem], by simp [go_sem], by simp [go_sem], by simp, fun e => by have := h.ck.own _ e; omega⟩, (Nw.refl _).alloc _⟩

set_option maxRecDepth 100000 in
set_option maxHeartbeats 4000000 in
theorem walk (w : World) : Calls Try.prog 3 #[] w fun e w' => e = .returned (.bool true) ∧ Nw w w' := by
  go_enter Try.func3, Try.ntmps3
  go_wp2_with fail
  refine (lives_ok _).mono ?_
  rintro e w0 ⟨rfl, g0⟩
  have G0 := Lib.hid g0
  clear g0
  go_wp2_with fail
  refine (acc_new w w0 G0.out).mono ?_
  rintro e w1 ⟨c, F1, rfl, h, _, _⟩
  have H := Lib.hid h
  clear h
  go_wp2_with fail
  refine (acc_set H.out (by simp) (0) (1) (1) (2) [] (by decide) (by decide)).mono ?_
  rintro e w2 ⟨rfl, F2, h, _, _⟩
  replace H := Lib.hid h
  clear h
  go_wp2_with fail
  refine (acc_set H.out (by simp) (5) (1) (1) (0) [(5, 1, 1)] (by decide) (by decide)).mono ?_
  rintro e w2 ⟨rfl, F2, h, _, _⟩
  replace H := Lib.hid h
  clear h
  go_wp2_with fail
  refine (acc_set H.out (by simp) (6) (1) (1) (4) [(5, 1, 1)] (by decide) (by decide)).mono ?_
  rintro e w2 ⟨rfl, F2, h, _, _⟩
  replace H := Lib.hid h
  clear h
  go_wp2_with fail
  refine (acc_set H.out (by simp) (5) (1) (0) (0) [(5, 1, 0), (5, 1, 1)] (by decide) (by decide)).mono ?_
  rintro e w2 ⟨rfl, F2, h, _, _⟩
  replace H := Lib.hid h
  clear h
  go_wp2_with fail
  refine (next_two w _ _ [(5, 1, 1)] (5, 1, 0) _ _ H.out (by simp)).mono ?_
  rintro e w2 ⟨rfl, g⟩
  replace H := Lib.hid (H.out.step g)
  clear g
  go_wp2_with fail
  obtain ⟨wb, hwb⟩ : ∃ wb, w2.alloc (.cells #[.int .i64 5, .int .i64 1, .int .i64 0] 28) = wb := ⟨_, rfl⟩
  have hb := bx_new H.out (5, 1, 0) _ wb hwb
  rw [hwb]
  replace H := Lib.hid hb.1
  have B := Lib.hid hb.2.1
  clear hb hwb
  generalize w2.heap.size = b at *
  go_wp2_with fail
  refine (pass_bad _ (-1) _ (self_of H.out) (by omega)).mono ?_
  rintro e w2 ⟨rfl, rfl⟩
  go_wp2_with fail
  refine (pass_bad _ 1001 _ (self_of H.out) (by omega)).mono ?_
  rintro e w2 ⟨rfl, rfl⟩
  go_wp2_with fail
  refine (acc_drop H.out (by simp) 1 0 true [(5, 1, 1)] (by decide) (by decide)).mono ?_
  rintro e w2 ⟨rfl, F2, h, f2, t2⟩
  replace H := Lib.hid h
  replace B := Lib.hid (B.out.tch t2 f2)
  clear h f2 t2
  go_wp2_with fail
  refine (acc_drop H.out (by simp) 1 0 false [(5, 1, 1)] (by decide) (by decide)).mono ?_
  rintro e w2 ⟨rfl, F2, h, f2, t2⟩
  replace H := Lib.hid h
  replace B := Lib.hid (B.out.tch t2 f2)
  clear h f2 t2
  go_wp2_with fail
  refine (acc_pass H.out (by simp) 1000 (by omega) (by omega) 1000 [(5, 1, 1)] [] (by decide) (by decide) (by decide)).mono ?_
  rintro e w2 ⟨v, F3, rfl, g, h, f2, t2⟩
  replace H := Lib.hid h
  have G := Lib.hid g
  replace B := Lib.hid (B.out.tch t2 (fun k e => .inl (f2 k e)))
  clear h g f2 t2
  go_wp2_with fail
  refine (next_none w _ _ _ _ H.out).mono ?_
  rintro e w2 ⟨rfl, g⟩
  replace H := Lib.hid (H.out.step g)
  have G1 := Lib.hid (G.out.ts.nw g)
  replace B := Lib.hid (B.out.nw g)
  clear g
  go_wp2_with fail
  obtain ⟨wc, hwc⟩ : ∃ wc, w2.alloc (.cells #[.int .i64 0, .int .i64 0, .int .i64 0] 28) = wc := ⟨_, rfl⟩
  have hb := bx_new H.out (0, 0, 0) _ wc hwc
  rw [hwc]
  replace H := Lib.hid hb.1
  replace B := Lib.hid (B.out.nw hb.2.2)
  replace G1 := Lib.hid (G1.out.nw hb.2.2)
  clear hb hwc
  refine (pass_nil 1 _).mono ?_
  rintro e w3 ⟨rfl, rfl⟩
  go_wp2_with fail
  refine (next_z _).mono ?_
  rintro e w3 ⟨rfl, g⟩
  replace H := Lib.hid (H.out.step g)
  replace G1 := Lib.hid (G1.out.nw g)
  replace B := Lib.hid (B.out.nw g)
  clear g
  have b0 := B.out.c0
  have b1 := B.out.c1
  have b2 := B.out.c2
  have bl := B.out.lt
  simp only at b0 b1 b2
  have T1 : TS ((w3.alloc (.cells #[.int .i64 0, .int .i64 0, .int .i64 0] 28)).alloc (.cells #[.int .i64 5, .int .i64 1, .int .i64 1] 28)) (.slice (some ⟨w3.heap.size + 1, 0, none⟩) 1 1) [(5, 1, 1)] := by
    have := ts_one (w3.alloc (.cells #[.int .i64 0, .int .i64 0, .int .i64 0] 28)) (5, 1, 1)
    rwa [World.size_alloc] at this
  have HT := Lib.hid T1
  clear T1
  go_wp2_with fail
  refine (same_any _ _ _ [(5, 1, 1)] (G1.out.nw (((Nw.refl _).alloc _).alloc _)) HT.out).mono ?_
  rintro e w4 ⟨rfl, g⟩
  replace H := Lib.hid (H.out.step ((((Nw.refl _).alloc _).alloc _).trans g))
  clear g b0 b1 b2 bl
  go_wp2_with fail
  refine (now_any _ _ _ _ _ H.out.ck).mono ?_
  rintro e w5 ⟨rfl, rfl⟩
  go_wp2_with fail
  refine (show Calls _ _ _ _ (fun e w' => e = .returned (.int .i64 0) ∧ w4 = w') from clen_any _ _ [] _ _ H.out.ck).mono ?_
  rintro e w5 ⟨rfl, rfl⟩
  go_wp2_with fail
  refine (now_nil _).mono ?_
  rintro e w5 ⟨rfl, rfl⟩
  go_wp2_with fail
  refine (set_nil _ _ _ _).mono ?_
  rintro e w5 ⟨rfl, rfl⟩
  go_wp2_with fail
  refine (drop_nil _ _ _).mono ?_
  rintro e w5 ⟨rfl, rfl⟩
  go_wp2_with fail
  refine (clen_nil _).mono ?_
  rintro e w5 ⟨rfl, rfl⟩
  go_wp2
  go_ret
  exact ⟨rfl, H.out.nw⟩

/-! ### THE ROW's STEP: WRITTEN OUT: LEAVE IT -/
set_option maxRecDepth 100000 in
theorem lifted (os : Os) (started : os.Started) (H : Type) (enc : TypeId × Value → H) :
    ReturnsInHanded {} Try.checked os 3 .any (Rows.ticksNamesSpec.pre6 enc Try.prog Try.f3 Rows.ticksNamesRow.domain false) (Rows.ticksNamesSpec.post enc Try.prog Try.f3 false true false false) := by
  refine returnsInHanded_of_change (C := Try.checked) own started (by kernel_rfl) Try.func3
    (ChangeSpec.witness6 (enc := enc) (C := Try.checked) false ⟨#[], #[], []⟩ 8 (by kernel_rfl) (by kernel_rfl) (by kernel_rfl) (by kernel_rfl)) ?_
  intro W base args ds gs before hval0 hW hcnd _
  have hval : ∀ (j : Nat) t v, Try.f3.params[j]? = some t → args[j]? = some v → Value.okWide Try.prog W .any base t v := hval0
  have hW' := hW
  obtain ⟨p, q, hA0, hV, rfl, hfz, hnd⟩ := hW
  have hA : DataW.TrodAll enc Try.prog W 0 (fun _ => true) true Try.f3.params.toList args.toList ds p := hA0
  rw [Try.params3] at hA hval
  obtain ⟨rfl, rfl, rfl⟩ := trodAll_none hA
  obtain ⟨rfl, rfl⟩ := trodVars_none hV
  clear hA0 hval0
  refine (walk  W).mono fun e W' ⟨he, hg⟩ => ?_
  subst he
  exact ⟨_, rfl, _, _, _, [], _, [], hW', trodAll_mk1 (shut_bool Try.underlying4 _), rfl, rfl, Below.frame hg _, fun h => by cases h⟩

theorem over : Rows.ticksNamesRow.holds Try.pinned (OpenSpec.ofChange Rows.ticksNamesSpec) :=
  OpenClaim.holds_of_wide 3 Try.f3 rfl rfl rfl rfl rfl rfl rfl ⟨rfl, rfl, rfl, rfl, rfl⟩ rfl rfl rfl rfl rfl (by kernel_rfl) Try.func3 (by kernel_rfl)
    (of_decide_eq_true (by kernel_rfl)) (by unfold Func.isWrapper; first | (rw [if_pos (by decide +kernel)]; kernel_rfl) | (rw [if_neg (by decide +kernel)]; exact ⟨rfl, rfl⟩))
    (fun os started H enc _ => lifted os started H enc)

/-- ████ THE STATEMENT ████ -/
theorem proved : Rows.TicksNamesSaid :=
  over
end Go.Proofs.Ytolpccchhjcddaa.ticksNames
