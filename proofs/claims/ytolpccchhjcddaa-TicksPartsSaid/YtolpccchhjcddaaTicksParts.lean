
/- TicksParts returns true, for whatever times and two numbers of ticks. No condition. -/
import Derived.Test.YtolpccchhjcddaaRows
import Derived.WalkKit
import Derived.ProofKit
import Derived.OpenShut
import Derived.ShutString
import Derived.ChangeOld
import Derived.Below
import Derived.Test.YtolpccchhjcddaaTkW
namespace Go.Proofs.Ytolpccchhjcddaa.ticksParts
open Go.ChangeShapes Go.WideShapes Go.ChangeAt Go.RowKit
open Go.ChangeMaps (open_string shut_string)
set_option linter.unusedVariables false      -- a walk need not use every w

theorem own : ownKnob Try.prog.godebug = none := by kernel_rfl
theorem laidOut : laidOutB Try.prog = true := by kernel_rfl

set_option maxRecDepth 100000 in
set_option maxHeartbeats 4000000 in
theorem long (a0 : Option Addr) (len0 cap0 : Nat) (a1 a2 : Int) (w : World) (h : 30 < len0) :
    Calls Try.prog 6 #[.slice a0 len0 cap0, .int .i64 a1, .int .i64 a2] w fun e w' => e = .returned (.bool true) ∧ Below w.heap.size w w' := by
  have h' : (30 : Int) < (len0 : Int) := by omega
  go_enter Try.func6, Try.ntmps6
  go_wp2_with fail
  refine (lives_ok _).mono ?_
  rintro e w0 ⟨rfl, g0⟩
  have G0 := Lib.hid g0
  clear g0
  go_wp2
  go_ret
  exact ⟨rfl, G0.out⟩
set_option maxRecDepth 100000 in
set_option maxHeartbeats 4000000 in
theorem walk (a0 : Option Addr) (len0 cap0 : Nat) (z0 : List Int) (a1 : Int) (a2 : Int) (w : World) (w0 : IsRow .u16 w a0 len0 cap0 z0) (w1 : (Lit.int .i64 a1).wf = true) (w2 : (Lit.int .i64 a2).wf = true) :
    Calls Try.prog 6 #[.slice a0 len0 cap0, .int .i64 a1, .int .i64 a2] w fun e w' => e = .returned (.bool true) ∧ Below w.heap.size w w' := by
  by_cases hlen : 30 < len0
  · exact long a0 len0 cap0 a1 a2 w hlen
  have hlen' : ¬ (30 : Int) < (len0 : Int) := by omega
  have HR := Lib.hid w0
  have P1 := fun w => pick_any a1 500 w (by omega) (by omega)
  have P2 := fun w => pick_any a2 500 w (by omega) (by omega)
  have n0 : 0 ≤ a1 % 500 := Int.emod_nonneg _ (by omega)
  have n1 : a1 % 500 < 500 := Int.emod_lt_of_pos _ (by omega)
  have m0 : 0 ≤ a2 % 500 := Int.emod_nonneg _ (by omega)
  have m1 : a2 % 500 < 500 := Int.emod_lt_of_pos _ (by omega)
  generalize a1 % 500 = n at *
  generalize a2 % 500 = m at *
  have HP1 := Lib.hid P1
  have HP2 := Lib.hid P2
  clear P1 P2 w0 w1 w2
  go_enter Try.func6, Try.ntmps6
  go_wp2_with fail
  refine (lives_ok _).mono ?_
  rintro e wl ⟨rfl, g0⟩
  have G0 := Lib.hid g0
  clear g0
  go_wp2_with fail
  refine (HP1.out _).mono ?_
  rintro e wx ⟨rfl, rfl⟩
  go_wp2_with fail
  refine (HP2.out _).mono ?_
  rintro e wx ⟨rfl, rfl⟩
  go_wp2_with fail
  refine (acc_new w wl G0.out).mono ?_
  rintro e wa ⟨ca, Fa, rfl, ha, na, fa⟩
  have HA := Lib.hid (And.intro ha na)
  clear ha na fa
  go_wp2_with fail
  refine (acc_new w wa HA.out.1.nw).mono ?_
  rintro e wb ⟨cb, Fb, rfl, hb, nb, fb⟩
  have H0 := Lib.hid (show Two w wb ca cb 0 0 [] [] Fa Fb from ⟨HA.out.1.step nb, hb, fun k e q => by have := HA.out.1.ck.own k e; have := fb k q; omega⟩)
  clear hb nb fb
  go_wp2
  go_loopw [9] (fun vi wr => ∃ (k : Nat) (Fa Fb : Nat → Prop), vi = .int .i64 k ∧ k ≤ len0 ∧ Hid (Two w wr ca cb 0 0 (sk z0 k) (sk z0 k) Fa Fb)) (fun vi _ => len0 - (intOf vi).toNat)
  case atStart => exact ⟨0, Fa, Fb, rfl, Nat.zero_le _, H0⟩
  case round =>
    obtain ⟨k, Fa, Fb, rfl, hk, H⟩ := hrel
    by_cases hlt : k < len0
    · obtain ⟨b, o, rfl, hml, hbl, hcs, hwf⟩ := HR.out.at (by omega)
      have hc : wr.cell? ⟨b, o + k, none⟩ = some (.int .u16 (z0.getD k 0)) := (H.out.a.nw.cell hbl).trans (hcs k hlt)
      obtain ⟨z1, z2⟩ := u16_bd (hwf k hlt)
      have HE := Lib.hid (sk_setE z0 k)
      have HS := Lib.hid (sk_setS z0 k)
      have HLn := Lib.hid (sk_len z0 k)
      clear hcs hwf
      generalize z0.getD k 0 = z at *
      go_wp2_with fail
      refine (acc_set H.out.a (by rw [HLn.out]; omega) (1 + z % 1000) ((k : Int) % 3) (k : Int) 0 (sk z0 (k + 1)) HE.out HS.out).mono ?_
      rintro e wc ⟨rfl, Fa', a', f', t'⟩
      have H1 := Lib.hid (H.out.stepA a' f' t')
      clear a' f' t' hc
      go_wp2_with fail
      refine (acc_set H1.out.b (by rw [HLn.out]; omega) (1 + z % 1000) ((k : Int) % 3) (k : Int) 0 (sk z0 (k + 1)) HE.out HS.out).mono ?_
      rintro e wd ⟨rfl, Fb', b', f', t'⟩
      have H2 := Lib.hid (H1.out.stepB b' f' t')
      clear b' f' t'
      go_wp2
      go_roundw
      case rel => exact ⟨k + 1, Fa', Fb', by go_num, by omega, H2⟩
      case measure => simp [intOf]; omega
    · obtain rfl : k = len0 := by omega
      have HLn := Lib.hid (sk_len z0 k)
      have HBd := Lib.hid (sk_bd z0 k)
      generalize sk z0 k = s at *
      obtain ⟨p1, p2⟩ := due_app n (n + m) (by omega) s
      have HD := Lib.hid (And.intro p1 p2)
      have q1 := due_late_len (n + m) s
      rw [HLn.out] at q1
      have HLL := Lib.hid q1
      have l1 : (late n s).length ≤ k := by have := due_late_len n s; rw [HLn.out] at this; omega
      have HL1 := Lib.hid l1
      clear p1 p2 q1 l1
      go_wp2_with fail
      refine (passA H.out (by rw [HLn.out]; omega) n (by omega) (by omega) n (due n s) (late n s) ((passT_small 0 n (by omega) (by omega) (by omega)).trans (by omega)) rfl rfl).mono ?_
      rintro e wc ⟨vx, Fa1, rfl, h1, gx, f1, t1, o1⟩
      have H1 := Lib.hid h1
      have GX := Lib.hid gx
      clear h1 gx f1 t1 o1
      go_wp2_with fail
      refine (passA H1.out (by have := HL1.out; omega) m (by omega) (by omega) (n + m) (due (n + m) (late n s)) (late (n + m) s) (passT_small n m (by omega) (by omega) (by omega)) rfl HD.out.2).mono ?_
      rintro e wd ⟨vy, Fa2, rfl, h2, gy, f2, t2, o2⟩
      have H2 := Lib.hid h2
      have GY := Lib.hid gy
      replace GX := Lib.hid (GX.out.stepA f2 t2)
      clear h2 gy f2 t2 o2
      go_wp2_with fail
      refine (passB H2.out (by rw [HLn.out]; omega) (n + m) (by omega) (by omega) (n + m) (due (n + m) s) (late (n + m) s) ((passT_small 0 (n + m) (by omega) (by omega) (by omega)).trans (by omega)) rfl rfl).mono ?_
      rintro e we ⟨vz, Fb3, rfl, h3, gz, f3, t3, o3⟩
      have H3 := Lib.hid h3
      have GZ := Lib.hid gz
      have HXZ := Lib.hid (show ∀ i, vx.ownBlock = some i → vz.ownBlock ≠ some i from fun i e q => by have := o3 i q; have := (World.ownsRow.lt GX.out.ts i e).2; omega)
      replace GX := Lib.hid (GX.out.stepB f3 t3)
      replace GY := Lib.hid (GY.out.stepB f3 t3)
      clear h3 gz f3 t3 o3
      have l40 := HLL.out
      go_wp2_with fail
      refine (timers_any ca _ _ _ 40 _ H3.out.a.ck (by omega) (by omega) (late_bd HBd.out _)).mono ?_
      rintro e wf hw
      obtain ⟨vp, rfl, r1, r2, r3⟩ := hw
      have HXP := Lib.hid (show ∀ i, vx.ownBlock = some i → vp.ownBlock ≠ some i from fun i e q => by have := r2 i q; have := (World.ownsRow.lt GX.out.ts i e).2; omega)
      have H4 := Lib.hid (H3.out.step r3)
      have TP := Lib.hid r1
      replace GX := Lib.hid (GX.out.nw r3)
      replace GY := Lib.hid (GY.out.nw r3)
      replace GZ := Lib.hid (GZ.out.nw r3)
      clear r1 r2 r3
      go_wp2_with fail
      refine (timers_any cb _ _ _ 40 _ H4.out.b.ck (by omega) (by omega) (late_bd HBd.out _)).mono ?_
      rintro e wg hw
      obtain ⟨vq, rfl, r1, r2, r3⟩ := hw
      have HXQ := Lib.hid (show ∀ i, vx.ownBlock = some i → vq.ownBlock ≠ some i from fun i e q => by have := r2 i q; have := (World.ownsRow.lt GX.out.ts i e).2; omega)
      have H5 := Lib.hid (H4.out.step r3)
      have TQ := Lib.hid r1
      replace TP := Lib.hid (TP.out.nw r3)
      replace GX := Lib.hid (GX.out.nw r3)
      replace GY := Lib.hid (GY.out.nw r3)
      replace GZ := Lib.hid (GZ.out.nw r3)
      clear r1 r2 r3
      obtain ⟨vv, wh, hr, ts, tc⟩ := append_two wg vx vy _ _ GX.out.ts GY.out.ts (by rw [← List.length_append, HD.out.1]; omega)
      rw [HD.out.1] at ts
      have HAp := Lib.hid hr
      have TV := Lib.hid ts
      have TZ := Lib.hid (GZ.out.ts.tch tc (fun i q e => HXZ.out i e q))
      have TP1 := Lib.hid (TP.out.tch tc (fun i q e => HXP.out i e q))
      have TQ1 := Lib.hid (TQ.out.tch tc (fun i q e => HXQ.out i e q))
      have H6 := Lib.hid (show Two w wh ca cb _ _ _ _ _ _ from ⟨H5.out.a.other tc (fun i e => (GX.out.new i e).1) (fun i e q => (GX.out.new i q).2.1 e), H5.out.b.other tc (fun i e => (GX.out.new i e).1) (fun i e q => (GX.out.new i q).2.2 e), H5.out.dj⟩)
      have zf := TZ.out.form
      clear hr ts tc
      have hq : (((late (n + m) s).length : Int) == (k : Int) - ((due (n + m) s).length : Int)) = true := by simp; omega
      rcases zf with ⟨rfl, z0⟩ | ⟨gz, cz, rfl, z0⟩
      · have e0 : (late (n + m) s).length = k := by have := HLL.out; rw [z0] at this; simpa using this
        clear z0 hq l40
        go_wp2_with (at_builtin; refine wpList_append_runG (by rfl) (.tmp 108) (.tmp 109) 31 rfl _ _ _ _ rfl rfl HAp.out ?_)
        refine (same_any _ _ _ _ TV.out TZ.out).mono ?_
        rintro e wi ⟨rfl, g1⟩
        have H7 := Lib.hid (H6.out.step g1)
        have TP2 := Lib.hid (TP1.out.nw g1)
        have TQ2 := Lib.hid (TQ1.out.nw g1)
        clear g1
        go_wp2_with fail
        refine (same_any _ _ _ _ TP2.out TQ2.out).mono ?_
        rintro e wj ⟨rfl, g1⟩
        have H8 := Lib.hid (H7.out.step g1)
        clear g1
        go_wp2_with fail
        refine (now_any _ _ _ _ _ H8.out.a.ck).mono ?_
        rintro e wk ⟨rfl, rfl⟩
        go_wp2_with fail
        refine (now_any _ _ _ _ _ H8.out.b.ck).mono ?_
        rintro e wk ⟨rfl, rfl⟩
        go_wp2_with fail
        refine (clen_any _ _ _ _ _ H8.out.a.ck).mono ?_
        rintro e wk ⟨rfl, rfl⟩
        go_wp2
        go_ret
        exact ⟨rfl, H8.out.a.nw⟩
      · clear z0
        go_wp2_with (at_builtin; refine wpList_append_runG (by rfl) (.tmp 108) (.tmp 109) 31 rfl _ _ _ _ rfl rfl HAp.out ?_)
        refine (same_any _ _ _ _ TV.out TZ.out).mono ?_
        rintro e wi ⟨rfl, g1⟩
        have H7 := Lib.hid (H6.out.step g1)
        have TP2 := Lib.hid (TP1.out.nw g1)
        have TQ2 := Lib.hid (TQ1.out.nw g1)
        clear g1
        go_wp2_with fail
        refine (same_any _ _ _ _ TP2.out TQ2.out).mono ?_
        rintro e wj ⟨rfl, g1⟩
        have H8 := Lib.hid (H7.out.step g1)
        clear g1
        go_wp2_with fail
        refine (now_any _ _ _ _ _ H8.out.a.ck).mono ?_
        rintro e wk ⟨rfl, rfl⟩
        go_wp2_with fail
        refine (now_any _ _ _ _ _ H8.out.b.ck).mono ?_
        rintro e wk ⟨rfl, rfl⟩
        go_wp2_with fail
        refine (clen_any _ _ _ _ _ H8.out.a.ck).mono ?_
        rintro e wk ⟨rfl, rfl⟩
        go_wp2
        go_ret
        exact ⟨rfl, H8.out.a.nw⟩

/-! ### THE ROW's STEP: WRITTEN OUT: LEAVE IT -/
set_option maxRecDepth 100000 in
theorem lifted (os : Os) (started : os.Started) (H : Type) (enc : TypeId × Value → H) :
    ReturnsInHanded {} Try.checked os 6 .any (Rows.ticksPartsSpec.pre6 enc Try.prog Try.f6 Rows.ticksPartsRow.domain false) (Rows.ticksPartsSpec.post enc Try.prog Try.f6 false true false false) := by
  refine returnsInHanded_of_change (C := Try.checked) own started (by kernel_rfl) Try.func6
    (ChangeSpec.witness6 (enc := enc) (C := Try.checked) false ⟨#[], #[.slice none 0 0, .int .i64 0, .int .i64 0], []⟩ 8 (by kernel_rfl) (by kernel_rfl) (by kernel_rfl) (by kernel_rfl)) ?_
  intro W base args ds gs before hval0 hW hcnd _
  have hval : ∀ (j : Nat) t v, Try.f6.params[j]? = some t → args[j]? = some v → Value.okWide Try.prog W .any base t v := hval0
  have hW' := hW
  obtain ⟨p, q, hA0, hV, rfl, hfz, hnd⟩ := hW
  have hA : DataW.TrodAll enc Try.prog W 0 (fun _ => true) true Try.f6.params.toList args.toList ds p := hA0
  rw [Try.params6] at hA hval
  obtain ⟨v0, vs0, d0, ds0, p0, q0, hargs, rfl, rfl, h0, r0⟩ := trodAll_cons hA
  obtain ⟨v1, vs1, d1, ds1, p1, q1, rfl, rfl, rfl, h1, r1⟩ := trodAll_cons r0
  obtain ⟨v2, vs2, d2, ds2, p2, q2, rfl, rfl, rfl, h2, r2⟩ := trodAll_cons r1
  obtain ⟨rfl, rfl, rfl⟩ := trodAll_nil r2
  obtain rfl : args = #[v0, v1, v2] := by cases args; simp_all
  obtain ⟨rfl, rfl⟩ := trodVars_none hV
  obtain ⟨a0, len0, cap0, rfl⟩ := okWide_slice Try.underlying48 (hval 0 48 v0 rfl rfl)
  have k0 := h0
  have lt0 : ∀ x ∈ p0, x.block < W.heap.size := by obtain ⟨m, hm⟩ := k0; exact DataW.trod_lt m _ _ _ hm
  obtain ⟨z0, w0⟩ : ∃ zs, IsRow .u16 W a0 len0 cap0 zs := by
    obtain ⟨fuel, hf⟩ := h0
    rcases open_ints Try.underlying48 Try.underlying52 (by kernel_rfl) hf with ⟨hcs, _⟩ | ⟨x, l, c, zs, hcs, _, hl, hm, hz, _, hcell, hwz⟩
    · simp [Value.cells] at hcs
      obtain ⟨rfl, rfl, rfl⟩ := hcs
      exact ⟨[], .inl ⟨rfl, rfl, rfl, rfl⟩⟩
    · simp [Value.cells] at hcs
      obtain ⟨rfl, rfl, rfl⟩ := hcs
      exact ⟨zs, .inr ⟨_, rfl, hl, hm, by simpa using hz, hcell, hwz⟩⟩
  obtain ⟨a1, rfl, rfl, rfl, w1⟩ := open_int Try.underlying3 (hval 1 3 v1 rfl rfl) h1
  obtain ⟨a2, rfl, rfl, rfl, w2⟩ := open_int Try.underlying3 (hval 2 3 v2 rfl rfl) h2
  clear hA0 hval0
  refine (walk a0 len0 cap0 z0 a1 a2 W w0 w1 w2).mono fun e W' ⟨he, bel⟩ => ?_
  subst he
  exact ⟨_, rfl, _, _, _, [], _, [], hW', trodAll_mk1 (shut_bool Try.underlying4 _), (trodAll_cons_mk (Below.trod laidOut (by kernel_rfl) (of_decide_eq_true (by kernel_rfl)) k0 bel lt0) (trodAll_cons_mk (shut_int Try.underlying3 w1) (trodAll_cons_mk (shut_int Try.underlying3 w2) trodAll_mk0))), rfl, bel.frame _, fun h => by cases h⟩

theorem over : Rows.ticksPartsRow.holds Try.pinned (OpenSpec.ofChange Rows.ticksPartsSpec) :=
  OpenClaim.holds_of_wide 6 Try.f6 rfl rfl rfl rfl rfl rfl rfl ⟨rfl, rfl, rfl, rfl, rfl⟩ rfl rfl rfl rfl rfl (by kernel_rfl) Try.func6 (by kernel_rfl)
    (of_decide_eq_true (by kernel_rfl)) (by unfold Func.isWrapper; first | (rw [if_pos (by decide +kernel)]; kernel_rfl) | (rw [if_neg (by decide +kernel)]; exact ⟨rfl, rfl⟩))
    (fun os started H enc _ => lifted os started H enc)

/-- ████ THE STATEMENT ████ -/
theorem proved : Rows.TicksPartsSaid := over
end Go.Proofs.Ytolpccchhjcddaa.ticksParts
