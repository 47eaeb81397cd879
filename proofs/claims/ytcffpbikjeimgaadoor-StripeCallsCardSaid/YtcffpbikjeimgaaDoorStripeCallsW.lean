
/- The walk of StripeCalls. -/
import Derived.Test.YtcffpbikjeimgaaDoorStripeAllW
namespace Go.Proofs.YtcffpbikjeimgaaDoor.stripeCalls
open Go.ChangeShapes Go.WideShapes Go.ChangeAt Go.RowKit
open Go.Proofs.YtcffpbikjeimgaaDoor.stripeAll (Names.at)
set_option linter.unusedVariables false      -- a walk need not use every fact
/-- What Spread answers. -/
def Good (w : World) (v : Value) (zs : List (Int × Int)) (x : Int) : Prop :=
  (∃ b, v = .slice (some ⟨b, 0, none⟩) (cnts zs x).length (cnts zs x).length ∧ ICells w b 0 (cnts zs x)) ∧ (1 ≤ x ∧ x ≤ 16) ∨ v = .slice none 0 0 ∧ ¬ (1 ≤ x ∧ x ≤ 16)
theorem Good.grown {w w' : World} {v : Value} {zs : List (Int × Int)} {x : Int} (h : Good w v zs x) (g : Nw w w') : Good w' v zs x :=
  h.imp (fun ⟨⟨b, e, hi⟩, hx⟩ => ⟨⟨b, e, hi.grown g⟩, hx⟩) id
theorem good_of {w w' : World} {zs : List (Int × Int)} {N : Nat} {e : Ending} (h0 : 1 ≤ N) (h1 : N ≤ 16) (h : NewInts w (cnts zs N) e w') : ∃ u, e = .returned u ∧ Good w' u zs N ∧ Nw w w' := by
  obtain ⟨b, he, hi, _, hg⟩ := h
  exact ⟨_, he, .inl ⟨⟨b, rfl, hi⟩, by omega, by omega⟩, hg⟩
theorem good (v : Value) (zs : List (Int × Int)) (x : Int) (w : World) (hv : Names w v zs) (hl : zs.length ≤ 1000) :
    Calls Tryd.prog 13 #[v, .int .i64 x] w fun e w' => ∃ u, e = .returned u ∧ Good w' u zs x ∧ Nw w w' := by
  by_cases hx : 1 ≤ x ∧ x ≤ 16
  · obtain ⟨N, rfl⟩ := Int.eq_ofNat_of_zero_le (show 0 ≤ x by omega)
    exact (spread_any v zs N w hv hl (by omega) (by omega)).mono fun e w' h => good_of (by omega) (by omega) h
  · exact (spread_out v x w hx).mono fun e w' ⟨he, hg⟩ => ⟨_, he, .inr ⟨rfl, hx⟩, hg⟩
theorem goodRef (v : Value) (zs : List (Int × Int)) (x : Int) (w : World) (hv : Names w v zs) (hl : zs.length ≤ 1000) :
    Calls Tryd.prog 20 #[v, .int .i64 x] w fun e w' => ∃ u, e = .returned u ∧ Good w' u zs x ∧ Nw w w' := by
  by_cases hx : 1 ≤ x ∧ x ≤ 16
  · obtain ⟨N, rfl⟩ := Int.eq_ofNat_of_zero_le (show 0 ≤ x by omega)
    exact (refSpread_any v zs N w hv hl (by omega) (by omega)).mono fun e w' h => good_of (by omega) (by omega) h
  · exact (refSpread_out v x w hx).mono fun e w' ⟨he, hg⟩ => ⟨_, he, .inr ⟨rfl, hx⟩, hg⟩
theorem goodSame (v u : Value) (zs : List (Int × Int)) (x : Int) (w : World) (h : Good w v zs x) (h' : Good w u zs x) :
    Calls Tryd.prog 14 #[v, u] w fun e w' => e = .returned (.bool true) ∧ Nw w w' := by
  rcases h with ⟨⟨b, rfl, hi⟩, hx⟩ | ⟨rfl, hx⟩ <;> rcases h' with ⟨⟨b', rfl, hi'⟩, hx'⟩ | ⟨rfl, hx'⟩
  · exact same_ints b 0 _ b' 0 _ _ w hi hi' (by rw [cnts_len]; omega)
  · exact absurd hx hx'
  · exact absurd hx' hx
  · exact same_ints_nil none none 0 0 w
set_option maxRecDepth 10000 in
set_option maxHeartbeats 8000000 in
theorem way (s : ByteArray) (a0 b0 a1 b1 : Int) (a : Option Addr) (n c : Nat) (zs : List (Int × Int)) (x : Int) (w : World) (hs : s.size ≤ 1000) (hn : n ≤ 100) (hz : zs.length ≤ 1000) (v0 : Int) (r0 : Hid (∀ w, Calls Tryd.prog 10 #[.string s] w fun E w' => E = .returned (.int .u32 v0) ∧ Nw w w')) (t0 : Hid (∀ w, Calls Tryd.prog 15 #[.string s] w fun E w' => E = .returned (.int .u32 v0) ∧ Nw w w')) (v1 : Int) (r1 : Hid (∀ w, Calls Tryd.prog 9 #[.agg #[.int .i64 a0, .int .i64 b0]] w fun E w' => E = .returned (.int .u32 v1) ∧ Nw w w')) (t1 : Hid (∀ w, Calls Tryd.prog 16 #[.agg #[.int .i64 a0, .int .i64 b0]] w fun E w' => E = .returned (.int .u32 v1) ∧ Nw w w')) (v2 : Int) (r2 : Hid (∀ w, Calls Tryd.prog 11 #[.agg #[.int .i64 a0, .int .i64 b0], .int .i64 x] w fun E w' => E = .returned (.int .i64 v2) ∧ Nw w w')) (t2 : Hid (∀ w, Calls Tryd.prog 17 #[.agg #[.int .i64 a0, .int .i64 b0], .int .i64 x] w fun E w' => E = .returned (.int .i64 v2) ∧ Nw w w')) (v3 : Bool) (r3 : Hid (∀ w, Calls Tryd.prog 12 #[.agg #[.int .i64 a0, .int .i64 b0], .agg #[.int .i64 a1, .int .i64 b1], .int .i64 x] w fun E w' => E = .returned (.bool v3) ∧ Nw w w')) (t3 : Hid (∀ w, Calls Tryd.prog 18 #[.agg #[.int .i64 a0, .int .i64 b0], .agg #[.int .i64 a1, .int .i64 b1], .int .i64 x] w fun E w' => E = .returned (.bool v3) ∧ Nw w w'))
    (OW : Hid (∀ w1, Nw w w1 → Calls Tryd.prog 19 #[.slice a n c] w1 fun e w' => ∃ v', e = .returned v' ∧ Names w' v' zs ∧ Nw w1 w'))
    (RS : Hid (∀ w1, Nw w w1 → Calls Tryd.prog 20 #[.slice a n c, .int .i64 x] w1 fun e w' => ∃ u, e = .returned u ∧ Good w' u zs x ∧ Nw w1 w')) :
    Calls Tryd.prog 4 #[.string s, .agg #[.int .i64 a0, .int .i64 b0], .agg #[.int .i64 a1, .int .i64 b1], .slice a n c, .int .i64 x] w fun e w' => e = .returned (.bool true) ∧ Nw w w' := by
  have hs' : (s.size : Int) ≤ 1000 := by omega
  have hn' : (n : Int) ≤ 100 := by omega
  have hS0 := boxes_start' w a0 b0 a1 b1 24
  go_enter Tryd.func4, Tryd.ntmps4
  go_wp2_with fail
  refine (lives_ok _).mono ?_
  rintro e w1 ⟨rfl, g1⟩
  have hS := boxes_step g1 hS0
  clear hS0 g1
  go_wp2
  go_region_held3 (fun x' => (x'.cell? ⟨w.heap.size, 0, none⟩ = some (.int .i64 a0) ∧ x'.cell? ⟨w.heap.size, 1, none⟩ = some (.int .i64 b0) ∧ x'.cell? ⟨w.heap.size + 1, 0, none⟩ = some (.int .i64 a1) ∧ x'.cell? ⟨w.heap.size + 1, 1, none⟩ = some (.int .i64 b1)) ∧ (w.heap.size + 1 < x'.heap.size ∧ Nw w x'))
    (first | assumption | exact boxes_step (Nw.refl _).drew1 (by assumption) | exact boxes_step (by assumption) (by assumption))
    (first | (go_at_call 10; (with_reducible refine (r0.out _).mono ?_); rintro e _ ⟨rfl, _⟩) | (go_at_call 15; (with_reducible refine (t0.out _).mono ?_); rintro e _ ⟨rfl, _⟩) | (go_at_call 9; (with_reducible refine (r1.out _).mono ?_); rintro e _ ⟨rfl, _⟩) | (go_at_call 16; (with_reducible refine (t1.out _).mono ?_); rintro e _ ⟨rfl, _⟩) | (go_at_call 11; (with_reducible refine (r2.out _).mono ?_); rintro e _ ⟨rfl, _⟩) | (go_at_call 17; (with_reducible refine (t2.out _).mono ?_); rintro e _ ⟨rfl, _⟩) | (go_at_call 12; (with_reducible refine (r3.out _).mono ?_); rintro e _ ⟨rfl, _⟩) | (go_at_call 18; (with_reducible refine (t3.out _).mono ?_); rintro e _ ⟨rfl, _⟩) | (go_at_call 19; (with_reducible refine (OW.out _ (And.right (And.right (by assumption)))).mono ?_); rintro e _ ⟨v', rfl, _, _⟩) | (go_at_call 13; (with_reducible refine (good _ zs x _ (by assumption) hz).mono ?_); rintro e _ ⟨u, rfl, _, _⟩) | (go_at_call 20; (with_reducible refine (RS.out _ (And.right (And.right (by assumption)))).mono ?_); rintro e _ ⟨u', rfl, _, _⟩) | (go_at_call 14; (with_reducible refine (goodSame _ _ zs x _ (Good.grown (by assumption) (by assumption)) (by assumption)).mono ?_); rintro e _ ⟨rfl, _⟩))
  all_goals
    rename_i hS2
    go_wp2
    go_ret
    exact ⟨rfl, hS2.2.2⟩
theorem far_s (s : ByteArray) (a0 b0 a1 b1 : Int) (a : Option Addr) (n c : Nat) (x : Int) (w : World) (hs : ¬ s.size ≤ 1000) :
    Calls Tryd.prog 4 #[.string s, .agg #[.int .i64 a0, .int .i64 b0], .agg #[.int .i64 a1, .int .i64 b1], .slice a n c, .int .i64 x] w fun e w' => e = .returned (.bool true) ∧ Nw w w' := by
  have hs' : (1000 : Int) < s.size := by omega
  go_enter Tryd.func4, Tryd.ntmps4
  go_wp2_with fail
  refine (lives_ok _).mono ?_
  rintro e w1 ⟨rfl, g1⟩
  go_wp2
  go_ret
  exact ⟨rfl, (((Nw.refl _).alloc _).alloc _).trans g1⟩
theorem far_n (s : ByteArray) (a0 b0 a1 b1 : Int) (a : Option Addr) (n c : Nat) (x : Int) (w : World) (hs : s.size ≤ 1000) (hn : ¬ n ≤ 100) :
    Calls Tryd.prog 4 #[.string s, .agg #[.int .i64 a0, .int .i64 b0], .agg #[.int .i64 a1, .int .i64 b1], .slice a n c, .int .i64 x] w fun e w' => e = .returned (.bool true) ∧ Nw w w' := by
  have hs' : ¬ (1000 : Int) < s.size := by omega
  have hn' : (100 : Int) < n := by omega
  go_enter Tryd.func4, Tryd.ntmps4
  go_wp2_with fail
  refine (lives_ok _).mono ?_
  rintro e w1 ⟨rfl, g1⟩
  go_wp2
  go_ret
  exact ⟨rfl, (((Nw.refl _).alloc _).alloc _).trans g1⟩
theorem walk {w0 : World} (s : ByteArray) (a0 b0 a1 b1 : Int) (a : Option Addr) (n c : Nat) (zs : List (Int × Int)) (x : Int) (ws : s.size ≤ maxLen) (q0 : (Lit.int .i64 a0).wf = true) (q1 : (Lit.int .i64 b0).wf = true) (q2 : (Lit.int .i64 a1).wf = true) (q3 : (Lit.int .i64 b1).wf = true)
    (hz : zs.length = n) (hc : n ≤ c) (hm : c ≤ maxLen) (hv : Names w0 (.slice a n c) zs) (wx : (Lit.int .i64 x).wf = true) (w : World) (hw : w0 = w) :
    Calls Tryd.prog 4 #[.string s, .agg #[.int .i64 a0, .int .i64 b0], .agg #[.int .i64 a1, .int .i64 b1], .slice a n c, .int .i64 x] w fun e w' => e = .returned (.bool true) ∧ Nw w w' := by
  subst hw
  by_cases hs : s.size ≤ 1000
  · by_cases hn : n ≤ 100
    · have hz' : zs.length ≤ 1000 := by omega
      exact way s a0 b0 a1 b1 a n c zs x w0 hs hn hz' (fnv s.data.toList) (fun w => sum_any s w (by omega)) (fun w => refSum_any s w (by omega)) (hsh a0 b0) (hash_any a0 b0) (refHash_any a0 b0) (ofS a0 b0 x) (of_any a0 b0 x) (refOf_any a0 b0 x) (smS a0 b0 a1 b1 x) (same_any a0 b0 a1 b1 x) (refSame_any a0 b0 a1 b1 x)
        (fun w1 g => own_any _ zs w1 (hv.grown g) hz') (fun w1 g => goodRef _ zs x w1 (hv.grown g) hz')
    · exact far_n s a0 b0 a1 b1 a n c x w0 hs hn
  · exact far_s s a0 b0 a1 b1 a n c x w0 hs
end Go.Proofs.YtcffpbikjeimgaaDoor.stripeCalls
