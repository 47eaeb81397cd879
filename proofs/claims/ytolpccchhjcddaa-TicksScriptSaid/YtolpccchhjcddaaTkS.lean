
/- A clock that the call itself made, step by step; lives. -/
import Derived.Test.YtolpccchhjcddaaTkR
namespace Go.Proofs.Ytolpccchhjcddaa
open Go.RowKit Go.Shelf

/-- A clock of the call's own: nothing that was there has changed. -/
structure Acc (w W : World) (c : Nat) (t : Int) (s : List Tm) (F : Nat → Prop) : Prop where
  ck : Clk W c t s F
  new : ∀ k, F k → w.heap.size ≤ k
  nw : Nw w W
theorem nw_tch {w a b : World} {F : Nat → Prop} (h : Nw w a) (k : Tch F a b) (hF : ∀ i, F i → w.heap.size ≤ i) : Nw w b :=
  Tch.toNw ((Tch.nw (S := fun _ => False) h).trans' k fun i hi e => by have := hF i e; omega)
theorem Acc.step {w W W' : World} {c : Nat} {t : Int} {s : List Tm} {F : Nat → Prop} (h : Acc w W c t s F) (k : Nw W W') : Acc w W' c t s F := ⟨h.ck.nw k, h.new, h.nw.trans k⟩
theorem acc_new (w W : World) (hW : Nw w W) : Calls Try.prog 8 #[] W fun e W' => ∃ c F, e = .returned (.pointer (some ⟨c, 0, none⟩)) ∧ Acc w W' c 0 [] F ∧ Nw W W' ∧ (∀ k, F k → W.heap.size ≤ k) := by
  refine (new_any W).mono ?_
  rintro e W' ⟨c, F, rfl, h1, h2, h3, h4⟩
  exact ⟨c, F, rfl, ⟨h1, fun k e => Nat.le_trans hW.sz (h3 k e), hW.trans h4⟩, h4, h3⟩
theorem acc_set {w W : World} {c : Nat} {t : Int} {s : List Tm} {F : Nat → Prop} (h : Acc w W c t s F) (hsm : s.length ≤ 50000) (a who mark E : Int) (s' : List Tm) (hE : setE t s a who mark = E) (hs : setS t s a who mark = s') :
    Calls Try.prog 9 #[.pointer (some ⟨c, 0, none⟩), .int .i64 a, .int .i64 who, .int .i64 mark] W fun e W' => e = .returned (.int .i64 E) ∧ ∃ F', Acc w W' c t s' F' ∧ (∀ k, F' k → F k ∨ W.heap.size ≤ k) ∧ Tch F W W' := by
  subst hE hs
  refine (set_any c t s F a who mark W h.ck hsm).mono ?_
  rintro e W' ⟨rfl, F', h1, h2, h3⟩
  exact ⟨rfl, F', ⟨h1, fun k e => (h2 k e).elim (h.new k) (fun q => Nat.le_trans h.nw.sz q), nw_tch h.nw h3 h.new⟩, h2, h3⟩
theorem acc_drop {w W : World} {c : Nat} {t : Int} {s : List Tm} {F : Nat → Prop} (h : Acc w W c t s F) (hsm : s.length ≤ 50000) (who mark : Int) (E : Bool) (s' : List Tm) (hE : s.any (keyB who mark) = E) (hs : drp s who mark = s') :
    Calls Try.prog 12 #[.pointer (some ⟨c, 0, none⟩), .int .i64 who, .int .i64 mark] W fun e W' => e = .returned (.bool E) ∧ ∃ F', Acc w W' c t s' F' ∧ (∀ k, F' k → F k ∨ W.heap.size ≤ k) ∧ Tch F W W' := by
  subst hE hs
  refine (drop_any c t s F who mark W h.ck hsm).mono ?_
  rintro e W' ⟨rfl, F', h1, h2, h3⟩
  exact ⟨rfl, F', ⟨h1, fun k e => (h2 k e).elim (h.new k) (fun q => Nat.le_trans h.nw.sz q), nw_tch h.nw h3 h.new⟩, h2, h3⟩
/-- What Pass has returned: the timers, in a block that no clock holds. -/
structure Got (w W : World) (v : Value) (l : List Tm) (F : Nat → Prop) : Prop where
  ts : TS W v l
  new : ∀ k, v.ownBlock = some k → w.heap.size ≤ k ∧ ¬ F k
theorem Got.tch {w W W' : World} {v : Value} {l : List Tm} {F F' : Nat → Prop} (h : Got w W v l F) (k : Tch F W W') (hF : ∀ i, F' i → F i ∨ W.heap.size ≤ i) : Got w W' v l F' :=
  ⟨h.ts.tch k fun g e => (h.new g e).2, fun g e => ⟨(h.new g e).1, fun q => by
    rcases hF g q with q | q
    · exact (h.new g e).2 q
    · have := (World.ownsRow.lt h.ts g e).2; omega⟩⟩
def PassA (w W : World) (c : Nat) (F : Nat → Prop) (T : Int) (d s' : List Tm) (e : Ending) (W' : World) : Prop :=
  ∃ v F', e = .returned (.tuple #[v, .int .i64 0]) ∧ Got w W' v d F' ∧ Acc w W' c T s' F' ∧ (∀ k, F' k → F k) ∧ Tch F W W'
theorem acc_pass {w W : World} {c : Nat} {t : Int} {s : List Tm} {F : Nat → Prop} (h : Acc w W c t s F) (hsm : s.length ≤ 50000) (n : Int) (h0 : 0 ≤ n) (h1 : n ≤ 1000) (T : Int) (d s' : List Tm) (hT : passT t n = T) (hd : due T s = d) (hs : late T s = s') :
    Calls Try.prog 11 #[.pointer (some ⟨c, 0, none⟩), .int .i64 n] W (PassA w W c F T d s') := by
  subst hT hd hs
  refine (pass_any c t s F n W h.ck hsm h0 h1).mono ?_
  rintro e W' ⟨v, F', rfl, p1, p2, p3, p4, p5⟩
  refine ⟨v, F', rfl, ⟨p1, fun k e => ⟨Nat.le_trans h.nw.sz (p2 k e), fun q => ?_⟩⟩, ⟨p3, fun k e => h.new k (p4 k e), nw_tch h.nw p5 h.new⟩, p4, p5⟩
  have := h.ck.own k (p4 k q)
  have := p2 k e
  omega
theorem ts_one (w : World) (x : Tm) : TS (w.alloc (.cells #[.int .i64 x.1, .int .i64 x.2.1, .int .i64 x.2.2] 28)) (.slice (some ⟨w.heap.size, 0, none⟩) 1 1) [x] :=
  World.ownsRow_lit w #[.int .i64 x.1, .int .i64 x.2.1, .int .i64 x.2.2] 1 (Nat.zero_le _) (by unfold maxLen; omega) rfl

set_option maxHeartbeats 1000000 in
theorem lives_ok (w : World) : Calls Try.prog 7 #[] w fun e w' => e = .returned (.bool true) ∧ Nw w w' := by
  go_enter Try.func7, Try.ntmps7
  go_wp2_with fail
  refine (acc_new w w (Nw.refl w)).mono ?_
  rintro e w1 ⟨c, F1, rfl, h1, _, _⟩
  have H1 := Lib.hid h1
  clear h1
  go_wp2_with fail
  refine (acc_set H1.out (by simp) 3 1 0 0 [(3, 1, 0)] (by decide) (by decide)).mono ?_
  rintro e w2 ⟨rfl, F2, h2, _, _⟩
  have H2 := Lib.hid h2
  clear h2
  go_wp2_with fail
  refine (acc_set H2.out (by simp) 2 2 0 0 [(2, 2, 0), (3, 1, 0)] (by decide) (by decide)).mono ?_
  rintro e w3 ⟨rfl, F3, h3, _, _⟩
  have H3 := Lib.hid h3
  clear h3
  go_wp2_with fail
  refine (acc_pass H3.out (by simp) 2 (by omega) (by omega) 2 [(2, 2, 0)] [(3, 1, 0)] (by decide) (by decide) (by decide)).mono ?_
  rintro e w4 ⟨v4, F4, rfl, g4, h4, _, _⟩
  have H4 := Lib.hid h4
  have G4 := Lib.hid g4
  clear h4 g4
  go_wp2_with fail
  refine (acc_pass H4.out (by simp) 1 (by omega) (by omega) 3 [(3, 1, 0)] [] (by decide) (by decide) (by decide)).mono ?_
  rintro e w5 ⟨v5, F5, rfl, g5, h5, s5, t5⟩
  have H5 := Lib.hid h5
  have G5 := Lib.hid g5
  have G4' := Lib.hid (G4.out.tch t5 (fun k e => .inl (s5 k e)))
  clear h5 g5 s5 t5
  go_wp2_with fail
  refine (same_any _ _ _ [(2, 2, 0)] (G4'.out.ts.nw ((Nw.refl _).alloc _)) (ts_one w5 (2, 2, 0))).mono ?_
  rintro e w6 ⟨rfl, g6⟩
  have G6 := Lib.hid g6
  clear g6
  go_wp2_with fail
  refine (same_any _ _ _ [(3, 1, 0)] (G5.out.ts.nw ((((Nw.refl _).alloc _).trans G6.out).alloc _)) (ts_one w6 (3, 1, 0))).mono ?_
  rintro e w7 ⟨rfl, g7⟩
  have G7 := Lib.hid g7
  clear g7
  go_wp2
  go_ret
  exact ⟨rfl, ((H5.out.nw.alloc _).trans (G6.out.alloc _)).trans G7.out⟩
end Go.Proofs.Ytolpccchhjcddaa
