
/- PoolScript: both pools side by side; the walk. -/
import Derived.Test.YtckbjgcelpmffaaPoT
import Derived.Test.YtckbjgcelpmffaaOrd
namespace Go.Proofs.Ytckbjgcelpmffaa.poolScript
open Go.RowKit
set_option linter.unusedVariables false

/-- The program's pool and the document's, side by side. -/
structure Sc (w W : World) (p : Nat) (L : List Bool) (F : Nat → Prop) (o g : Nat) (M : List Bool) : Prop where
  a : PAcc w W p L F
  b : Rp W o g M
  on : w.heap.size ≤ o
  gn : w.heap.size ≤ g
  oF : ¬ F o
  gF : ¬ F g
/-- A number of the slice that came in. -/
def One (b o : Nat) (X : Int) (x : World) : Prop := x.cell? ⟨b, o, none⟩ = some (.int .i64 X)
theorem Sc.nw {w W W' : World} {p o g : Nat} {L M : List Bool} {F : Nat → Prop} (h : Sc w W p L F o g M) (k : Nw W W') : Sc w W' p L F o g M := ⟨h.a.step k, h.b.nw k, h.on, h.gn, h.oF, h.gF⟩
theorem Sc.one {w W : World} {p o g : Nat} {L M : List Bool} {F : Nat → Prop} {b ob : Nat} {X : Int} (h : Sc w W p L F o g M) (hb : b < w.heap.size) (c : w.cell? ⟨b, ob, none⟩ = some (.int .i64 X)) : One b ob X W := (h.a.nw.cell hb).trans c
theorem Sc.one' {w W : World} {p o g : Nat} {L M : List Bool} {F : Nat → Prop} {b ob : Nat} {X : Int} (h : Sc w W p L F o g M) (hb : b < w.heap.size) (c : w.cell? ⟨b, ob, none⟩ = some (.int .i64 X)) : One b ob X W.drew := (h.nw ((Nw.refl W).drewN 1)).one hb c
theorem Sc.stepA {w W W' : World} {p o g : Nat} {L L' M : List Bool} {F F' : Nat → Prop} (h : Sc w W p L F o g M) (a : PAcc w W' p L' F') (hf : ∀ k, F' k → F k ∨ W.heap.size ≤ k) (ht : Tch F W W') : Sc w W' p L' F' o g M :=
  ⟨a, h.b.tch ht h.oF h.gF, h.on, h.gn, fun e => (hf _ e).elim h.oF (fun q => by have := h.b.ol; omega), fun e => (hf _ e).elim h.gF (fun q => by have := h.b.gl; omega)⟩
theorem Sc.stepB {w W W' : World} {p o g : Nat} {L M M' : List Bool} {F : Nat → Prop} (h : Sc w W p L F o g M) (k : RpTo W o g M' W') : Sc w W' p L F o g M' :=
  ⟨⟨h.a.po.tch k.2 (fun i e q => h.gF (q ▸ e)), h.a.new, nw_tch h.a.nw k.2 (fun i e => e ▸ h.gn)⟩, k.1, h.on, h.gn, h.oF, h.gF⟩
theorem sx_takeA {w W : World} {p o g : Nat} {L M : List Bool} {F : Nat → Prop} (h : Sc w W p L F o g M) (x E : Int) (hR : tkR L = (x, E)) :
    Calls Try.prog 10 #[.pointer (some ⟨p, 0, none⟩)] W fun e W' => e = .returned (.tuple #[.int .i64 x, .int .i64 E]) ∧ ∃ F', Sc w W' p (tkL L) F' o g M :=
  (pacc_take h.a x E _ hR rfl).mono fun _ _ ⟨h1, F', h2, h3, h4⟩ => ⟨h1, F', h.stepA h2 h3 h4⟩
theorem sx_takeB {w W : World} {p o g : Nat} {L M : List Bool} {F : Nat → Prop} (h : Sc w W p L F o g M) (x E : Int) (hR : tkR M = (x, E)) :
    Calls Try.prog 18 #[.pointer (some ⟨o, 0, none⟩)] W fun e W' => e = .returned (.tuple #[.int .i64 x, .int .i64 E]) ∧ Sc w W' p L F o g (tkL M) := by
  refine (rtake_at h.b).mono ?_
  rintro e W' ⟨h1, h2⟩
  rw [hR] at h1
  exact ⟨h1, h.stepB h2⟩
theorem sx_giveA {w W : World} {p o g : Nat} {L M : List Bool} {F : Nat → Prop} (h : Sc w W p L F o g M) (x E : Int) (hR : gvR L x = E) :
    Calls Try.prog 11 #[.pointer (some ⟨p, 0, none⟩), .int .i64 x] W fun e W' => e = .returned (.int .i64 E) ∧ ∃ F', Sc w W' p (gvL L x) F' o g M :=
  (pacc_give h.a x E _ hR rfl).mono fun _ _ ⟨h1, F', h2, h3, h4⟩ => ⟨h1, F', h.stepA h2 h3 h4⟩
theorem sx_giveB {w W : World} {p o g : Nat} {L M : List Bool} {F : Nat → Prop} (h : Sc w W p L F o g M) (x E : Int) (hR : gvR M x = E) :
    Calls Try.prog 19 #[.pointer (some ⟨o, 0, none⟩), .int .i64 x] W fun e W' => e = .returned (.int .i64 E) ∧ Sc w W' p L F o g (gvL M x) := by
  refine (rgive_at h.b x).mono ?_
  rintro e W' ⟨h1, h2⟩
  rw [hR] at h1
  exact ⟨h1, h.stepB h2⟩
def Keeps (w W : World) (p o g : Nat) : Prop := ∃ F L, Sc w W p L F o g L
set_option maxRecDepth 100000 in
set_option maxHeartbeats 8000000 in
theorem walk (N : Nat) (n1 : N ≤ 128) (a1 : Option Addr) (len1 cap1 : Nat) (z1 : List Int) (w : World) (w1 : IsNum w a1 len1 cap1 z1) (h0 : len1 ≤ 80) :
    Calls Try.prog 4 #[.int .i64 N, .slice a1 len1 cap1] w fun e w' => e = .returned (.bool true) ∧ Nw w w' := by
  have k0 : ¬ (80 : Int) < (len1 : Int) := by omega
  have R0 := Lib.hid w1
  clear w1
  go_enter Try.func4, Try.ntmps4
  go_wp2_with fail
  refine (lives_ok _).mono ?_
  rintro e wl ⟨rfl, g0⟩
  have G0 := Lib.hid g0
  clear g0
  go_wp2_with fail
  refine (pacc_new w wl G0.out N N rfl n1).mono ?_
  rintro e wa ⟨p, Fa, rfl, ha, _, _⟩
  have HA := Lib.hid ha
  clear ha k0 G0
  go_wp2_with fail
  refine (rpnew_any N n1 wa).mono ?_
  rintro e wb ⟨o, g, rfl, hb, ho, hg, hn⟩
  have H0 := Lib.hid (show Keeps w wb p o g from ⟨Fa, _, HA.out.step hn, hb, Nat.le_trans HA.out.nw.sz ho, Nat.le_trans HA.out.nw.sz hg, fun e => by have := HA.out.po.own _ e; omega, fun e => by have := HA.out.po.own _ e; omega⟩)
  clear hb ho hg hn HA
  go_wp2
  go_loopw [9] (fun vi wr => ∃ k : Nat, vi = .int .i64 k ∧ k ≤ len1 ∧ Hid (Keeps w wr p o g)) (fun vi _ => len1 - (intOf vi).toNat)
  case atStart => exact ⟨0, rfl, Nat.zero_le _, H0⟩
  case round =>
    clear H0
    obtain ⟨k, rfl, hk, HK⟩ := hrel
    by_cases hlt : k < len1
    · obtain ⟨b, ob, rfl, hml, hbl, hcs, hwf⟩ := R0.out.at (by omega)
      have hki : (k : Int) < (len1 : Int) := by omega
      obtain ⟨F, L, hP⟩ := HK.out
      have H := Lib.hid hP
      have C0 := Lib.hid (hcs k hlt)
      have c0 := hP.one hbl C0.out
      clear hcs hwf hP HK
      generalize z1.getD k 0 = X at *
      by_cases hx : X < 0
      · obtain ⟨⟨y, E⟩, hR⟩ : ∃ q, tkR L = q := ⟨_, rfl⟩
        have HR := Lib.hid hR
        clear hR
        have c1 : wr.cell? ⟨b, ob + k, none⟩ = some (.int .i64 X) := c0
        clear c0
        go_wp2_with fail
        refine (sx_takeA H.out y E HR.out).mono ?_
        rintro e wy ⟨rfl, F2, p1⟩
        clear H
        have H := Lib.hid p1
        clear p1
        go_wp2_with fail
        refine (sx_takeB H.out y E HR.out).mono ?_
        rintro e wz ⟨rfl, p1⟩
        clear H
        have H := Lib.hid p1
        clear p1 HR c1
        go_wp2_with fail
        refine (pacc_lent H.out.a _ rfl).mono ?_
        rintro e wv ⟨v1, rfl, i1, _, i3⟩
        have H1 := Lib.hid (H.out.nw i3)
        have I1 := Lib.hid i1
        obtain ⟨ao, cp, rfl, _⟩ := i1.box
        clear H i1 i3
        have H := H1
        clear H1
        go_wp2
        have hS0 : One b (ob + k) X wv.drew := H.out.one' hbl C0.out
        have H1 := Lib.hid (H.out.nw ((Nw.refl wv).drewN 1))
        have I1a := Lib.hid (I1.out.nw ((Nw.refl wv).drewN 1))
        change Hid (Sc w wv.drew _ _ _ _ _ _) at H1
        change Hid (IS wv.drew _ _) at I1a
        clear H I1
        have H := H1
        have I1 := I1a
        clear H1 I1a
        have q1 : ∀ x, One b (ob + k) X x → x.cell? ⟨b, ob + k, none⟩ = some (.int .i64 X) := fun x h => h
        refine region_told [some true, some true, some true, some true, some true, some true, some true, some true, some true, some false, none, some false, none, some true, some true, some true, some true, some false, some true, none, some false, none, some true, some true, some true, some true, some false, some true, none, some false, none, some true, some true, some true, some true, some true, some true, some true, some true, some false, some true, some true, some true, some true, some true, none, some false, none, some true, some true] (One b (ob + k) X) (by kernel_rfl) (by kernel_rfl) (by kernel_rfl) hS0 ?_
        repeat (first
          | (refine HW.off ?_)
          | (refine HW.take' ?_; apply Exists.intro; refine ⟨Or.inl ⟨by rfl, ?_⟩, ?_⟩; (intro x hx; go_simp; first | done | with_reducible rfl); (try simp only [Act.put, List.setIfInBounds_toArray, List.set_cons_zero, List.set_cons_succ]))
          | (refine HW.go (fun K hK => ?_); go_simp; (first | (go_at_call 20; (with_reducible refine (reach_at H.out.b).mono ?_); rintro e wy ⟨v2, rfl, p1, _, p3⟩; have H' := Lib.hid (H.out.nw p3); clear H; have H := H'; clear H'; have I2 := Lib.hid p1; have I1' := Lib.hid (I1.out.nw p3); clear p1 p3 I1; refine hK.out _ _ (H.out.one hbl C0.out) ?_; intro _; clear hK K) | (go_at_call 16; (with_reducible refine (same_any _ _ _ _ I1'.out I2.out).mono ?_); rintro e wy ⟨rfl, p3⟩; have H' := Lib.hid (H.out.nw p3); clear H; have H := H'; clear H'; clear p3 I2 I1'; refine hK.out _ _ (H.out.one hbl C0.out) ?_; intro _; clear hK K) | (go_at_call 14; (with_reducible refine (pacc_live H.out.a _ rfl).mono ?_); rintro e wy ⟨rfl, p3⟩; have H' := Lib.hid (H.out.nw p3); clear H; have H := H'; clear H'; clear p3; refine hK.out _ _ (H.out.one hbl C0.out) ?_; intro _; clear hK K) | (go_at_call 21; (with_reducible refine (rlive_at H.out.b).mono ?_); rintro e wy ⟨rfl, p3⟩; have H' := Lib.hid (H.out.nw p3); clear H; have H := H'; clear H'; clear p3; refine hK.out _ _ (H.out.one hbl C0.out) ?_; intro _; clear hK K) | (go_at_call 15; (with_reducible refine (pacc_most H.out.a _ rfl).mono ?_); rintro e wy ⟨rfl, rfl⟩; skip; refine hK.out _ _ (H.out.one hbl C0.out) ?_; intro _; clear hK K) | (go_at_call 22; (with_reducible refine (rmost_at H.out.b).mono ?_); rintro e wy ⟨rfl, rfl⟩; skip; refine hK.out _ _ (H.out.one hbl C0.out) ?_; intro _; clear hK K) | (go_at_call 13; (with_reducible refine (pacc_has H.out.a _ _ rfl).mono ?_); rintro e wy ⟨rfl, rfl⟩; skip; refine hK.out _ _ (H.out.one hbl C0.out) ?_; intro _; clear hK K) | (go_at_call 23; (with_reducible refine (rhas_at H.out.b X).mono ?_); rintro e wy ⟨rfl, rfl⟩; skip; refine hK.out _ _ (H.out.one hbl C0.out) ?_; intro _; clear hK K)); (try simp only [Act.put, List.setIfInBounds_toArray, List.set_cons_zero, List.set_cons_succ])))
        refine HW.end_ ?_
        refine NoPanic.normal ?_
        clear q1 hS0
        go_wp2
        go_roundw
        case rel => exact ⟨k + 1, by go_num, by omega, Lib.hid ⟨_, _, H.out⟩⟩
        case measure => simp [intOf]; omega
      · obtain ⟨E, hR⟩ : ∃ q, gvR L X = q := ⟨_, rfl⟩
        have HR := Lib.hid hR
        clear hR
        have c1 : wr.cell? ⟨b, ob + k, none⟩ = some (.int .i64 X) := c0
        clear c0
        go_wp2
        have hS0 : One b (ob + k) X wr.drew := H.out.one' hbl C0.out
        have H1 := Lib.hid (H.out.nw ((Nw.refl wr).drewN 1))
        change Hid (Sc w wr.drew _ _ _ _ _ _) at H1
        clear H c1
        have H := H1
        clear H1
        have q1 : ∀ x, One b (ob + k) X x → x.cell? ⟨b, ob + k, none⟩ = some (.int .i64 X) := fun x h => h
        refine region_told [some true, some true, some true, some true, some true, some false, some true, some true, some true, some true, some true, none, some false, none, some true, some true] (One b (ob + k) X) (by kernel_rfl) (by kernel_rfl) (by kernel_rfl) hS0 ?_
        repeat (first
          | (refine HW.off ?_)
          | (refine HW.take' ?_; apply Exists.intro; refine ⟨Or.inl ⟨by rfl, ?_⟩, ?_⟩; (intro x hx; go_simp; first | done | with_reducible rfl); (try simp only [Act.put, List.setIfInBounds_toArray, List.set_cons_zero, List.set_cons_succ]))
          | (refine HW.go (fun K hK => ?_); go_simp; (first | (go_at_call 11; (with_reducible refine (sx_giveA H.out X E HR.out).mono ?_); rintro e wy ⟨rfl, F2, p1⟩; clear H; have H := Lib.hid p1; clear p1; refine hK.out _ _ (H.out.one hbl C0.out) ?_; intro _; clear hK K) | (go_at_call 19; (with_reducible refine (sx_giveB H.out X E HR.out).mono ?_); rintro e wz ⟨rfl, p1⟩; clear H; have H := Lib.hid p1; clear p1; refine hK.out _ _ (H.out.one hbl C0.out) ?_; intro _; clear hK K)); (try simp only [Act.put, List.setIfInBounds_toArray, List.set_cons_zero, List.set_cons_succ])))
        refine HW.end_ ?_
        refine NoPanic.normal ?_
        clear q1 hS0 HR
        go_wp2_with fail
        refine (pacc_lent H.out.a _ rfl).mono ?_
        rintro e wv ⟨v1, rfl, i1, _, i3⟩
        have H1 := Lib.hid (H.out.nw i3)
        have I1 := Lib.hid i1
        obtain ⟨ao, cp, rfl, _⟩ := i1.box
        clear H i1 i3
        have H := H1
        clear H1
        go_wp2
        have hS0 : One b (ob + k) X wv.drew := H.out.one' hbl C0.out
        have H1 := Lib.hid (H.out.nw ((Nw.refl wv).drewN 1))
        have I1a := Lib.hid (I1.out.nw ((Nw.refl wv).drewN 1))
        change Hid (Sc w wv.drew _ _ _ _ _ _) at H1
        change Hid (IS wv.drew _ _) at I1a
        clear H I1
        have H := H1
        have I1 := I1a
        clear H1 I1a
        have q1 : ∀ x, One b (ob + k) X x → x.cell? ⟨b, ob + k, none⟩ = some (.int .i64 X) := fun x h => h
        refine region_told [some true, some true, some true, some true, some true, some true, some true, some true, some true, some false, none, some false, none, some true, some true, some true, some true, some false, some true, none, some false, none, some true, some true, some true, some true, some false, some true, none, some false, none, some true, some true, some true, some true, some true, some true, some true, some true, some false, some true, some true, some true, some true, some true, none, some false, none, some true, some true] (One b (ob + k) X) (by kernel_rfl) (by kernel_rfl) (by kernel_rfl) hS0 ?_
        repeat (first
          | (refine HW.off ?_)
          | (refine HW.take' ?_; apply Exists.intro; refine ⟨Or.inl ⟨by rfl, ?_⟩, ?_⟩; (intro x hx; go_simp; first | done | with_reducible rfl); (try simp only [Act.put, List.setIfInBounds_toArray, List.set_cons_zero, List.set_cons_succ]))
          | (refine HW.go (fun K hK => ?_); go_simp; (first | (go_at_call 20; (with_reducible refine (reach_at H.out.b).mono ?_); rintro e wy ⟨v2, rfl, p1, _, p3⟩; have H' := Lib.hid (H.out.nw p3); clear H; have H := H'; clear H'; have I2 := Lib.hid p1; have I1' := Lib.hid (I1.out.nw p3); clear p1 p3 I1; refine hK.out _ _ (H.out.one hbl C0.out) ?_; intro _; clear hK K) | (go_at_call 16; (with_reducible refine (same_any _ _ _ _ I1'.out I2.out).mono ?_); rintro e wy ⟨rfl, p3⟩; have H' := Lib.hid (H.out.nw p3); clear H; have H := H'; clear H'; clear p3 I2 I1'; refine hK.out _ _ (H.out.one hbl C0.out) ?_; intro _; clear hK K) | (go_at_call 14; (with_reducible refine (pacc_live H.out.a _ rfl).mono ?_); rintro e wy ⟨rfl, p3⟩; have H' := Lib.hid (H.out.nw p3); clear H; have H := H'; clear H'; clear p3; refine hK.out _ _ (H.out.one hbl C0.out) ?_; intro _; clear hK K) | (go_at_call 21; (with_reducible refine (rlive_at H.out.b).mono ?_); rintro e wy ⟨rfl, p3⟩; have H' := Lib.hid (H.out.nw p3); clear H; have H := H'; clear H'; clear p3; refine hK.out _ _ (H.out.one hbl C0.out) ?_; intro _; clear hK K) | (go_at_call 15; (with_reducible refine (pacc_most H.out.a _ rfl).mono ?_); rintro e wy ⟨rfl, rfl⟩; skip; refine hK.out _ _ (H.out.one hbl C0.out) ?_; intro _; clear hK K) | (go_at_call 22; (with_reducible refine (rmost_at H.out.b).mono ?_); rintro e wy ⟨rfl, rfl⟩; skip; refine hK.out _ _ (H.out.one hbl C0.out) ?_; intro _; clear hK K) | (go_at_call 13; (with_reducible refine (pacc_has H.out.a _ _ rfl).mono ?_); rintro e wy ⟨rfl, rfl⟩; skip; refine hK.out _ _ (H.out.one hbl C0.out) ?_; intro _; clear hK K) | (go_at_call 23; (with_reducible refine (rhas_at H.out.b X).mono ?_); rintro e wy ⟨rfl, rfl⟩; skip; refine hK.out _ _ (H.out.one hbl C0.out) ?_; intro _; clear hK K)); (try simp only [Act.put, List.setIfInBounds_toArray, List.set_cons_zero, List.set_cons_succ])))
        refine HW.end_ ?_
        refine NoPanic.normal ?_
        clear q1 hS0
        go_wp2
        go_roundw
        case rel => exact ⟨k + 1, by go_num, by omega, Lib.hid ⟨_, _, H.out⟩⟩
        case measure => simp [intOf]; omega
    · obtain ⟨F, L, hP⟩ := HK.out
      have G := Lib.hid hP.a.nw
      clear hP HK
      go_wp2
      go_ret
      exact ⟨rfl, G.out⟩

set_option maxRecDepth 100000 in
theorem law_any (m : Int) (a1 : Option Addr) (len1 cap1 : Nat) (z1 : List Int) (w : World) (wn : (Lit.int .i64 m).wf = true) (w1 : IsNum w a1 len1 cap1 z1) :
    Calls Try.prog 4 #[.int .i64 m, .slice a1 len1 cap1] w fun e w' => e = .returned (.bool true) ∧ Nw w w' := by
  by_cases h : len1 ≤ 80
  · by_cases q : 0 ≤ m ∧ m ≤ 128
    · obtain ⟨N, rfl⟩ := Int.eq_ofNat_of_zero_le q.1
      exact walk N (by omega) a1 len1 cap1 z1 w w1 h
    · have k0 : ¬ (80 : Int) < (len1 : Int) := by omega
      have Q := Lib.hid q
      clear q w1
      go_enter Try.func4, Try.ntmps4
      go_wp2_with fail
      refine (lives_ok _).mono ?_
      rintro e w0 ⟨rfl, g0⟩
      have G0 := Lib.hid g0
      clear g0
      go_wp2_with fail
      refine (pnew_bad m _ Q.out).mono ?_
      rintro e w1 ⟨rfl, rfl⟩
      go_wp2_with fail
      refine (rpnew_bad m _ Q.out).mono ?_
      rintro e w1 ⟨rfl, rfl⟩
      go_wp2
      go_ret
      exact ⟨rfl, G0.out⟩
  · have k0 : (80 : Int) < (len1 : Int) := by omega
    clear w1
    go_enter Try.func4, Try.ntmps4
    go_wp2_with fail
    refine (lives_ok _).mono ?_
    rintro e w0 ⟨rfl, g0⟩
    have G0 := Lib.hid g0
    clear g0
    go_wp2
    go_ret
    exact ⟨rfl, G0.out⟩
end Go.Proofs.Ytckbjgcelpmffaa.poolScript
