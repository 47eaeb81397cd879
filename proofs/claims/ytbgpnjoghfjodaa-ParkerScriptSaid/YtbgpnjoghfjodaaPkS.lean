
/- Parked threads of the call's own, step by step; lives. -/
import Derived.Test.YtbgpnjoghfjodaaPkB
namespace Go.Proofs.Ytbgpnjoghfjodaa
open Go.RowKit

structure Acc (w W : World) (p : Nat) (ss : List Int) : Prop where
  pk : Pk W p ss
  new : w.heap.size ≤ p
  nw : Nw w W
theorem Acc.step {w W W' : World} {p : Nat} {ss : List Int} (h : Acc w W p ss) (k : Nw W W') : Acc w W' p ss := ⟨h.pk.nw k, h.new, h.nw.trans k⟩
theorem Acc.other {w W W' : World} {p q : Nat} {ss : List Int} (h : Acc w W p ss) (k : Tch (fun k => k = q) W W') (hq : w.heap.size ≤ q) (hd : p ≠ q) : Acc w W' p ss :=
  ⟨h.pk.tch k hd, h.new, nw_tch h.nw k (fun i e => by subst e; exact hq)⟩
theorem Acc.vl {w W : World} {p : Nat} {ss : List Int} (h : Acc w W p ss) : Vl ss := h.pk.vl
/-- A step of threads of the call's own. -/
def AccTo (w W : World) (p : Nat) (ss : List Int) (W' : World) : Prop := Acc w W' p ss ∧ Tch (fun k => k = p) W W'
theorem Acc.to {w W W' : World} {p : Nat} {ss ss' : List Int} (h : Acc w W p ss) (k : PkTo W p ss' W') : AccTo w W p ss' W' := ⟨⟨k.1, h.new, nw_tch h.nw k.2 (fun i e => by subst e; exact h.new)⟩, k.2⟩
theorem acc_bad (n : Int) (W : World) (hn : ¬ (1 ≤ n ∧ n ≤ 8)) : Calls Try.prog 9 #[.int .i64 n] W fun e W' => e = .returned (.tuple #[.pointer none, .int .i64 2]) ∧ W = W' :=
  (new_any n W).mono fun _ _ h => h.1 hn
theorem acc_new (w W : World) (hW : Nw w W) (n : Int) (N : Nat) (hn : n = N) (n0 : 1 ≤ N) (n1 : N ≤ 8) :
    Calls Try.prog 9 #[.int .i64 n] W fun e W' => ∃ p, e = .returned (.tuple #[.pointer (some ⟨p, 0, none⟩), .int .i64 0]) ∧ Acc w W' p (List.replicate N 0) ∧ W.heap.size ≤ p ∧ Nw W W' := by
  subst hn
  refine (new_any N W).mono ?_
  rintro e W' h
  obtain ⟨p, rfl, h1, h2, h4⟩ := h.2 ⟨by omega, by omega⟩
  exact ⟨p, rfl, ⟨by simpa using h1, Nat.le_trans hW.sz h2, hW.trans h4⟩, h2, h4⟩
theorem acc_park {w W : World} {p : Nat} {ss : List Int} (h : Acc w W p ss) (t : Int) (b : Bool) (E : Int) (ss' : List Int) (hR : parkR ss t = (b, E)) (hS : parkS ss t = ss') :
    Calls Try.prog 10 #[.pointer (some ⟨p, 0, none⟩), .int .i64 t] W fun e W' => e = .returned (.tuple #[.bool b, .int .i64 E]) ∧ AccTo w W p ss' W' := by
  refine (park_at h.pk t).mono ?_
  rintro e W' ⟨h1, h2⟩
  rw [hR] at h1
  rw [hS] at h2
  exact ⟨h1, h.to h2⟩
theorem acc_unpark {w W : World} {p : Nat} {ss : List Int} (h : Acc w W p ss) (t : Int) (b : Bool) (E : Int) (ss' : List Int) (hR : unpR ss t = (b, E)) (hS : unpS ss t = ss') :
    Calls Try.prog 11 #[.pointer (some ⟨p, 0, none⟩), .int .i64 t] W fun e W' => e = .returned (.tuple #[.bool b, .int .i64 E]) ∧ AccTo w W p ss' W' := by
  refine (unpark_at h.pk t).mono ?_
  rintro e W' ⟨h1, h2⟩
  rw [hR] at h1
  rw [hS] at h2
  exact ⟨h1, h.to h2⟩
theorem acc_drop {w W : World} {p : Nat} {ss : List Int} (h : Acc w W p ss) (t : Int) (b : Bool) (ss' : List Int) (hR : isB ss t 2 = b) (hS : takeS ss t 2 = ss') :
    Calls Try.prog 13 #[.pointer (some ⟨p, 0, none⟩), .int .i64 t] W fun e W' => e = .returned (.bool b) ∧ AccTo w W p ss' W' := by
  refine (drop_at h.pk t).mono ?_
  rintro e W' ⟨h1, h2⟩
  rw [hR] at h1
  rw [hS] at h2
  exact ⟨h1, h.to h2⟩
theorem acc_parked {w W : World} {p : Nat} {ss : List Int} (h : Acc w W p ss) (t : Int) (b : Bool) (hR : isB ss t 1 = b) :
    Calls Try.prog 14 #[.pointer (some ⟨p, 0, none⟩), .int .i64 t] W fun e W' => e = .returned (.bool b) ∧ Acc w W' p ss := by
  refine (parked_at h.pk t).mono ?_
  rintro e W' ⟨h1, h2⟩
  rw [hR] at h1
  exact ⟨h1, h.step h2⟩
theorem acc_token {w W : World} {p : Nat} {ss : List Int} (h : Acc w W p ss) (t : Int) (b : Bool) (hR : isB ss t 2 = b) :
    Calls Try.prog 12 #[.pointer (some ⟨p, 0, none⟩), .int .i64 t] W fun e W' => e = .returned (.bool b) ∧ Acc w W' p ss := by
  refine (token_at h.pk t).mono ?_
  rintro e W' ⟨h1, h2⟩
  rw [hR] at h1
  exact ⟨h1, h.step h2⟩
theorem acc_waiting {w W : World} {p : Nat} {ss : List Int} (h : Acc w W p ss) (zs : List Int) (hR : waitL ss = zs) :
    Calls Try.prog 16 #[.pointer (some ⟨p, 0, none⟩)] W (NewIS W zs) := by
  subst hR
  exact waiting_at h.pk
theorem acc_len {w W : World} {p : Nat} {ss : List Int} (h : Acc w W p ss) (N : Nat) (hN : ss.length = N) :
    Calls Try.prog 17 #[.pointer (some ⟨p, 0, none⟩)] W fun e W' => e = .returned (.int .i64 N) ∧ W = W' := by
  subst hN
  exact len_at h.pk

set_option maxHeartbeats 1000000 in
theorem lives_ok (w : World) : Calls Try.prog 8 #[] w fun e w' => e = .returned (.bool true) ∧ Nw w w' := by
  go_enter Try.func8, Try.ntmps8
  go_wp2_with fail
  refine (acc_new w w (Nw.refl w) 1 1 rfl (by omega) (by omega)).mono ?_
  rintro e w0 ⟨p, rfl, h, _, _⟩
  have H0 := Lib.hid h
  clear h
  go_wp2_with fail
  refine (acc_unpark H0.out 0 false 0 [2] (by decide) (by decide)).mono ?_
  rintro e w1 ⟨rfl, h, _⟩
  have H1 := Lib.hid h
  clear h H0
  go_wp2_with fail
  refine (acc_park H1.out 0 true 0 [0] (by decide) (by decide)).mono ?_
  rintro e w2 ⟨rfl, h, _⟩
  have H2 := Lib.hid h
  clear h H1
  go_wp2_with fail
  refine (acc_park H2.out 0 false 0 [1] (by decide) (by decide)).mono ?_
  rintro e w3 ⟨rfl, h, _⟩
  have H3 := Lib.hid h
  clear h H2
  go_wp2_with fail
  refine (acc_unpark H3.out 0 true 0 [0] (by decide) (by decide)).mono ?_
  rintro e w4 ⟨rfl, h, _⟩
  have H4 := Lib.hid h
  clear h H3
  go_wp2
  go_ret
  exact ⟨rfl, H4.out.nw⟩
end Go.Proofs.Ytbgpnjoghfjodaa
